/-
  Layer 8 (domtree), the reference: PostDominators.
-/
import Derived.Test.YtmopnceglnoncaaRefB
import Derived.Test.YtmopnceglnoncaaPost
namespace Go.Proofs.Ytmopnceglnoncaa
open Go.RowKit

theorem ne_whole {w : World} {base b : Nat} {e t : TypeId} {k : IntKind} {v : Value} {l : List Int} {cs : Array Value} (h : Own w base e k v l) (hw : Whole w b t cs) (ht : t ≠ e) : v.ownBlock ≠ some b := by
  obtain ⟨_, h2⟩ := h
  rcases h2 with ⟨rfl, _⟩ | ⟨g, cap, cur, rfl, _, hh, _⟩
  · simp [Value.ownBlock]
  · intro hg
    obtain rfl : g = b := by simpa [Value.ownBlock] using hg
    unfold Whole at hw
    rw [hh] at hw
    injection hw with hw
    injection hw with _ h3 _
    exact ht h3.symm
/-- The rows while the graph is reversed: the first a nodes, and of the next one the first j successors. -/
def pgAt (g : List (List Int)) (a j : Nat) : List (List Int) := revAt g a j ++ [ints (exTo g a)]
theorem revAt_len' (g : List (List Int)) (a j : Nat) : (revAt g a j).length = g.length := by simp [revAt]
theorem pgAt_len (g : List (List Int)) (a j : Nat) : (pgAt g a j).length = g.length + 1 := by unfold pgAt; rw [List.length_append, revAt_len', List.length_singleton]
theorem pgAt_zero (g : List (List Int)) : pgAt g 0 0 = List.replicate (g.length + 1) [] := by
  unfold pgAt
  rw [revAt_zero, List.replicate_succ']; rfl
theorem pgAt_get (g : List (List Int)) (a j : Nat) {x : Nat} (hx : x < g.length) : (pgAt g a j)[x]? = some (revTo g a x ++ hits x a ((g.getD a []).take j)) := by
  unfold pgAt
  rw [List.getElem?_append_left (by rw [revAt_len']; exact hx), revAt_get g a j hx]
theorem pgAt_last (g : List (List Int)) (a j : Nat) : (pgAt g a j)[g.length]? = some (ints (exTo g a)) := by
  unfold pgAt
  rw [List.getElem?_append_right (by rw [revAt_len']; exact Nat.le_refl _), revAt_len', Nat.sub_self]; rfl
theorem pgAt_step (g : List (List Int)) (a j : Nat) {x : Nat} (hx : x < g.length) (hm : (g.getD a [])[j]? = some (x : Int)) {ls : List Int} (hls : ls = revTo g a x ++ hits x a ((g.getD a []).take j)) : (pgAt g a j).set x (ls ++ [(a : Int)]) = pgAt g a (j + 1) := by
  unfold pgAt
  rw [List.set_append_left _ _ (by rw [revAt_len']; exact hx), hls, revAt_step g a j x hx hm]
theorem pgAt_row (g : List (List Int)) (a : Nat) {l : List Int} (hl : g[a]? = some l) (hne : l ≠ []) : pgAt g a l.length = pgAt g (a + 1) 0 := by
  unfold pgAt
  rw [revAt_row g a l.length (by rw [getD_of hl]; exact Nat.le_refl _), exTo_succ, if_neg (by rw [getD_of hl]; exact hne), List.append_nil]
theorem pgAt_exit (g : List (List Int)) (a : Nat) {ls : List Int} (hls : ls = ints (exTo g a)) (he : g.getD a [] = []) : (pgAt g a 0).set g.length (ls ++ [(a : Int)]) = pgAt g (a + 1) 0 := by
  unfold pgAt
  rw [List.set_append_right _ _ (by rw [revAt_len']; exact Nat.le_refl _), revAt_len', Nat.sub_self, hls, exTo_succ, if_pos he, ints_snoc, ← revAt_row g a 0 (by rw [he]; exact Nat.zero_le _)]
  rfl
theorem pgAt_end (g : List (List Int)) : pgAt g g.length 0 = pg g := by
  unfold pgAt pg
  congr 1
  unfold revAt rev
  refine List.map_congr_left fun b _ => ?_
  rw [List.take_zero]; simp [hits]

set_option maxRecDepth 100000 in
set_option maxHeartbeats 8000000 in
theorem rpost_any (A : Option Addr) (c : Nat) (g : List (List Int)) (w : World) (hg : RdL w A c g) (hok : codeG g = 0) (hE : edges g ≤ 1000000) (hok' : codeG (pg g) = 0) (hE' : edges (pg g) ≤ 1000000) (hn5 : g.length < 65536) {L P : List Nat} {dm : Nat → Nat} (BT : Bt (pg g) g.length L P dm) :
    Calls Try.prog 15 #[.agg #[.slice A g.length c]] w fun en w' => (∃ D, en = .returned (.slice (some ⟨D, 0, none⟩) (g.length + 1) (g.length + 1)) ∧ Own w' w.heap.size 3 .i64 (.slice (some ⟨D, 0, none⟩) (g.length + 1) (g.length + 1)) (fz (g.length + 1) (bf L dm))) ∧ Below w.heap.size w w' := by
  obtain ⟨hokG, hN⟩ := code_ok hok
  have hc := hg.cap
  have hc9 : c ≤ 9223372036854775807 := by unfold maxLen at hc; omega
  obtain ⟨q, hq⟩ : ∃ q, w.heap.size = q := ⟨_, rfl⟩
  obtain ⟨w1, hw1⟩ : ∃ x, w.alloc (.cells #[.slice A g.length c] 24) = x := ⟨_, rfl⟩
  have hs1 : w1.heap.size = q + 1 := by rw [← hw1, World.size_alloc, hq]
  have hb1 : Below q w w1 := by rw [← hw1, ← hq]; exact (Below.refl _ _).alloc (Nat.le_refl _) _
  have hx1 : w1.cell? ⟨q, 0, none⟩ = some (.slice A g.length c) := by rw [← hw1, ← hq]; simp [go_sem]
  have hck := rcheck_any A c g w1 (hg.below' (by rw [hq]; exact hb1))
  rw [hok] at hck
  have HCh := hide hck
  have HB1 := hide hb1
  have HG := hide hg
  have HK := hide hokG
  have HOK := hide (And.intro hok (And.intro hok' hE'))
  have HBT := hide BT
  have hEE := hide hE
  have HRB := hide (fun (A : Option Addr) (c : Nat) (w : World) (h : RdL w A c (pg g)) => rbuild_any A c (pg g) g.length w h hok' (by unfold pg; rw [List.length_append, rev_len, List.length_singleton]; omega) hE' BT)
  have hpgl : (pg g).length = g.length + 1 := by unfold pg; rw [List.length_append, rev_len, List.length_singleton]
  rw [hpgl] at HRB
  have HPL := hide hpgl
  have e1 : decide ((g.length : Int) ≥ 65536) = false := decide_eq_false (by omega)
  have e2 : decide ((65536 : Int) ≤ g.length) = false := decide_eq_false (by omega)
  have e3 : decide (65536 ≤ g.length) = false := decide_eq_false (by omega)
  have e4 : ¬ ((65536 : Int) ≤ g.length) := by omega
  obtain ⟨n1, hn1⟩ : ∃ n, g.length + 1 = n := ⟨_, rfl⟩
  have e5 : IntKind.i64.wrap ((g.length : Int) + 1) = (n1 : Int) := by rw [show ((g.length : Int) + 1) = ((n1 : Nat) : Int) by omega]; exact IntWalk.i64_in _ (by omega)
  rw [hn1] at HRB HPL ⊢
  clear hg hok hE hok' hE' hck hb1 hc BT hokG hpgl
  go_enter Try.func15, Try.ntmps15
  go_wp2_with fail
  refine HCh.out.mono ?_
  rintro en w2 ⟨rfl, hb2⟩
  have hx := (hb2.cell (p := ⟨q, 0, none⟩) (lt_of_cell hx1)).trans hx1
  have HB : Hid (Below q w w2) := hide (HB1.out.trans (hb2.mono (by omega)))
  have hqs : q + 1 ≤ w2.heap.size := by rw [← hs1]; exact hb2.size
  have HQS := hide hqs
  have HG2 := hide (HG.out.below' (by rw [hq]; exact HB.out))
  have hmk := run_made w2 22 28 (.slice none 0 0) 24 Try.underlying22 infoInts rfl (Nat.le_refl _) n1 (by omega)
  have HL : Hid (OwnL (w2.alloc (.cells (madeCells #[.slice none 0 0] n1) 28)) w2.heap.size w2.heap.size (List.replicate n1 (.slice none 0 0)) (pgAt g 0 0)) := hide (by rw [pgAt_zero, hn1]; exact OwnL.made w2 w2.heap.size n1 (by unfold maxLen; omega) (Nat.le_refl _))
  have hw3s : (w2.alloc (.cells (madeCells #[.slice none 0 0] n1) 28)).heap.size = w2.heap.size + 1 := World.size_alloc _ _
  have HM0 : Below w2.heap.size w2 (w2.alloc (.cells (madeCells #[.slice none 0 0] n1) 28)) := (Below.refl _ _).alloc (Nat.le_refl _) _
  obtain ⟨w3, hw3⟩ : ∃ x, (w2.alloc (.cells (madeCells #[.slice none 0 0] n1) 28)).alloc (.cells #[.slice (some ⟨w2.heap.size, 0, none⟩) n1 n1] 24) = x := ⟨_, rfl⟩
  have hbx : Whole w3 (w2.heap.size + 1) 24 #[.slice (some ⟨w2.heap.size, 0, none⟩) n1 n1] := by
    have := Whole.new (w2.alloc (.cells (madeCells #[.slice none 0 0] n1) 28)) 24 #[.slice (some ⟨w2.heap.size, 0, none⟩) n1 n1]
    rw [hw3s, hw3] at this; exact this
  have HM : Hid (Below w2.heap.size w2 w3) := hide (by rw [← hw3]; exact HM0.alloc HM0.size _)
  have HL3 : Hid (OwnL w3 w2.heap.size w2.heap.size (List.replicate n1 (.slice none 0 0)) (pgAt g 0 0)) := hide (by rw [← hw3]; exact HL.out.frm ((Frm.refl _ _).alloc _))
  have hx3 : w3.cell? ⟨q, 0, none⟩ = some (.slice A g.length c) := (HM.out.cell (p := ⟨q, 0, none⟩) (lt_of_cell hx)).trans hx
  have cbx : w3.cell? ⟨w2.heap.size + 1, 0, none⟩ = some (.slice (some ⟨w2.heap.size, 0, none⟩) n1 n1) := hbx.cell 0
  have HBX := hide hbx
  have HX := hide hx
  clear hb2 HCh HB1 hx1 hw1 hs1 HL HM0 hbx hx
  go_wp2_with fail
  clear hw3 hw3s
  go_loopw [5] (fun z wr => ∃ (a : Nat) (R : List Value), a ≤ g.length ∧ z = .int .i64 (a : Nat) ∧ R.length = n1 ∧ OwnL wr w2.heap.size w2.heap.size R (pgAt g a 0) ∧ Below w2.heap.size w2 wr ∧ Whole wr (w2.heap.size + 1) 24 #[.slice (some ⟨w2.heap.size, 0, none⟩) n1 n1]) (fun z _ => g.length - (intOf z).toNat)
  case atStart => exact ⟨0, _, Nat.zero_le _, rfl, by simp, HL3.out, HM.out, HBX.out⟩
  case round =>
    clear HL3 HM HBX hx3 hmk cbx e1 e2 e3 e4
    obtain ⟨wq, rfl⟩ : ∃ x, x = wr := ⟨_, rfl⟩
    obtain ⟨a, R, ha, rfl, hR, hL, hb, hbx⟩ := hrel
    have cbx : wq.cell? ⟨w2.heap.size + 1, 0, none⟩ = some (.slice (some ⟨w2.heap.size, 0, none⟩) n1 n1) := hbx.cell 0
    have HBX := hide hbx
    clear hbx
    by_cases hlt : a < g.length
    · obtain ⟨l, hl⟩ : ∃ l, g[a]? = some l := ⟨_, List.getElem?_eq_getElem hlt⟩
      have hlt' : (a : Int) < g.length := by omega
      have hx4 : wq.cell? ⟨q, 0, none⟩ = some (.slice A g.length c) := (hb.cell (p := ⟨q, 0, none⟩) (lt_of_cell HX.out)).trans HX.out
      obtain ⟨b, off, B, d, rfl, hbl2, hcell2, hrow⟩ := HG2.out.at hl
      have HBL := hide hbl2
      have HC2 := hide hcell2
      have hcell := (hb.cell (p := ⟨b, off + a, none⟩) hbl2).trans hcell2
      have HR := hide hrow
      obtain ⟨_, _, e3, hd, hm, -⟩ := hrow
      injection e3 with e3 e4 e5'
      subst e3 e5'
      have hd9 : d ≤ 9223372036854775807 := by unfold maxLen at hm; omega
      have HH := hide (And.intro hL hb)
      have HLg := hide hl
      have HRl := hide hR
      have hll : l.length ≤ 1000000 := by have := row_le_edges hl; have := hEE.out; omega
      clear hL hb hl hm hR hcell2 hbl2
      go_wp2_with fail
      go_loopw [33] (fun z wr => ∃ (j : Nat) (R : List Value), j ≤ l.length ∧ z = .int .i64 j ∧ Hid (R.length = n1) ∧ OwnL wr w2.heap.size w2.heap.size R (pgAt g a j) ∧ Below w2.heap.size w2 wr ∧ Whole wr (w2.heap.size + 1) 24 #[.slice (some ⟨w2.heap.size, 0, none⟩) n1 n1]) (fun z _ => l.length - (intOf z).toNat)
      case atStart => exact ⟨0, R, Nat.zero_le _, rfl, HRl, HH.out.1, HH.out.2, HBX.out⟩
      case round =>
        clear hx4 hcell HH HRl HBX cbx
        obtain ⟨wp, rfl⟩ : ∃ x, x = wr := ⟨_, rfl⟩
        obtain ⟨j, R, hj, rfl, hR, hL, hb, hbx⟩ := hrel
        have cbx : wp.cell? ⟨w2.heap.size + 1, 0, none⟩ = some (.slice (some ⟨w2.heap.size, 0, none⟩) n1 n1) := hbx.cell 0
        have HBX := hide hbx
        clear hbx
        by_cases hlt2 : j < l.length
        · obtain ⟨m, hm⟩ : ∃ m, l[j]? = some m := ⟨_, List.getElem?_eq_getElem hlt2⟩
          have hlt2' : (j : Int) < l.length := by omega
          obtain ⟨x, rfl, hxn⟩ := ok_node HK.out HLg.out hm
          have hxn' : (x : Int) < (n1 : Int) := by omega
          obtain ⟨_, _, e6, _, _, hcl⟩ := HR.out.below' hb
          injection e6 with e6 e7 e8
          subst e6 e8
          obtain ⟨b2, off2, rfl, hbl2, hcl⟩ := hcl (by omega)
          have hcell2 := hcl j _ hm
          have HM : Hid ((g.getD a [])[j]? = some (x : Int)) := hide (by rw [getD_of HLg.out]; exact hm)
          obtain ⟨v, hv⟩ : ∃ v, R[x]? = some v := ⟨_, List.getElem?_eq_getElem (by rw [hR.out]; omega)⟩
          obtain ⟨ls, hget, hls⟩ : ∃ ls, (pgAt g a j)[x]? = some ls ∧ ls = revTo g a x ++ hits x a ((g.getD a []).take j) := ⟨_, pgAt_get g a j hxn, rfl⟩
          have HLS := hide hls
          have hlen : ls.length ≤ 1000000 := by rw [hls]; exact Nat.le_trans (revAt_edges g a x j hlt) hEE.out
          clear hcl hm hls
          have hown := hL.row x v _ hv hget
          have hcv : wp.cell? ⟨w2.heap.size, x, none⟩ = some v := hL.own.cellAt hv
          have HO := hide hown
          have HLL := hide (And.intro hL (And.intro hv hget))
          have HBb := hide hb
          obtain ⟨Av, cv, rfl, hcv1, hcv2, -⟩ := hown.rd
          have hcv9 : cv ≤ 9223372036854775807 := by unfold maxLen at hcv2; omega
          have HLe := hide hlen
          clear hL hb hown hv hget hlen hcv2
          go_wp2_with fail
          have HO2 : Hid (OwnV (wp.alloc (.cells #[.int .i64 (a : Int)] 3)).drew w2.heap.size 3 (.slice Av ls.length cv) (ls.map (Value.int .i64))) := hide (HO.out.alloc _).toV
          have hone : ∀ x ∈ [Value.int .i64 (a : Int)], x.oneCell' = true := by
            intro x hx; rw [List.mem_singleton] at hx; subst hx; rfl
          have hby : ((ls.map (Value.int .i64)).length + [Value.int .i64 (a : Int)].length) * 8 ≤ 140737488355328 := by
            have := HLe.out; simp only [List.length_map, List.length_cons, List.length_nil]; omega
          have hml : (ls.map (Value.int .i64)).length + [Value.int .i64 (a : Int)].length ≤ maxLen := by
            have := HLe.out; unfold maxLen; simp only [List.length_map, List.length_cons, List.length_nil]; omega
          have hB2 : w2.heap.size ≤ (wp.alloc (.cells #[.int .i64 (a : Int)] 3)).drew.heap.size := by
            show _ ≤ (wp.alloc _).heap.size
            have := HBb.out.size
            rw [World.size_alloc]; omega
          have hDl := HLL.out.1.lt
          have cbx1 : (wp.alloc (.cells #[.int .i64 (a : Int)] 3)).cell? ⟨w2.heap.size + 1, 0, none⟩ = some (.slice (some ⟨w2.heap.size, 0, none⟩) n1 n1) := (HBX.out.alloc _).cell 0
          have hcv1' : (wp.alloc (.cells #[.int .i64 (a : Int)] 3)).cell? ⟨w2.heap.size, x, none⟩ = some (.slice Av ls.length cv) := (((Below.refl wp.heap.size wp).alloc (Nat.le_refl _) _).cell (p := ⟨w2.heap.size, x, none⟩) hDl.2).trans hcv
          have HAFT : Hid (∀ v' w5, OwnV w5 w2.heap.size 3 v' (ls.map (Value.int .i64) ++ [.int .i64 (a : Int)]) → Frm (wp.alloc (.cells #[.int .i64 (a : Int)] 3)).drew w5 (Value.slice Av ls.length cv).ownBlock.toList → (v'.ownBlock = (Value.slice Av ls.length cv).ownBlock ∨ v'.ownBlock = some (wp.alloc (.cells #[.int .i64 (a : Int)] 3)).drew.heap.size) →
              ∃ A5 c5, v' = .slice A5 (ls.length + 1) c5 ∧ w5.cell? ⟨w2.heap.size + 1, 0, none⟩ = some (.slice (some ⟨w2.heap.size, 0, none⟩) n1 n1) ∧ w5.cell? ⟨w2.heap.size, x, none⟩ = some (.slice Av ls.length cv) ∧ w5.frozen? ⟨w2.heap.size, x, none⟩ = false ∧
                Hid (OwnL (w5.setCell ⟨w2.heap.size, x, none⟩ v') w2.heap.size w2.heap.size (R.set x v') ((pgAt g a j).set x (ls ++ [(a : Int)])) ∧ Below w2.heap.size w2 w5 ∧ Whole w5 (w2.heap.size + 1) 24 #[(.slice (some ⟨w2.heap.size, 0, none⟩) n1 n1)])) := hide (by
            intro v' w5 ho5 hf5 hb5
            have hf5 : Frm (wp.alloc (.cells #[.int .i64 (a : Int)] 3)) w5 (Value.slice Av ls.length cv).ownBlock.toList := (Frm.drew _ _).trans hf5
            have hsz : (wp.alloc (.cells #[.int .i64 (a : Int)] 3)).drew.heap.size = wp.heap.size + 1 := World.size_alloc _ _
            have hb5' : v'.ownBlock = (Value.slice Av ls.length cv).ownBlock ∨ ∀ g', v'.ownBlock = some g' → wp.heap.size + 1 ≤ g' := hb5.imp id (fun h g' hg' => by rw [h, hsz] at hg'; injection hg' with e; omega)
            have ho6 : Own w5 w2.heap.size 3 .i64 v' (ls ++ [(a : Int)]) := OwnV.toI (by rw [List.map_append]; exact ho5)
            have hP := (HLL.out.1.frm ((Frm.refl wp []).alloc (.cells #[.int .i64 (a : Int)] 3))).push HLL.out.2.1 HLL.out.2.2 hf5 ho6 (by rw [World.size_alloc]; exact hb5')
            have hb6 : Below w2.heap.size w2 w5 := (HBb.out.alloc HBb.out.size _).trans (hf5.toBelow (fun g' hg' => (HO.out.size g' (by simpa using hg')).1) (by have := HBb.out.size; rw [World.size_alloc]; omega))
            have hbx6 : Whole w5 (w2.heap.size + 1) 24 #[(.slice (some ⟨w2.heap.size, 0, none⟩) n1 n1)] := (HBX.out.alloc (.cells #[.int .i64 (a : Int)] 3)).frm hf5 (fun hg => ne_whole HO.out HBX.out (by decide) (by simpa using hg))
            have hcv6 : w5.cell? ⟨w2.heap.size, x, none⟩ = some (.slice Av ls.length cv) := (hf5.cell (p := ⟨w2.heap.size, x, none⟩) (show w2.heap.size < (wp.alloc _).heap.size by rw [World.size_alloc]; omega) (fun hg => HLL.out.1.apart x _ HLL.out.2.1 (by simpa using hg))).trans hcv1'
            have hfr6 : w5.frozen? ⟨w2.heap.size, x, none⟩ = false := (HLL.out.1.own.frm (((Frm.refl wp _).alloc (.cells #[.int .i64 (a : Int)] 3)).trans hf5) (fun g' hg' => by
              have e : g' = w2.heap.size := by simpa [Value.ownBlock] using hg'.symm
              subst e
              exact fun hg => HLL.out.1.apart x _ HLL.out.2.1 (by simpa using hg))).freeAt x
            obtain ⟨A5, c5, e9, -, -, -⟩ := ho6.rd
            rw [List.length_append, List.length_singleton] at e9
            exact ⟨A5, c5, e9, hbx6.cell 0, hcv6, hfr6, hide ⟨hP, hb6, hbx6⟩⟩)
          go_region_law (refine step_append_v rfl (.tmp 44) (.tmp 46) 28 rfl w2.heap.size 3 (.int .i64 0) 8 intV (.slice Av ls.length cv) (ls.map (Value.int .i64)) (by simp [Act.eval]) HO2.out (.slice (some ⟨wp.heap.size, 0, none⟩) 1 1) [.int .i64 (a : Int)] (by simp [Act.eval]) (rdv_one_drew _ _ _) hone hby hml hB2 ?_; intro v' w5 ho5 hf5 hb5; obtain ⟨A5, c5, rfl, cb6, cv6, fr6, HP⟩ := HAFT.out v' w5 ho5 hf5 hb5; clear ho5 hf5 hb5)
          all_goals
            clear cbx1 hcv1' hB2 hml hby hone HO2 HAFT
            go_wp2_with fail
            go_roundw
            case rel => exact ⟨j + 1, R.set x (.slice A5 (ls.length + 1) c5), by omega, by go_num, hide (by rw [List.length_set]; exact hR.out), by
              have h9 := HP.out.1
              rw [pgAt_step g a j hxn HM.out HLS.out] at h9
              exact h9, HP.out.2.1.setCell (p := ⟨w2.heap.size, x, none⟩) (Nat.le_refl _) _, HP.out.2.2.far (p := ⟨w2.heap.size, x, none⟩) (Nat.ne_of_gt (Nat.lt_succ_self _)) _⟩
            case measure => simp [intOf]; omega
        · obtain rfl : j = l.length := by omega
          have hx5 : wp.cell? ⟨q, 0, none⟩ = some (.slice (some ⟨b, off, none⟩) g.length c) := (hb.cell (p := ⟨q, 0, none⟩) (lt_of_cell HX.out)).trans HX.out
          have hcell5 := (hb.cell (p := ⟨b, off + a, none⟩) HBL.out).trans HC2.out
          by_cases h0 : l = []
          · subst h0
            have t1 : ((([] : List Int).length : Int) == 0) = true := by simp
            have HEM : Hid (g.getD a [] = []) := hide (getD_of HLg.out)
            obtain ⟨v, hv⟩ : ∃ v, R[g.length]? = some v := ⟨_, List.getElem?_eq_getElem (by rw [hR.out]; omega)⟩
            obtain ⟨ls, hls⟩ : ∃ ls, ints (exTo g a) = ls := ⟨_, rfl⟩
            have hget := pgAt_last g a 0
            rw [hls] at hget
            have HLS := hide hls.symm
            have hlen : ls.length ≤ 1000000 := by rw [← hls, ints_len]; have := exTo_len g a; omega
            have hgl1 : (g.length : Int) < (n1 : Int) := by omega
            simp only [List.length_nil] at hL ⊢
            clear hls
            have hown := hL.row g.length v _ hv hget
            have hcv : wp.cell? ⟨w2.heap.size, g.length, none⟩ = some v := hL.own.cellAt hv
            have HO := hide hown
            have HLL := hide (And.intro hL (And.intro hv hget))
            have HBb := hide hb
            obtain ⟨Av, cv, rfl, hcv1, hcv2, -⟩ := hown.rd
            have hcv9 : cv ≤ 9223372036854775807 := by unfold maxLen at hcv2; omega
            have HLe := hide hlen
            clear hL hb hown hv hget hlen hcv2
            go_wp2_with fail
            have HO2 : Hid (OwnV (wp.alloc (.cells #[.int .i64 (a : Int)] 3)).drew w2.heap.size 3 (.slice Av ls.length cv) (ls.map (Value.int .i64))) := hide (HO.out.alloc _).toV
            have hone : ∀ x ∈ [Value.int .i64 (a : Int)], x.oneCell' = true := by
              intro x hx; rw [List.mem_singleton] at hx; subst hx; rfl
            have hby : ((ls.map (Value.int .i64)).length + [Value.int .i64 (a : Int)].length) * 8 ≤ 140737488355328 := by
              have := HLe.out; simp only [List.length_map, List.length_cons, List.length_nil]; omega
            have hml : (ls.map (Value.int .i64)).length + [Value.int .i64 (a : Int)].length ≤ maxLen := by
              have := HLe.out; unfold maxLen; simp only [List.length_map, List.length_cons, List.length_nil]; omega
            have hB2 : w2.heap.size ≤ (wp.alloc (.cells #[.int .i64 (a : Int)] 3)).drew.heap.size := by
              show _ ≤ (wp.alloc _).heap.size
              have := HBb.out.size
              rw [World.size_alloc]; omega
            have hDl := HLL.out.1.lt
            have cbx1 : (wp.alloc (.cells #[.int .i64 (a : Int)] 3)).cell? ⟨w2.heap.size + 1, 0, none⟩ = some (.slice (some ⟨w2.heap.size, 0, none⟩) n1 n1) := (HBX.out.alloc _).cell 0
            have hcv1' : (wp.alloc (.cells #[.int .i64 (a : Int)] 3)).cell? ⟨w2.heap.size, g.length, none⟩ = some (.slice Av ls.length cv) := (((Below.refl wp.heap.size wp).alloc (Nat.le_refl _) _).cell (p := ⟨w2.heap.size, g.length, none⟩) hDl.2).trans hcv
            have HAFT : Hid (∀ v' w5, OwnV w5 w2.heap.size 3 v' (ls.map (Value.int .i64) ++ [.int .i64 (a : Int)]) → Frm (wp.alloc (.cells #[.int .i64 (a : Int)] 3)).drew w5 (Value.slice Av ls.length cv).ownBlock.toList → (v'.ownBlock = (Value.slice Av ls.length cv).ownBlock ∨ v'.ownBlock = some (wp.alloc (.cells #[.int .i64 (a : Int)] 3)).drew.heap.size) →
                ∃ A5 c5, v' = .slice A5 (ls.length + 1) c5 ∧ w5.cell? ⟨w2.heap.size + 1, 0, none⟩ = some (.slice (some ⟨w2.heap.size, 0, none⟩) n1 n1) ∧ w5.cell? ⟨w2.heap.size, g.length, none⟩ = some (.slice Av ls.length cv) ∧ w5.frozen? ⟨w2.heap.size, g.length, none⟩ = false ∧
                  Hid (OwnL (w5.setCell ⟨w2.heap.size, g.length, none⟩ v') w2.heap.size w2.heap.size (R.set g.length v') ((pgAt g a 0).set g.length (ls ++ [(a : Int)])) ∧ Below w2.heap.size w2 w5 ∧ Whole w5 (w2.heap.size + 1) 24 #[(.slice (some ⟨w2.heap.size, 0, none⟩) n1 n1)])) := hide (by
              intro v' w5 ho5 hf5 hb5
              have hf5 : Frm (wp.alloc (.cells #[.int .i64 (a : Int)] 3)) w5 (Value.slice Av ls.length cv).ownBlock.toList := (Frm.drew _ _).trans hf5
              have hsz : (wp.alloc (.cells #[.int .i64 (a : Int)] 3)).drew.heap.size = wp.heap.size + 1 := World.size_alloc _ _
              have hb5' : v'.ownBlock = (Value.slice Av ls.length cv).ownBlock ∨ ∀ g', v'.ownBlock = some g' → wp.heap.size + 1 ≤ g' := hb5.imp id (fun h g' hg' => by rw [h, hsz] at hg'; injection hg' with e; omega)
              have ho6 : Own w5 w2.heap.size 3 .i64 v' (ls ++ [(a : Int)]) := OwnV.toI (by rw [List.map_append]; exact ho5)
              have hP := (HLL.out.1.frm ((Frm.refl wp []).alloc (.cells #[.int .i64 (a : Int)] 3))).push HLL.out.2.1 HLL.out.2.2 hf5 ho6 (by rw [World.size_alloc]; exact hb5')
              have hb6 : Below w2.heap.size w2 w5 := (HBb.out.alloc HBb.out.size _).trans (hf5.toBelow (fun g' hg' => (HO.out.size g' (by simpa using hg')).1) (by have := HBb.out.size; rw [World.size_alloc]; omega))
              have hbx6 : Whole w5 (w2.heap.size + 1) 24 #[(.slice (some ⟨w2.heap.size, 0, none⟩) n1 n1)] := (HBX.out.alloc (.cells #[.int .i64 (a : Int)] 3)).frm hf5 (fun hg => ne_whole HO.out HBX.out (by decide) (by simpa using hg))
              have hcv6 : w5.cell? ⟨w2.heap.size, g.length, none⟩ = some (.slice Av ls.length cv) := (hf5.cell (p := ⟨w2.heap.size, g.length, none⟩) (show w2.heap.size < (wp.alloc _).heap.size by rw [World.size_alloc]; omega) (fun hg => HLL.out.1.apart g.length _ HLL.out.2.1 (by simpa using hg))).trans hcv1'
              have hfr6 : w5.frozen? ⟨w2.heap.size, g.length, none⟩ = false := (HLL.out.1.own.frm (((Frm.refl wp _).alloc (.cells #[.int .i64 (a : Int)] 3)).trans hf5) (fun g' hg' => by
                have e : g' = w2.heap.size := by simpa [Value.ownBlock] using hg'.symm
                subst e
                exact fun hg => HLL.out.1.apart g.length _ HLL.out.2.1 (by simpa using hg))).freeAt g.length
              obtain ⟨A5, c5, e9, -, -, -⟩ := ho6.rd
              rw [List.length_append, List.length_singleton] at e9
              exact ⟨A5, c5, e9, hbx6.cell 0, hcv6, hfr6, hide ⟨hP, hb6, hbx6⟩⟩)
            go_region_law (refine step_append_v rfl (.tmp 64) (.tmp 66) 28 rfl w2.heap.size 3 (.int .i64 0) 8 intV (.slice Av ls.length cv) (ls.map (Value.int .i64)) (by simp [Act.eval]) HO2.out (.slice (some ⟨wp.heap.size, 0, none⟩) 1 1) [.int .i64 (a : Int)] (by simp [Act.eval]) (rdv_one_drew _ _ _) hone hby hml hB2 ?_; intro v' w5 ho5 hf5 hb5; obtain ⟨A5, c5, rfl, cb6, cv6, fr6, HP⟩ := HAFT.out v' w5 ho5 hf5 hb5; clear ho5 hf5 hb5)
            all_goals
              clear cbx1 hcv1' hB2 hml hby hone HO2 HAFT
              go_wp2_with fail
              go_roundw
              case rel => exact ⟨a + 1, R.set g.length (.slice A5 (ls.length + 1) c5), by omega, by go_num, by rw [List.length_set]; exact hR.out, by
                have h9 := HP.out.1
                rw [pgAt_exit g a HLS.out HEM.out] at h9
                exact h9, HP.out.2.1.setCell (p := ⟨w2.heap.size, g.length, none⟩) (Nat.le_refl _) _, HP.out.2.2.far (p := ⟨w2.heap.size, g.length, none⟩) (Nat.ne_of_gt (Nat.lt_succ_self _)) _⟩
              case measure => simp [intOf]; omega
          · have t1 : ((l.length : Int) == 0) = false := by
              have : l.length ≠ 0 := fun e => h0 (List.length_eq_zero_iff.1 e)
              simp; omega
            have t2 : (l.length == 0) = false := by
              have : l.length ≠ 0 := fun e => h0 (List.length_eq_zero_iff.1 e)
              simpa using this
            have t3 : l.length ≠ 0 := fun e => h0 (List.length_eq_zero_iff.1 e)
            have hL2 := hL
            rw [pgAt_row g a HLg.out h0] at hL2
            have HZ := hide (And.intro hL2 hb)
            clear hL hL2 hb h0
            go_wp2_with fail
            go_roundw
            case rel => exact ⟨a + 1, R, by omega, by go_num, hR.out, HZ.out.1, HZ.out.2, HBX.out⟩
            case measure => simp [intOf]; omega
    · obtain rfl : a = g.length := by omega
      have hrd := hL.rd
      rw [hR, pgAt_end] at hrd
      have HRD := hide (HRB.out _ _ _ hrd)
      have HB9 : Hid (Below q w wq) := hide (HB.out.trans (hb.mono (by omega)))
      have hqq : q ≤ wq.heap.size := by have := hb.size; omega
      clear hL hb hR hrd
      go_wp2_with fail
      refine HRD.out.mono ?_
      rintro en w7 ⟨⟨D, rfl, hD⟩, hb7⟩
      have HZ := hide (And.intro (hD.low hqq) (HB9.out.trans (hb7.mono hqq)))
      clear hD hb7
      go_wp2_with fail
      go_ret
      rw [hq]
      exact ⟨⟨_, rfl, HZ.out.1⟩, HZ.out.2⟩
end Go.Proofs.Ytmopnceglnoncaa

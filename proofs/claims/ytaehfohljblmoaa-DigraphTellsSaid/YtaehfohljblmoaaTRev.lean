/-
  Layer 6 (digraph), the reference: Reverse.
-/
import Derived.Test.YtaehfohljblmoaaTCheck
namespace Go.Proofs.Ytaehfohljblmoaa
open Go.RowKit

theorem Own.ne_whole {w : World} {base b : Nat} {e t : TypeId} {k : IntKind} {v : Value} {l : List Int} {cs : Array Value} (h : Own w base e k v l) (hw : Whole w b t cs) (ht : t ≠ e) : v.ownBlock ≠ some b := by
  obtain ⟨_, h2⟩ := h
  rcases h2 with ⟨rfl, _⟩ | ⟨g, cap, cur, rfl, _, hh, _⟩
  · simp [Value.ownBlock]
  · intro hg
    obtain rfl : g = b := by simpa [Value.ownBlock] using hg
    unfold Whole at hw
    rw [hh] at hw
    injection hw with hw
    injection hw with _ h3 _
    exact ht h3.symm

set_option maxRecDepth 100000 in
set_option maxHeartbeats 2000000 in
theorem rreverse_bad (A : Option Addr) (c : Nat) (g : List (List Int)) (w : World) (hg : RdL w A c g) (hbad : codeG g ≠ 0) :
    Calls Try.prog 15 #[.agg #[.slice A g.length c]] w fun en w' => en = .returned (.agg #[.slice none 0 0]) ∧ Below w.heap.size w w' := by
  have hbad' : (codeG g == 0) = false := by simpa using hbad
  have HA : Hid (Below w.heap.size w ((w.alloc (.cells #[.slice A g.length c] 24)).alloc (.cells #[.slice none 0 0] 24))) := hide (((Below.refl _ _).alloc (Nat.le_refl _) _).alloc (by simp) _)
  have HG : Hid (RdL ((w.alloc (.cells #[.slice A g.length c] 24)).alloc (.cells #[.slice none 0 0] 24)) A c g) := hide (hg.below' HA.out)
  have hx : ((w.alloc (.cells #[.slice A g.length c] 24)).alloc (.cells #[.slice none 0 0] 24)).cell? ⟨w.heap.size + 1, 0, none⟩ = some (.slice none 0 0) := by simp [go_sem]
  have hxw : Whole ((w.alloc (.cells #[.slice A g.length c] 24)).alloc (.cells #[.slice none 0 0] 24)) (w.heap.size + 1) 24 #[.slice none 0 0] := by have := Whole.new (w.alloc (.cells #[.slice A g.length c] 24)) 24 #[.slice none 0 0]; rw [World.size_alloc] at this; exact this
  clear hg
  go_enter Try.func15, Try.ntmps15
  go_wp2_with fail
  refine (rcheck_any _ _ _ _ HG.out).mono ?_
  rintro en w2 ⟨rfl, hb⟩
  have HW : Hid (Whole w2 (w.heap.size + 1) 24 #[.slice none 0 0]) := hide (hxw.below' hb)
  have c0 : w2.cell? ⟨w.heap.size + 1, 0, none⟩ = some (.slice none 0 0) := HW.out.cell 0
  have f0 : w2.frozen? ⟨w.heap.size + 1, 0, none⟩ = false := HW.out.free 0
  have HB : Hid (Below w.heap.size w w2) := hide (HA.out.trans (hb.mono HA.out.size))
  clear hb hx hxw HA HG
  go_wp2_with fail
  have HW2 := (HW.out.set 0 (.slice none 0 0)).cell 0
  have HB2 := HB.out.setCell (p := ⟨w.heap.size + 1, 0, none⟩) (by show w.heap.size ≤ w.heap.size + 1; omega) (.slice none 0 0)
  refine bodyPost_ret (v := .agg #[.slice none 0 0]) ?_ rfl ⟨rfl, HB2⟩
  simp [results, Try.f15, go_sem, HW2]

set_option maxRecDepth 100000 in
set_option maxHeartbeats 4000000 in
theorem rreverse_any (A : Option Addr) (c : Nat) (g : List (List Int)) (w : World) (hg : RdL w A c g) (hok : codeG g = 0) (hE : edges g ≤ 1000000) :
    Calls Try.prog 15 #[.agg #[.slice A g.length c]] w fun en w' => ∃ D, en = .returned (.agg #[.slice (some ⟨D, 0, none⟩) g.length g.length]) ∧ (∃ R, OwnL w' w.heap.size D R (rev g)) ∧ Below w.heap.size w w' := by
  have hN := (code_ok hok).2
  have HK := hide (code_ok hok).1
  have hc := hg.cap
  have hc9 : c ≤ 9223372036854775807 := by unfold maxLen at hc; omega
  have hEE := hide hE
  have HA : Hid (Below w.heap.size w ((w.alloc (.cells #[.slice A g.length c] 24)).alloc (.cells #[.slice none 0 0] 24))) := hide (((Below.refl _ _).alloc (Nat.le_refl _) _).alloc (by simp) _)
  have HG : Hid (RdL ((w.alloc (.cells #[.slice A g.length c] 24)).alloc (.cells #[.slice none 0 0] 24)) A c g) := hide (hg.below' HA.out)
  have hx0 : ((w.alloc (.cells #[.slice A g.length c] 24)).alloc (.cells #[.slice none 0 0] 24)).cell? ⟨w.heap.size, 0, none⟩ = some (.slice A g.length c) := by simp [go_sem]
  have hxw : Whole ((w.alloc (.cells #[.slice A g.length c] 24)).alloc (.cells #[.slice none 0 0] 24)) (w.heap.size + 1) 24 #[.slice none 0 0] := by have := Whole.new (w.alloc (.cells #[.slice A g.length c] 24)) 24 #[.slice none 0 0]; rw [World.size_alloc] at this; exact this
  have hsz : w.heap.size + 1 < ((w.alloc (.cells #[.slice A g.length c] 24)).alloc (.cells #[.slice none 0 0] 24)).heap.size := by simp
  have HC := rcheck_any A c g _ HG.out
  rw [hok] at HC
  have HCh := hide HC
  clear hg hok hE hc HC
  go_enter Try.func15, Try.ntmps15
  go_wp2_with fail
  refine HCh.out.mono ?_
  rintro en w2 ⟨rfl, hb⟩
  have HW : Hid (Whole w2 (w.heap.size + 1) 24 #[.slice none 0 0]) := hide (hxw.below' hb)
  have HG2 : Hid (RdL w2 A c g) := hide (HG.out.below' hb)
  have hx : w2.cell? ⟨w.heap.size, 0, none⟩ = some (.slice A g.length c) := (hb.cell (p := ⟨w.heap.size, 0, none⟩) (lt_of_cell hx0)).trans hx0
  have hs2 : w.heap.size + 1 < w2.heap.size := Nat.lt_of_lt_of_le hsz hb.size
  have HB : Hid (Below w.heap.size w w2) := hide (HA.out.trans (hb.mono HA.out.size))
  have hmk := run_made w2 22 36 (.slice none 0 0) 24 Try.underlying22 infoInts rfl (Nat.le_refl _) g.length (by omega)
  have HL : Hid (OwnL (w2.alloc (.cells (madeCells #[.slice none 0 0] g.length) 36)) w2.heap.size w2.heap.size (List.replicate g.length (.slice none 0 0)) (revAt g 0 0)) := hide (by rw [revAt_zero]; exact OwnL.made w2 w2.heap.size g.length (by unfold maxLen; omega) (Nat.le_refl _))
  have hw3s : (w2.alloc (.cells (madeCells #[.slice none 0 0] g.length) 36)).heap.size = w2.heap.size + 1 := World.size_alloc _ _
  have HM0 : Below w2.heap.size w2 (w2.alloc (.cells (madeCells #[.slice none 0 0] g.length) 36)) := (Below.refl _ _).alloc (Nat.le_refl _) _
  obtain ⟨w3, hw3⟩ : ∃ x, (w2.alloc (.cells (madeCells #[.slice none 0 0] g.length) 36)).alloc (.cells #[.slice (some ⟨w2.heap.size, 0, none⟩) g.length g.length] 24) = x := ⟨_, rfl⟩
  have hbx : Whole w3 (w2.heap.size + 1) 24 #[.slice (some ⟨w2.heap.size, 0, none⟩) g.length g.length] := by
    have := Whole.new (w2.alloc (.cells (madeCells #[.slice none 0 0] g.length) 36)) 24 #[.slice (some ⟨w2.heap.size, 0, none⟩) g.length g.length]
    rw [hw3s, hw3] at this; exact this
  have HM : Hid (Below w2.heap.size w2 w3) := hide (by rw [← hw3]; exact HM0.alloc HM0.size _)
  have HL3 : Hid (OwnL w3 w2.heap.size w2.heap.size (List.replicate g.length (.slice none 0 0)) (revAt g 0 0)) := hide (by rw [← hw3]; exact HL.out.frm ((Frm.refl _ _).alloc _))
  have hx3 : w3.cell? ⟨w.heap.size, 0, none⟩ = some (.slice A g.length c) := (HM.out.cell (p := ⟨w.heap.size, 0, none⟩) (lt_of_cell hx)).trans hx
  have cbx : w3.cell? ⟨w2.heap.size + 1, 0, none⟩ = some (.slice (some ⟨w2.heap.size, 0, none⟩) g.length g.length) := hbx.cell 0
  have HBX := hide hbx
  clear hb hx0 hxw HA HG hsz HCh HL HM0 hbx
  have HX := hide hx
  go_wp2_with fail
  clear hw3 hw3s
  go_loopw [20] (fun z wr => ∃ (a : Nat) (R : List Value), a ≤ g.length ∧ z = .int .i64 a ∧ R.length = g.length ∧ OwnL wr w2.heap.size w2.heap.size R (revAt g a 0) ∧ Below w2.heap.size w2 wr ∧ Whole wr (w2.heap.size + 1) 24 #[.slice (some ⟨w2.heap.size, 0, none⟩) g.length g.length]) (fun z _ => g.length - (intOf z).toNat)
  case atStart => exact ⟨0, _, Nat.zero_le _, rfl, by simp, HL3.out, HM.out, HBX.out⟩
  case round =>
    clear HL3 HM HBX hx3 hmk hx cbx
    obtain ⟨wq, rfl⟩ : ∃ x, x = wr := ⟨_, rfl⟩
    obtain ⟨a, R, ha, rfl, hR, hL, hb, hbx⟩ := hrel
    have cbx : wq.cell? ⟨w2.heap.size + 1, 0, none⟩ = some (.slice (some ⟨w2.heap.size, 0, none⟩) g.length g.length) := hbx.cell 0
    have HBX := hide hbx
    clear hbx
    by_cases hlt : a < g.length
    · obtain ⟨l, hl⟩ : ∃ l, g[a]? = some l := ⟨_, List.getElem?_eq_getElem hlt⟩
      have hlt' : (a : Int) < g.length := by omega
      have hx4 : wq.cell? ⟨w.heap.size, 0, none⟩ = some (.slice A g.length c) := (hb.cell (p := ⟨w.heap.size, 0, none⟩) (lt_of_cell HX.out)).trans HX.out
      obtain ⟨b, off, B, d, rfl, hbl2, hcell2, hrow⟩ := HG2.out.at hl
      have hbl : b < wq.heap.size := Nat.lt_of_lt_of_le hbl2 hb.size
      have hcell := (hb.cell (p := ⟨b, off + a, none⟩) hbl2).trans hcell2
      have HR := hide hrow
      obtain ⟨_, _, e3, hd, hm, -⟩ := hrow
      injection e3 with e3 e4 e5
      subst e3 e5
      have hd9 : d ≤ 9223372036854775807 := by unfold maxLen at hm; omega
      have HH := hide (And.intro hL hb)
      have HLg := hide hl
      have HRl := hide hR
      clear hL hb hl hm hR hcell2 hbl2
      go_wp2_with fail
      go_loopw [27] (fun z wr => ∃ (j : Nat) (R : List Value), j ≤ l.length ∧ z = .int .i64 j ∧ Hid (R.length = g.length) ∧ OwnL wr w2.heap.size w2.heap.size R (revAt g a j) ∧ Below w2.heap.size w2 wr ∧ Whole wr (w2.heap.size + 1) 24 #[.slice (some ⟨w2.heap.size, 0, none⟩) g.length g.length]) (fun z _ => l.length - (intOf z).toNat)
      case atStart => exact ⟨0, R, Nat.zero_le _, rfl, HRl, HH.out.1, HH.out.2, HBX.out⟩
      case round =>
        clear hx4 hcell HH HRl HBX cbx
        obtain ⟨wp, rfl⟩ : ∃ x, x = wr := ⟨_, rfl⟩
        obtain ⟨j, R, hj, rfl, hR, hL, hb, hbx⟩ := hrel
        have cbx : wp.cell? ⟨w2.heap.size + 1, 0, none⟩ = some (.slice (some ⟨w2.heap.size, 0, none⟩) g.length g.length) := hbx.cell 0
        have HBX := hide hbx
        clear hbx
        by_cases hlt2 : j < l.length
        · obtain ⟨m, hm⟩ : ∃ m, l[j]? = some m := ⟨_, List.getElem?_eq_getElem hlt2⟩
          have hlt2' : (j : Int) < l.length := by omega
          obtain ⟨x, rfl, hxn⟩ := ok_node HK.out HLg.out hm
          have hxn' : (x : Int) < g.length := by omega
          obtain ⟨_, _, e6, _, _, hcl⟩ := HR.out.below' hb
          injection e6 with e6 e7 e8
          subst e6 e8
          obtain ⟨b2, off2, rfl, hbl2, hcl⟩ := hcl (by omega)
          have hcell2 := hcl j _ hm
          obtain ⟨v, hv⟩ : ∃ v, R[x]? = some v := ⟨_, List.getElem?_eq_getElem (by rw [hR.out]; exact hxn)⟩
          obtain ⟨ls, hget, hls⟩ : ∃ ls, (revAt g a j)[x]? = some ls ∧ ls = revTo g a x ++ hits x a ((g.getD a []).take j) := ⟨_, revAt_get g a j hxn, rfl⟩
          have hown := hL.row x v _ hv hget
          have hcv : wp.cell? ⟨w2.heap.size, x, none⟩ = some v := hL.own.cellAt hv
          have hlen : ls.length ≤ edges g := by rw [hls]; exact revAt_edges g a x j hlt
          have hEd := hEE.out
          have HO := hide hown
          have HLL := hide (And.intro hL (And.intro hv (And.intro hget (And.intro hm hls))))
          have HBb := hide hb
          obtain ⟨Av, cv, rfl, hcv1, hcv2, -⟩ := hown.rd
          have hcv9 : cv ≤ 9223372036854775807 := by unfold maxLen at hcv2; omega
          have HLe := hide hlen
          clear hL hb hcl hm hown hv hget hlen hEd hcv2 hls
          go_wp2_with fail
          have HO2 : Hid (OwnV (wp.alloc (.cells #[.int .i64 (a : Int)] 3)).drew w2.heap.size 3 (.slice Av ls.length cv) (ls.map (Value.int .i64))) := hide (HO.out.alloc _).toV
          have hone : ∀ x ∈ [Value.int .i64 (a : Int)], x.oneCell' = true := by
            intro x hx; rw [List.mem_singleton] at hx; subst hx; rfl
          have hby : ((ls.map (Value.int .i64)).length + [Value.int .i64 (a : Int)].length) * 8 ≤ 140737488355328 := by
            have := HLe.out; have := hEE.out; simp only [List.length_map, List.length_cons, List.length_nil]; omega
          have hml : (ls.map (Value.int .i64)).length + [Value.int .i64 (a : Int)].length ≤ maxLen := by
            have := HLe.out; have := hEE.out; unfold maxLen; simp only [List.length_map, List.length_cons, List.length_nil]; omega
          have hB2 : w2.heap.size ≤ (wp.alloc (.cells #[.int .i64 (a : Int)] 3)).drew.heap.size := by
            show _ ≤ (wp.alloc _).heap.size
            have := HBb.out.size
            rw [World.size_alloc]; omega
          have hDl := HLL.out.1.lt
          have cbx1 : (wp.alloc (.cells #[.int .i64 (a : Int)] 3)).cell? ⟨w2.heap.size + 1, 0, none⟩ = some (.slice (some ⟨w2.heap.size, 0, none⟩) g.length g.length) := (HBX.out.alloc _).cell 0
          have hcv1' : (wp.alloc (.cells #[.int .i64 (a : Int)] 3)).cell? ⟨w2.heap.size, x, none⟩ = some (.slice Av ls.length cv) := (((Below.refl wp.heap.size wp).alloc (Nat.le_refl _) _).cell (p := ⟨w2.heap.size, x, none⟩) hDl.2).trans hcv
          have HAFT : Hid (∀ v' w5, OwnV w5 w2.heap.size 3 v' (ls.map (Value.int .i64) ++ [.int .i64 (a : Int)]) → Frm (wp.alloc (.cells #[.int .i64 (a : Int)] 3)).drew w5 (Value.slice Av ls.length cv).ownBlock.toList → (v'.ownBlock = (Value.slice Av ls.length cv).ownBlock ∨ v'.ownBlock = some (wp.alloc (.cells #[.int .i64 (a : Int)] 3)).drew.heap.size) →
              ∃ A5 c5, v' = .slice A5 (ls.length + 1) c5 ∧ w5.cell? ⟨w2.heap.size + 1, 0, none⟩ = some (.slice (some ⟨w2.heap.size, 0, none⟩) g.length g.length) ∧ w5.cell? ⟨w2.heap.size, x, none⟩ = some (.slice Av ls.length cv) ∧ w5.frozen? ⟨w2.heap.size, x, none⟩ = false ∧
                Hid (OwnL (w5.setCell ⟨w2.heap.size, x, none⟩ v') w2.heap.size w2.heap.size (R.set x v') ((revAt g a j).set x (ls ++ [(a : Int)])) ∧ Below w2.heap.size w2 w5 ∧ Whole w5 (w2.heap.size + 1) 24 #[(.slice (some ⟨w2.heap.size, 0, none⟩) g.length g.length)])) := hide (by
            intro v' w5 ho5 hf5 hb5
            have hf5 : Frm (wp.alloc (.cells #[.int .i64 (a : Int)] 3)) w5 (Value.slice Av ls.length cv).ownBlock.toList := (Frm.drew _ _).trans hf5
            have hsz : (wp.alloc (.cells #[.int .i64 (a : Int)] 3)).drew.heap.size = wp.heap.size + 1 := World.size_alloc _ _
            have hb5' : v'.ownBlock = (Value.slice Av ls.length cv).ownBlock ∨ ∀ g', v'.ownBlock = some g' → wp.heap.size + 1 ≤ g' := hb5.imp id (fun h g' hg' => by rw [h, hsz] at hg'; injection hg' with e; omega)
            have ho6 : Own w5 w2.heap.size 3 .i64 v' (ls ++ [(a : Int)]) := OwnV.toI (by rw [List.map_append]; exact ho5)
            have hP := (HLL.out.1.frm ((Frm.refl wp []).alloc (.cells #[.int .i64 (a : Int)] 3))).push HLL.out.2.1 HLL.out.2.2.1 hf5 ho6 (by rw [World.size_alloc]; exact hb5')
            have hb6 : Below w2.heap.size w2 w5 := (HBb.out.alloc HBb.out.size _).trans (hf5.toBelow (fun g' hg' => (HO.out.size g' (by simpa using hg')).1) (by have := HBb.out.size; rw [World.size_alloc]; omega))
            have hbx6 : Whole w5 (w2.heap.size + 1) 24 #[(.slice (some ⟨w2.heap.size, 0, none⟩) g.length g.length)] := (HBX.out.alloc (.cells #[.int .i64 (a : Int)] 3)).frm hf5 (fun hg => HO.out.ne_whole HBX.out (by decide) (by simpa using hg))
            have hcv6 : w5.cell? ⟨w2.heap.size, x, none⟩ = some (.slice Av ls.length cv) := (hf5.cell (p := ⟨w2.heap.size, x, none⟩) (show w2.heap.size < (wp.alloc _).heap.size by rw [World.size_alloc]; omega) (fun hg => HLL.out.1.apart x _ HLL.out.2.1 (by simpa using hg))).trans hcv1'
            have hfr6 : w5.frozen? ⟨w2.heap.size, x, none⟩ = false := (HLL.out.1.own.frm (((Frm.refl wp _).alloc (.cells #[.int .i64 (a : Int)] 3)).trans hf5) (fun g' hg' => by
              have e : g' = w2.heap.size := by simpa [Value.ownBlock] using hg'.symm
              subst e
              exact fun hg => HLL.out.1.apart x _ HLL.out.2.1 (by simpa using hg))).freeAt x
            obtain ⟨A5, c5, e9, -, -, -⟩ := ho6.rd
            rw [List.length_append, List.length_singleton] at e9
            exact ⟨A5, c5, e9, hbx6.cell 0, hcv6, hfr6, hide ⟨hP, hb6, hbx6⟩⟩)
          go_region_law (refine step_append_v rfl (.tmp 38) (.tmp 40) 36 rfl w2.heap.size 3 (.int .i64 0) 8 intV (.slice Av ls.length cv) (ls.map (Value.int .i64)) (by simp [Act.eval]) HO2.out (.slice (some ⟨wp.heap.size, 0, none⟩) 1 1) [.int .i64 (a : Int)] (by simp [Act.eval]) (rdv_one_drew _ _ _) hone hby hml hB2 ?_; intro v' w5 ho5 hf5 hb5; obtain ⟨A5, c5, rfl, cb6, cv6, fr6, HP⟩ := HAFT.out v' w5 ho5 hf5 hb5; clear ho5 hf5 hb5)
          all_goals
            clear cbx1 hcv1' hB2 hml hby hone HO2 HAFT
            go_wp2_with fail
            go_roundw
            case rel => exact ⟨j + 1, R.set x (.slice A5 (ls.length + 1) c5), by omega, by go_num, hide (by rw [List.length_set]; exact hR.out), by
              have h9 := HP.out.1
              have h8 := revAt_step g a j x hxn (by rw [getD_of HLg.out]; exact HLL.out.2.2.2.1)
              rw [← HLL.out.2.2.2.2] at h8
              rw [h8] at h9
              exact h9, HP.out.2.1.setCell (p := ⟨w2.heap.size, x, none⟩) (Nat.le_refl _) _, HP.out.2.2.far (p := ⟨w2.heap.size, x, none⟩) (Nat.ne_of_gt (Nat.lt_succ_self _)) _⟩
            case measure => simp [intOf]; omega
        · obtain rfl : j = l.length := by omega
          go_wp2_with fail
          go_roundw
          case rel =>
            have hL2 : OwnL wp w2.heap.size w2.heap.size R (revAt g (a + 1) 0) := by
              rw [← revAt_row g a l.length (by rw [getD_of HLg.out]; exact Nat.le_refl _)]
              exact hL
            exact ⟨a + 1, R, by omega, by go_num, hR.out, hL2, hb, HBX.out⟩
          case measure => simp [intOf]; omega
    · obtain rfl : a = g.length := by omega
      have HH := hide (And.intro hL hb)
      have HRl := hide hR
      have f1 : Whole wq (w.heap.size + 1) 24 #[.slice none 0 0] := HW.out.below' hb
      have c0 : wq.cell? ⟨w.heap.size + 1, 0, none⟩ = some (.slice none 0 0) := f1.cell 0
      have f0 : wq.frozen? ⟨w.heap.size + 1, 0, none⟩ = false := f1.free 0
      have HF := hide f1
      clear hL hb hR f1
      go_wp2_with fail
      have hR := HRl.out
      have HW2 := (HF.out.set 0 (.slice (some ⟨w2.heap.size, 0, none⟩) g.length g.length)).cell 0
      have HB2 := (HB.out.trans (HH.out.2.mono HB.out.size)).setCell (p := ⟨w.heap.size + 1, 0, none⟩) (by show w.heap.size ≤ w.heap.size + 1; omega) (.slice (some ⟨w2.heap.size, 0, none⟩) g.length g.length)
      refine bodyPost_ret (v := .agg #[.slice (some ⟨w2.heap.size, 0, none⟩) g.length g.length]) ?_ rfl ⟨w2.heap.size, rfl, ?_, HB2⟩
      · simp [results, Try.f15, go_sem, HW2]
      · have h9 := HH.out.1
        rw [revAt_end] at h9
        exact ⟨R, (h9.far ((Frm.refl wq [w.heap.size + 1]).setCell ⟨w.heap.size + 1, 0, none⟩ _ (.inl (by simp))) (fun g' hg' => by rw [List.mem_singleton.1 hg']; exact hs2)).low (by omega)⟩
end Go.Proofs.Ytaehfohljblmoaa

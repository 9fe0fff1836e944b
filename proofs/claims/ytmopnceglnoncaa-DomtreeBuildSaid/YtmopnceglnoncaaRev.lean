/-
  Layer 6 (digraph): Reverse.
-/
import Derived.Test.YtmopnceglnoncaaMade
namespace Go.Proofs.Ytmopnceglnoncaa
open Go.RowKit

/-- a, once for each edge from a, whose successors are l, to b. -/
def hits (b a : Nat) (l : List Int) : List Int := (l.filter (fun m => m == (b : Int))).map fun _ => (a : Int)
/-- The predecessors of b among the first a nodes. -/
def revTo (g : List (List Int)) (a b : Nat) : List Int := (List.range a).flatMap fun x => hits b x (g.getD x [])
def revAt (g : List (List Int)) (a j : Nat) : List (List Int) := (List.range g.length).map fun b => revTo g a b ++ hits b a ((g.getD a []).take j)
def rev (g : List (List Int)) : List (List Int) := (List.range g.length).map fun b => revTo g g.length b
def edges (g : List (List Int)) : Nat := (g.map List.length).sum

theorem hits_len (b a : Nat) (l : List Int) : (hits b a l).length ≤ l.length := by unfold hits; rw [List.length_map]; exact List.length_filter_le _ _
theorem hits_nil (b a : Nat) : hits b a [] = [] := rfl
theorem revTo_succ (g : List (List Int)) (a b : Nat) : revTo g (a + 1) b = revTo g a b ++ hits b a (g.getD a []) := by
  unfold revTo; rw [List.range_succ, List.flatMap_append]; simp
theorem revAt_len (g : List (List Int)) (a j : Nat) : (revAt g a j).length = g.length := by simp [revAt]
theorem rev_len (g : List (List Int)) : (rev g).length = g.length := by simp [rev]
theorem revAt_get (g : List (List Int)) (a j : Nat) {b : Nat} (hb : b < g.length) : (revAt g a j)[b]? = some (revTo g a b ++ hits b a ((g.getD a []).take j)) := by simp [revAt, hb]
theorem revAt_zero (g : List (List Int)) : revAt g 0 0 = List.replicate g.length [] := by
  apply List.ext_getElem <;> simp [revAt, revTo, hits]
theorem revAt_row (g : List (List Int)) (a j : Nat) (hj : (g.getD a []).length ≤ j) : revAt g a j = revAt g (a + 1) 0 := by
  unfold revAt
  refine List.map_congr_left fun b _ => ?_
  rw [revTo_succ, List.take_of_length_le hj, List.take_zero, hits_nil, List.append_nil]
theorem revAt_end (g : List (List Int)) : revAt g g.length 0 = rev g := by
  unfold revAt rev
  refine List.map_congr_left fun b _ => ?_
  rw [List.take_zero, hits_nil, List.append_nil]
theorem hits_take (b a : Nat) (l : List Int) (j : Nat) (m : Int) (hm : l[j]? = some m) : hits b a (l.take (j + 1)) = hits b a (l.take j) ++ (if m = b then [(a : Int)] else []) := by
  unfold hits
  rw [List.take_add_one, hm]
  simp only [Option.toList_some, List.filter_append, List.map_append, List.filter_cons, List.filter_nil, beq_iff_eq]
  split <;> simp
theorem revAt_step (g : List (List Int)) (a j b : Nat) (hb : b < g.length) (hm : (g.getD a [])[j]? = some (b : Int)) :
    (revAt g a j).set b ((revTo g a b ++ hits b a ((g.getD a []).take j)) ++ [(a : Int)]) = revAt g a (j + 1) := by
  apply List.ext_getElem?
  intro i
  by_cases hi : i < g.length
  · rw [revAt_get g a (j + 1) hi, hits_take i a _ j _ hm]
    by_cases e : i = b
    · subst e
      rw [List.getElem?_set_self (by rw [revAt_len]; exact hi), if_pos rfl, List.append_assoc]
    · rw [List.getElem?_set_ne (fun x => e x.symm), revAt_get g a j hi, if_neg (by omega), List.append_nil]
  · rw [List.getElem?_eq_none (by rw [List.length_set, revAt_len]; omega), List.getElem?_eq_none (by rw [revAt_len]; omega)]
theorem sum_take (l : List Nat) (a : Nat) : (l.take a).sum ≤ l.sum := by
  have := congrArg List.sum (List.take_append_drop a l)
  rw [List.sum_append] at this
  omega
theorem revTo_edges (g : List (List Int)) (b : Nat) : ∀ a, a ≤ g.length → (revTo g a b).length ≤ ((g.map List.length).take a).sum
  | 0, _ => by simp [revTo]
  | a + 1, ha => by
    have h1 := revTo_edges g b a (by omega)
    have h2 := hits_len b a (g.getD a [])
    rw [revTo_succ, List.length_append, List.take_add_one, List.sum_append, List.getElem?_map, List.getElem?_eq_getElem (by omega)]
    rw [List.getD_eq_getElem?_getD, List.getElem?_eq_getElem (by omega)] at h2
    simp only [List.getD_eq_getElem?_getD, List.getElem?_eq_getElem (show a < g.length by omega), Option.getD_some, Option.map_some, Option.toList_some, List.sum_cons, List.sum_nil] at h2 ⊢
    omega
theorem revAt_edges (g : List (List Int)) (a b j : Nat) (ha : a < g.length) : (revTo g a b ++ hits b a ((g.getD a []).take j)).length ≤ edges g := by
  have h1 := revTo_edges g b a (by omega)
  have h2 := hits_len b a ((g.getD a []).take j)
  have h3 := sum_take (g.map List.length) (a + 1)
  rw [List.take_add_one, List.sum_append, List.getElem?_map, List.getElem?_eq_getElem ha] at h3
  rw [List.length_append]
  have h4 : ((g.getD a []).take j).length ≤ (g.getD a []).length := by rw [List.length_take]; omega
  rw [List.getD_eq_getElem?_getD, List.getElem?_eq_getElem ha] at h2 h4 ⊢
  simp only [Option.getD_some, Option.map_some, Option.toList_some, List.sum_cons, List.sum_nil] at h2 h3 h4 ⊢
  unfold edges
  omega

theorem ok_node {g : List (List Int)} (h : okG g = true) {a j : Nat} {l : List Int} {m : Int} (hl : g[a]? = some l) (hm : l[j]? = some m) : ∃ b : Nat, m = b ∧ b < g.length := by
  unfold okG at h
  rw [List.all_eq_true] at h
  have h1 := h l (List.mem_of_getElem? hl)
  unfold okRow at h1
  rw [List.all_eq_true] at h1
  have h2 := of_decide_eq_true (h1 m (List.mem_of_getElem? hm))
  exact ⟨m.toNat, by omega, by omega⟩
theorem code_ok {g : List (List Int)} (h : codeG g = 0) : okG g = true ∧ g.length ≤ 65536 := by
  unfold codeG at h
  split at h
  · cases h
  · split at h
    · rename_i h1 h2; exact ⟨h2, by omega⟩
    · cases h

set_option maxRecDepth 100000 in
set_option maxHeartbeats 2000000 in
theorem reverse_bad (A : Option Addr) (c : Nat) (g : List (List Int)) (w : World) (hg : RdL w A c g) (hbad : codeG g ≠ 0) :
    Calls Try.prog 36 #[.agg #[.slice A g.length c]] w fun en w' => en = .returned (.agg #[.slice none 0 0]) ∧ Below w.heap.size w w' := by
  have hbad' : (codeG g == 0) = false := by simpa using hbad
  have HA : Hid (Below w.heap.size w ((w.alloc (.cells #[.slice A g.length c] 24)).alloc (.cells #[.slice none 0 0] 24))) := hide (((Below.refl _ _).alloc (Nat.le_refl _) _).alloc (by simp) _)
  have HG : Hid (RdL ((w.alloc (.cells #[.slice A g.length c] 24)).alloc (.cells #[.slice none 0 0] 24)) A c g) := hide (hg.below' HA.out)
  have hx : ((w.alloc (.cells #[.slice A g.length c] 24)).alloc (.cells #[.slice none 0 0] 24)).cell? ⟨w.heap.size + 1, 0, none⟩ = some (.slice none 0 0) := by simp [go_sem]
  have hxw : Whole ((w.alloc (.cells #[.slice A g.length c] 24)).alloc (.cells #[.slice none 0 0] 24)) (w.heap.size + 1) 24 #[.slice none 0 0] := by have := Whole.new (w.alloc (.cells #[.slice A g.length c] 24)) 24 #[.slice none 0 0]; rw [World.size_alloc] at this; exact this
  clear hg
  go_enter Try.func36, Try.ntmps36
  go_wp2_with fail
  refine (check_any _ _ _ _ HG.out).mono ?_
  rintro en w2 ⟨rfl, hb⟩
  have HW : Hid (Whole w2 (w.heap.size + 1) 24 #[.slice none 0 0]) := hide (hxw.below' hb)
  have c0 : w2.cell? ⟨w.heap.size + 1, 0, none⟩ = some (.slice none 0 0) := HW.out.cell 0
  have f0 : w2.frozen? ⟨w.heap.size + 1, 0, none⟩ = false := HW.out.free 0
  have HB : Hid (Below w.heap.size w w2) := hide (HA.out.trans (hb.mono HA.out.size))
  clear hb hx hxw HA HG
  go_wp2_with fail
  have HW2 := (HW.out.set 0 (.slice none 0 0)).cell 0
  have HB2 := HB.out.setCell (p := ⟨w.heap.size + 1, 0, none⟩) (by show w.heap.size ≤ w.heap.size + 1; omega) (.slice none 0 0)
  refine bodyPost_ret (v := .agg #[.slice none 0 0]) ?_ rfl ⟨rfl, HB2⟩
  simp [results, Try.f36, go_sem, HW2]

theorem getD_of {g : List (List Int)} {a : Nat} {l : List Int} (h : g[a]? = some l) : g.getD a [] = l := by rw [List.getD_eq_getElem?_getD, h]; rfl

set_option maxRecDepth 100000 in
set_option maxHeartbeats 4000000 in
theorem reverse_any (A : Option Addr) (c : Nat) (g : List (List Int)) (w : World) (hg : RdL w A c g) (hok : codeG g = 0) (hE : edges g ≤ 1000000) :
    Calls Try.prog 36 #[.agg #[.slice A g.length c]] w fun en w' => ∃ D, en = .returned (.agg #[.slice (some ⟨D, 0, none⟩) g.length g.length]) ∧ (∃ R, OwnL w' w.heap.size D R (rev g)) ∧ Below w.heap.size w w' := by
  have hN := (code_ok hok).2
  have HK := hide (code_ok hok).1
  have hc := hg.cap
  have hc9 : c ≤ 9223372036854775807 := by unfold maxLen at hc; omega
  have hEE := hide hE
  have HA : Hid (Below w.heap.size w ((w.alloc (.cells #[.slice A g.length c] 24)).alloc (.cells #[.slice none 0 0] 24))) := hide (((Below.refl _ _).alloc (Nat.le_refl _) _).alloc (by simp) _)
  have HG : Hid (RdL ((w.alloc (.cells #[.slice A g.length c] 24)).alloc (.cells #[.slice none 0 0] 24)) A c g) := hide (hg.below' HA.out)
  have hx0 : ((w.alloc (.cells #[.slice A g.length c] 24)).alloc (.cells #[.slice none 0 0] 24)).cell? ⟨w.heap.size, 0, none⟩ = some (.slice A g.length c) := by simp [go_sem]
  have hxw : Whole ((w.alloc (.cells #[.slice A g.length c] 24)).alloc (.cells #[.slice none 0 0] 24)) (w.heap.size + 1) 24 #[.slice none 0 0] := by have := Whole.new (w.alloc (.cells #[.slice A g.length c] 24)) 24 #[.slice none 0 0]; rw [World.size_alloc] at this; exact this
  have hsz : w.heap.size + 1 < ((w.alloc (.cells #[.slice A g.length c] 24)).alloc (.cells #[.slice none 0 0] 24)).heap.size := by simp
  have HC := check_any A c g _ HG.out
  rw [hok] at HC
  have HCh := hide HC
  clear hg hok hE hc HC
  go_enter Try.func36, Try.ntmps36
  go_wp2_with fail
  refine HCh.out.mono ?_
  rintro en w2 ⟨rfl, hb⟩
  have HW : Hid (Whole w2 (w.heap.size + 1) 24 #[.slice none 0 0]) := hide (hxw.below' hb)
  have HG2 : Hid (RdL w2 A c g) := hide (HG.out.below' hb)
  have hx : w2.cell? ⟨w.heap.size, 0, none⟩ = some (.slice A g.length c) := (hb.cell (p := ⟨w.heap.size, 0, none⟩) (lt_of_cell hx0)).trans hx0
  have hs2 : w.heap.size + 1 < w2.heap.size := Nat.lt_of_lt_of_le hsz hb.size
  have HB : Hid (Below w.heap.size w w2) := hide (HA.out.trans (hb.mono HA.out.size))
  have hmk := run_made w2 22 28 (.slice none 0 0) 24 Try.underlying22 infoInts rfl (Nat.le_refl _) g.length (by omega)
  have HL : Hid (OwnL (w2.alloc (.cells (madeCells #[.slice none 0 0] g.length) 28)) w2.heap.size w2.heap.size (List.replicate g.length (.slice none 0 0)) (revAt g 0 0)) := hide (by rw [revAt_zero]; exact OwnL.made w2 w2.heap.size g.length (by unfold maxLen; omega) (Nat.le_refl _))
  have hx3 : (w2.alloc (.cells (madeCells #[.slice none 0 0] g.length) 28)).cell? ⟨w.heap.size, 0, none⟩ = some (.slice A g.length c) := (((Below.refl w2.heap.size w2).alloc (Nat.le_refl _) _).cell (p := ⟨w.heap.size, 0, none⟩) (lt_of_cell hx)).trans hx
  have HM : Hid (Below w2.heap.size w2 (w2.alloc (.cells (madeCells #[.slice none 0 0] g.length) 28))) := hide ((Below.refl _ _).alloc (Nat.le_refl _) _)
  clear hb hx0 hxw HA HG hsz HCh
  have HX := hide hx
  go_wp2_with fail
  go_loopw [19] (fun z wr => ∃ (a : Nat) (R : List Value), a ≤ g.length ∧ z = .int .i64 a ∧ R.length = g.length ∧ OwnL wr w2.heap.size w2.heap.size R (revAt g a 0) ∧ Below w2.heap.size w2 wr) (fun z _ => g.length - (intOf z).toNat)
  case atStart => exact ⟨0, _, Nat.zero_le _, rfl, by simp, HL.out, HM.out⟩
  case round =>
    clear HL HM hx3 hmk hx
    obtain ⟨wq, rfl⟩ : ∃ x, x = wr := ⟨_, rfl⟩
    obtain ⟨a, R, ha, rfl, hR, hL, hb⟩ := hrel
    by_cases hlt : a < g.length
    · obtain ⟨l, hl⟩ : ∃ l, g[a]? = some l := ⟨_, List.getElem?_eq_getElem hlt⟩
      have hlt' : (a : Int) < g.length := by omega
      have hx4 : wq.cell? ⟨w.heap.size, 0, none⟩ = some (.slice A g.length c) := (hb.cell (p := ⟨w.heap.size, 0, none⟩) (lt_of_cell HX.out)).trans HX.out
      obtain ⟨b, off, B, d, rfl, hbl2, hcell2, hrow⟩ := HG2.out.at hl
      have hbl : b < wq.heap.size := Nat.lt_of_lt_of_le hbl2 hb.size
      have hcell := (hb.cell (p := ⟨b, off + a, none⟩) hbl2).trans hcell2
      have HR := hide hrow
      obtain ⟨_, _, e3, hd, hm, -⟩ := hrow
      injection e3 with e3 e4 e5
      subst e3 e5
      have hd9 : d ≤ 9223372036854775807 := by unfold maxLen at hm; omega
      have HH := hide (And.intro hL hb)
      have HLg := hide hl
      have HRl := hide hR
      clear hL hb hl hm hR hcell2 hbl2
      go_wp2_with fail
      go_loopw [26] (fun z wr => ∃ (j : Nat) (R : List Value), j ≤ l.length ∧ z = .int .i64 j ∧ Hid (R.length = g.length) ∧ OwnL wr w2.heap.size w2.heap.size R (revAt g a j) ∧ Below w2.heap.size w2 wr) (fun z _ => l.length - (intOf z).toNat)
      case atStart => exact ⟨0, R, Nat.zero_le _, rfl, HRl, HH.out.1, HH.out.2⟩
      case round =>
        clear hx4 hcell HH HRl
        obtain ⟨wp, rfl⟩ : ∃ x, x = wr := ⟨_, rfl⟩
        obtain ⟨j, R, hj, rfl, hR, hL, hb⟩ := hrel
        by_cases hlt2 : j < l.length
        · obtain ⟨m, hm⟩ : ∃ m, l[j]? = some m := ⟨_, List.getElem?_eq_getElem hlt2⟩
          have hlt2' : (j : Int) < l.length := by omega
          obtain ⟨x, rfl, hxn⟩ := ok_node HK.out HLg.out hm
          have hxn' : (x : Int) < g.length := by omega
          obtain ⟨_, _, e6, _, _, hcl⟩ := HR.out.below' hb
          injection e6 with e6 e7 e8
          subst e6 e8
          obtain ⟨b2, off2, rfl, hbl2, hcl⟩ := hcl (by omega)
          have hcell2 := hcl j _ hm
          obtain ⟨v, hv⟩ : ∃ v, R[x]? = some v := ⟨_, List.getElem?_eq_getElem (by rw [hR.out]; exact hxn)⟩
          obtain ⟨ls, hget, hls⟩ : ∃ ls, (revAt g a j)[x]? = some ls ∧ ls = revTo g a x ++ hits x a ((g.getD a []).take j) := ⟨_, revAt_get g a j hxn, rfl⟩
          have hown := hL.row x v _ hv hget
          have hcv : wp.cell? ⟨w2.heap.size, x, none⟩ = some v := hL.own.cellAt hv
          have hlen : ls.length ≤ edges g := by rw [hls]; exact revAt_edges g a x j hlt
          have hEd := hEE.out
          have HO := hide hown
          have HLL := hide (And.intro hL (And.intro hv (And.intro hget (And.intro hm hls))))
          have HBb := hide hb
          obtain ⟨Av, cv, rfl, hcv1, hcv2, -⟩ := hown.rd
          have hcv9 : cv ≤ 9223372036854775807 := by unfold maxLen at hcv2; omega
          have HLe := hide hlen
          clear hL hb hcl hm hown hv hget hlen hEd hcv2 hls
          go_wp2_with (first | (refine wpList_append_v _ rfl _ _ 28 rfl w2.heap.size 3 (.int .i64 0) 8 intV _ (ls.map (Value.int .i64)) rfl (HO.out.alloc _).toV _ [.int .i64 (a : Int)] rfl (rdv_one wp 3 _) ?b0 ?b1 ?b2 ?b3 ?_))
          case b0 => rfl
          case b1 => have := HLe.out; have := hEE.out; omega
          case b2 => have := HLe.out; have := hEE.out; unfold maxLen; omega
          case b3 => have := HBb.out.size; omega
          intro v' w5 ho5 hf5 hb5
          have hb5' : v'.ownBlock = (Value.slice Av ls.length cv).ownBlock ∨ ∀ g', v'.ownBlock = some g' → wp.heap.size + 1 ≤ g' := hb5.imp id (fun h g' hg' => by rw [h] at hg'; injection hg' with e; omega)
          have ho6 : Own w5 w2.heap.size 3 .i64 v' (ls ++ [(a : Int)]) := OwnV.toI (by rw [List.map_append]; exact ho5)
          have hP := (HLL.out.1.frm ((Frm.refl wp []).alloc (.cells #[.int .i64 (a : Int)] 3))).push HLL.out.2.1 HLL.out.2.2.1 hf5 ho6 (by rw [World.size_alloc]; exact hb5')
          have hb6 : Below w2.heap.size w2 w5 := (HBb.out.alloc HBb.out.size _).trans (hf5.toBelow (fun g' hg' => (HO.out.size g' (by simpa using hg')).1) (by have := HBb.out.size; rw [World.size_alloc]; omega))
          have hcv6 : w5.cell? ⟨w2.heap.size, x, none⟩ = some (.slice Av ls.length cv) := (hf5.cell (p := ⟨w2.heap.size, x, none⟩) (by rw [World.size_alloc]; have := HLL.out.1.lt; show w2.heap.size < _; omega) (fun hg => HLL.out.1.apart x _ HLL.out.2.1 (by simpa using hg))).trans (((Below.refl wp.heap.size wp).alloc (Nat.le_refl _) _).cell (p := ⟨w2.heap.size, x, none⟩) HLL.out.1.lt.2 |>.trans hcv)
          have hfr6 : w5.frozen? ⟨w2.heap.size, x, none⟩ = false := (HLL.out.1.own.frm (((Frm.refl wp _).alloc (.cells #[.int .i64 (a : Int)] 3)).trans hf5) (fun g' hg' => by
            have e : g' = w2.heap.size := by simpa [Value.ownBlock] using hg'.symm
            subst e
            exact fun hg => HLL.out.1.apart x _ HLL.out.2.1 (by simpa using hg))).freeAt x
          have HP := hide (And.intro hP hb6)
          obtain ⟨A5, c5, e9, -, -, -⟩ := ho6.rd
          rw [List.length_append, List.length_singleton] at e9
          subst e9
          clear hP hb6 ho6 ho5 hf5 hb5 hb5' hcv
          go_wp2_with fail
          go_roundw
          case rel => exact ⟨j + 1, R.set x (.slice A5 (ls.length + 1) c5), by omega, by go_num, hide (by rw [List.length_set]; exact hR.out), by
            have h9 := HP.out.1
            have h8 := revAt_step g a j x hxn (by rw [getD_of HLg.out]; exact HLL.out.2.2.2.1)
            rw [← HLL.out.2.2.2.2] at h8
            rw [h8] at h9
            exact h9, HP.out.2.setCell (p := ⟨w2.heap.size, x, none⟩) (Nat.le_refl _) _⟩
          case measure => simp [intOf]; omega
        · obtain rfl : j = l.length := by omega
          go_wp2_with fail
          go_roundw
          case rel =>
            have hL2 : OwnL wp w2.heap.size w2.heap.size R (revAt g (a + 1) 0) := by
              rw [← revAt_row g a l.length (by rw [getD_of HLg.out]; exact Nat.le_refl _)]
              exact hL
            exact ⟨a + 1, R, by omega, by go_num, hR.out, hL2, hb⟩
          case measure => simp [intOf]; omega
    · obtain rfl : a = g.length := by omega
      have HH := hide (And.intro hL hb)
      have HRl := hide hR
      have f1 : Whole wq (w.heap.size + 1) 24 #[.slice none 0 0] := HW.out.below' hb
      have c0 : wq.cell? ⟨w.heap.size + 1, 0, none⟩ = some (.slice none 0 0) := f1.cell 0
      have f0 : wq.frozen? ⟨w.heap.size + 1, 0, none⟩ = false := f1.free 0
      have HF := hide f1
      clear hL hb hR f1
      go_wp2_with fail
      have hR := HRl.out
      have HW2 := (HF.out.set 0 (.slice (some ⟨w2.heap.size, 0, none⟩) g.length g.length)).cell 0
      have HB2 := (HB.out.trans (HH.out.2.mono HB.out.size)).setCell (p := ⟨w.heap.size + 1, 0, none⟩) (by show w.heap.size ≤ w.heap.size + 1; omega) (.slice (some ⟨w2.heap.size, 0, none⟩) g.length g.length)
      refine bodyPost_ret (v := .agg #[.slice (some ⟨w2.heap.size, 0, none⟩) g.length g.length]) ?_ rfl ⟨w2.heap.size, rfl, ?_, HB2⟩
      · simp [results, Try.f36, go_sem, HW2]
      · have h9 := HH.out.1
        rw [revAt_end] at h9
        exact ⟨R, (h9.far ((Frm.refl wq [w.heap.size + 1]).setCell ⟨w.heap.size + 1, 0, none⟩ _ (.inl (by simp))) (fun g' hg' => by rw [List.mem_singleton.1 hg']; exact hs2)).low (by omega)⟩
end Go.Proofs.Ytmopnceglnoncaa

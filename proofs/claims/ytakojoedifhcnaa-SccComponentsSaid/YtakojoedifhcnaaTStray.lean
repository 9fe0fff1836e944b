/-
  Layer 7 (scc): withoutStrayEdges.
-/
import Derived.Test.YtakojoedifhcnaaTPart
import Derived.Test.YtakojoedifhcnaaRev
namespace Go.Proofs.Ytakojoedifhcnaa
open Go.RowKit

def keepRow (n : Nat) (l : List Int) : List Int := l.filter fun m => decide (0 ≤ m) && decide (m < (n : Int))
def strayRow (g : List (List Int)) (a j i : Nat) : List Int := keepRow g.length (if i < a then g.getD i [] else if i = a then (g.getD i []).take j else [])
def strayAt (g : List (List Int)) (a j : Nat) : List (List Int) := (List.range g.length).map (strayRow g a j)
def stray (g : List (List Int)) : List (List Int) := (List.range g.length).map fun i => keepRow g.length (g.getD i [])
theorem stray_len (g : List (List Int)) : (stray g).length = g.length := by simp [stray]
theorem strayAt_len (g : List (List Int)) (a j : Nat) : (strayAt g a j).length = g.length := by simp [strayAt]
theorem strayAt_get (g : List (List Int)) (a j : Nat) {b : Nat} (hb : b < g.length) : (strayAt g a j)[b]? = some (strayRow g a j b) := by simp [strayAt, hb]
theorem strayAt_zero (g : List (List Int)) : strayAt g 0 0 = List.replicate g.length [] := by
  apply List.ext_getElem
  · simp [strayAt]
  · intro i _ _; simp [strayAt, strayRow, keepRow]
theorem strayAt_row (g : List (List Int)) (a j : Nat) (hj : (g.getD a []).length ≤ j) : strayAt g a j = strayAt g (a + 1) 0 := by
  unfold strayAt
  refine List.map_congr_left fun i _ => ?_
  unfold strayRow
  by_cases h : i < a
  · rw [if_pos h, if_pos (by omega)]
  · rw [if_neg h]
    by_cases e : i = a
    · rw [if_pos e, if_pos (by omega), List.take_of_length_le (by rw [e]; exact hj)]
    · rw [if_neg e, if_neg (by omega)]; simp [keepRow]
theorem strayAt_end (g : List (List Int)) : strayAt g g.length 0 = stray g := by
  unfold strayAt stray
  refine List.map_congr_left fun i hi => ?_
  unfold strayRow
  rw [if_pos (List.mem_range.1 hi)]
theorem keepRow_take (n : Nat) (l : List Int) (j : Nat) (m : Int) (hm : l[j]? = some m) : keepRow n (l.take (j + 1)) = keepRow n (l.take j) ++ (if 0 ≤ m ∧ m < n then [m] else []) := by
  unfold keepRow
  rw [List.take_add_one, hm]
  simp only [Option.toList_some, List.filter_append, List.filter_cons, List.filter_nil, Bool.and_eq_true, decide_eq_true_eq]
theorem strayRow_at (g : List (List Int)) (a j : Nat) : strayRow g a j a = keepRow g.length ((g.getD a []).take j) := by
  unfold strayRow; rw [if_neg (Nat.lt_irrefl _), if_pos rfl]
theorem strayAt_in (g : List (List Int)) (a j : Nat) (ha : a < g.length) {m : Int} (hm : (g.getD a [])[j]? = some m) (h0 : 0 ≤ m) (h1 : m < g.length) : (strayAt g a j).set a (strayRow g a j a ++ [m]) = strayAt g a (j + 1) := by
  apply List.ext_getElem?
  intro i
  by_cases hi : i < g.length
  · rw [strayAt_get g a (j + 1) hi]
    by_cases e : i = a
    · subst e
      rw [List.getElem?_set_self (by rw [strayAt_len]; exact hi), strayRow_at, strayRow_at, keepRow_take _ _ _ _ hm, if_pos ⟨h0, h1⟩]
    · rw [List.getElem?_set_ne (fun x => e x.symm), strayAt_get g a j hi]
      unfold strayRow
      rw [if_neg e, if_neg e]
  · rw [List.getElem?_eq_none (by rw [List.length_set, strayAt_len]; omega), List.getElem?_eq_none (by rw [strayAt_len]; omega)]
theorem strayAt_out (g : List (List Int)) (a j : Nat) {m : Int} (hm : (g.getD a [])[j]? = some m) (h : ¬ (0 ≤ m ∧ m < g.length)) : strayAt g a j = strayAt g a (j + 1) := by
  unfold strayAt
  refine List.map_congr_left fun i _ => ?_
  by_cases e : i = a
  · subst e
    rw [strayRow_at, strayRow_at, keepRow_take _ _ _ _ hm, if_neg h, List.append_nil]
  · unfold strayRow
    rw [if_neg e, if_neg e]
theorem strayRow_le (g : List (List Int)) (a j : Nat) : (strayRow g a j a).length ≤ (g.getD a []).length := by
  rw [strayRow_at]
  exact Nat.le_trans (List.length_filter_le _ _) (by rw [List.length_take]; omega)
theorem stray_ok (g : List (List Int)) : okG (stray g) = true := by
  unfold okG
  rw [List.all_eq_true]
  intro l hl
  obtain ⟨i, -, rfl⟩ := List.mem_map.1 hl
  unfold okRow
  rw [List.all_eq_true]
  intro m hm
  have := (List.mem_filter.1 hm).2
  rw [stray_len]
  simpa [Bool.and_eq_true] using this

set_option maxRecDepth 100000 in
set_option maxHeartbeats 4000000 in
theorem stray_any (A : Option Addr) (c : Nat) (g : List (List Int)) (w : World) (hg : RdL w A c g) (hN : g.length ≤ 65536) (hE : ∀ (a : Nat) (l : List Int), g[a]? = some l → l.length ≤ 1000000) :
    Calls Try.prog 21 #[.agg #[.slice A g.length c]] w fun en w' => ∃ D, en = .returned (.agg #[.slice (some ⟨D, 0, none⟩) g.length g.length]) ∧ (∃ R, OwnL w' w.heap.size D R (stray g)) ∧ Below w.heap.size w w' := by
  have hc := hg.cap
  have hc9 : c ≤ 9223372036854775807 := by unfold maxLen at hc; omega
  have HEE := hide hE
  obtain ⟨w2, hw2⟩ : ∃ x, (w.alloc (.cells #[.slice A g.length c] 24)).alloc (.cells #[.slice none 0 0] 24) = x := ⟨_, rfl⟩
  have hB2 : Below w.heap.size w w2 := by rw [← hw2]; exact ((Below.refl _ _).alloc (Nat.le_refl _) _).alloc (by simp) _
  have hx : w2.cell? ⟨w.heap.size, 0, none⟩ = some (.slice A g.length c) := by rw [← hw2]; simp [go_sem]
  have hxw : Whole w2 (w.heap.size + 1) 24 #[.slice none 0 0] := by
    rw [← hw2]
    have := Whole.new (w.alloc (.cells #[.slice A g.length c] 24)) 24 #[.slice none 0 0]; rw [World.size_alloc] at this; exact this
  have hs2 : w2.heap.size = w.heap.size + 2 := by rw [← hw2]; simp
  have HG2 : Hid (RdL w2 A c g) := hide (hg.below' hB2)
  have HW := hide hxw
  have HB := hide hB2
  have HX := hide hx
  have hmk := run_made w2 22 29 (.slice none 0 0) 24 Try.underlying22 infoInts rfl (Nat.le_refl _) g.length (by omega)
  obtain ⟨w3, hw3⟩ : ∃ x, w2.alloc (.cells (madeCells #[.slice none 0 0] g.length) 29) = x := ⟨_, rfl⟩
  have HL : Hid (OwnL w3 w2.heap.size w2.heap.size (List.replicate g.length (.slice none 0 0)) (strayAt g 0 0)) := hide (by rw [← hw3, strayAt_zero]; exact OwnL.made w2 w2.heap.size g.length (by unfold maxLen; omega) (Nat.le_refl _))
  have HM : Hid (Below w2.heap.size w2 w3) := hide (by rw [← hw3]; exact (Below.refl _ _).alloc (Nat.le_refl _) _)
  have hx3 : w3.cell? ⟨w.heap.size, 0, none⟩ = some (.slice A g.length c) := (HM.out.cell (p := ⟨w.heap.size, 0, none⟩) (lt_of_cell hx)).trans hx
  have HS2 := hide hs2
  clear hg hE hc hB2 hxw hs2
  go_enter Try.func21, Try.ntmps21
  go_wp2_with fail
  clear hw2 hw3
  go_loopw [15] (fun z wr => ∃ (a : Nat) (R : List Value), a ≤ g.length ∧ z = .int .i64 a ∧ R.length = g.length ∧ OwnL wr w2.heap.size w2.heap.size R (strayAt g a 0) ∧ Below w2.heap.size w2 wr) (fun z _ => g.length - (intOf z).toNat)
  case atStart => exact ⟨0, _, Nat.zero_le _, rfl, by simp, HL.out, HM.out⟩
  case round =>
    clear HL HM hx3 hmk hx
    obtain ⟨wq, rfl⟩ : ∃ x, x = wr := ⟨_, rfl⟩
    obtain ⟨a, R, ha, rfl, hR, hL, hb⟩ := hrel
    by_cases hlt : a < g.length
    · obtain ⟨l, hl⟩ : ∃ l, g[a]? = some l := ⟨_, List.getElem?_eq_getElem hlt⟩
      have hlt' : (a : Int) < g.length := by omega
      obtain ⟨b, off, B, d, rfl, hbl2, hcell2, hrow⟩ := HG2.out.at hl
      have hcell := (hb.cell (p := ⟨b, off + a, none⟩) hbl2).trans hcell2
      have HR := hide hrow
      obtain ⟨_, _, e3, hd, hm, -⟩ := hrow
      injection e3 with e3 e4 e5
      subst e3 e5
      have hd9 : d ≤ 9223372036854775807 := by unfold maxLen at hm; omega
      have HH := hide (And.intro hL hb)
      have HLg := hide hl
      have HRl := hide hR
      clear hL hb hl hm hR hcell2 hbl2 e4
      go_wp2_with fail
      clear hcell
      go_loopw [22] (fun z wr => ∃ (j : Nat) (R : List Value), j ≤ l.length ∧ z = .int .i64 j ∧ Hid (R.length = g.length) ∧ OwnL wr w2.heap.size w2.heap.size R (strayAt g a j) ∧ Below w2.heap.size w2 wr) (fun z _ => l.length - (intOf z).toNat)
      case atStart => exact ⟨0, R, Nat.zero_le _, rfl, HRl, HH.out.1, HH.out.2⟩
      case round =>
        clear HH HRl
        obtain ⟨wp, rfl⟩ : ∃ x, x = wr := ⟨_, rfl⟩
        obtain ⟨j, R, hj, rfl, hR, hL, hb⟩ := hrel
        by_cases hlt2 : j < l.length
        · obtain ⟨m, hm⟩ : ∃ m, l[j]? = some m := ⟨_, List.getElem?_eq_getElem hlt2⟩
          have hlt2' : (j : Int) < l.length := by omega
          have hx4 : wp.cell? ⟨w.heap.size, 0, none⟩ = some (.slice (some ⟨b, off, none⟩) g.length c) := (hb.cell (p := ⟨w.heap.size, 0, none⟩) (lt_of_cell HX.out)).trans HX.out
          obtain ⟨b2, off2, rfl, hbl2, cx⟩ := rd_at (HR.out.below' hb) hm
          have hgm : (g.getD a [])[j]? = some m := by rw [getD_of HLg.out]; exact hm
          by_cases h0 : 0 ≤ m
          · obtain ⟨x, rfl⟩ := Int.eq_ofNat_of_zero_le h0
            by_cases h1 : x < g.length
            · have h1' : (x : Int) < g.length := by omega
              obtain ⟨v, hv⟩ : ∃ v, R[a]? = some v := ⟨_, List.getElem?_eq_getElem (by rw [hR.out]; exact hlt)⟩
              obtain ⟨ls, hls⟩ : ∃ ls, strayRow g a j a = ls := ⟨_, rfl⟩
              have hget : (strayAt g a j)[a]? = some ls := by rw [strayAt_get g a j hlt, hls]
              have hown := hL.row a v _ hv hget
              have hcv : wp.cell? ⟨w2.heap.size, a, none⟩ = some v := hL.own.cellAt hv
              have HLe : Hid (ls.length ≤ 1000000) := hide (by have h3 := strayRow_le g a j; rw [hls] at h3; rw [getD_of HLg.out] at h3; exact Nat.le_trans h3 (HEE.out a l HLg.out))
              have HO := hide hown
              have HLL := hide (And.intro hL (And.intro hv (And.intro hget (And.intro hgm hls))))
              have HBb := hide hb
              obtain ⟨Av, cv, rfl, hcv1, hcv2, -⟩ := hown.rd
              have hcv9 : cv ≤ 9223372036854775807 := by unfold maxLen at hcv2; omega
              clear hL hb hm hown hv hget hcv2 hls hgm
              go_wp2_with (first | (refine wpList_append_v _ rfl _ _ 29 rfl w2.heap.size 3 (.int .i64 0) 8 intV _ (ls.map (Value.int .i64)) rfl (HO.out.alloc _).toV _ [.int .i64 (x : Int)] rfl (rdv_one wp 3 _) ?b0 ?b1 ?b2 ?b3 ?_))
              case b0 => intro y hy; rw [List.mem_singleton.1 hy]; rfl
              case b1 => have := HLe.out; rw [List.length_map, List.length_singleton]; omega
              case b2 => have := HLe.out; unfold maxLen; rw [List.length_map, List.length_singleton]; omega
              case b3 => have := HBb.out.size; rw [World.size_alloc]; omega
              intro v' w5 ho5 hf5 hb5
              have hb5' : v'.ownBlock = (Value.slice Av ls.length cv).ownBlock ∨ ∀ g', v'.ownBlock = some g' → wp.heap.size + 1 ≤ g' := hb5.imp id (fun h g' hg' => by rw [h] at hg'; injection hg' with e; omega)
              have ho6 : Own w5 w2.heap.size 3 .i64 v' (ls ++ [(x : Int)]) := OwnV.toI (by rw [List.map_append]; exact ho5)
              have hP := (HLL.out.1.frm ((Frm.refl wp []).alloc (.cells #[.int .i64 (x : Int)] 3))).push HLL.out.2.1 HLL.out.2.2.1 hf5 ho6 (by rw [World.size_alloc]; exact hb5')
              have hb6 : Below w2.heap.size w2 w5 := (HBb.out.alloc HBb.out.size _).trans (hf5.toBelow (fun g' hg' => (HO.out.size g' (by simpa using hg')).1) (by have := HBb.out.size; rw [World.size_alloc]; omega))
              have hcv6 : w5.cell? ⟨w2.heap.size, a, none⟩ = some (.slice Av ls.length cv) := (hf5.cell (p := ⟨w2.heap.size, a, none⟩) (by rw [World.size_alloc]; have := HLL.out.1.lt; show w2.heap.size < _; omega) (fun hg => HLL.out.1.apart a _ HLL.out.2.1 (by simpa using hg))).trans (((Below.refl wp.heap.size wp).alloc (Nat.le_refl _) _).cell (p := ⟨w2.heap.size, a, none⟩) HLL.out.1.lt.2 |>.trans hcv)
              have hfr6 : w5.frozen? ⟨w2.heap.size, a, none⟩ = false := (HLL.out.1.own.frm (((Frm.refl wp _).alloc (.cells #[.int .i64 (x : Int)] 3)).trans hf5) (fun g' hg' => by
                have e : g' = w2.heap.size := by simpa [Value.ownBlock] using hg'.symm
                subst e
                exact fun hg => HLL.out.1.apart a _ HLL.out.2.1 (by simpa using hg))).freeAt a
              have HP := hide (And.intro hP hb6)
              obtain ⟨A5, c5, e9, -, -, -⟩ := ho6.rd
              rw [List.length_append, List.length_singleton] at e9
              subst e9
              clear hP hb6 ho6 ho5 hf5 hb5 hb5' hcv
              go_wp2_with fail
              go_roundw
              case rel => exact ⟨j + 1, R.set a (.slice A5 (ls.length + 1) c5), by omega, by go_num, hide (by rw [List.length_set]; exact hR.out), by
                have h9 := HP.out.1
                have h8 := strayAt_in g a j hlt HLL.out.2.2.2.1 (by omega) h1'
                rw [HLL.out.2.2.2.2] at h8
                rw [h8] at h9
                exact h9, HP.out.2.setCell (p := ⟨w2.heap.size, a, none⟩) (Nat.le_refl _) _⟩
              case measure => simp [intOf]; omega
            · have h1' : ¬ (x : Int) < g.length := by omega
              have HH := hide (And.intro (strayAt_out g a j hgm (by omega)) (And.intro hL hb))
              clear hL hb hm hgm
              go_wp2_with fail
              go_roundw
              case rel => exact ⟨j + 1, R, by omega, by go_num, hR, by rw [← HH.out.1]; exact HH.out.2.1, HH.out.2.2⟩
              case measure => simp [intOf]; omega
          · have h0' : m < 0 := by omega
            have HH := hide (And.intro (strayAt_out g a j hgm (by omega)) (And.intro hL hb))
            clear hL hb hm hgm
            go_wp2_with fail
            go_roundw
            case rel => exact ⟨j + 1, R, by omega, by go_num, hR, by rw [← HH.out.1]; exact HH.out.2.1, HH.out.2.2⟩
            case measure => simp [intOf]; omega
        · obtain rfl : j = l.length := by omega
          go_wp2_with fail
          go_roundw
          case rel =>
            have hL2 : OwnL wp w2.heap.size w2.heap.size R (strayAt g (a + 1) 0) := by
              rw [← strayAt_row g a l.length (by rw [getD_of HLg.out]; exact Nat.le_refl _)]
              exact hL
            exact ⟨a + 1, R, by omega, by go_num, hR.out, hL2, hb⟩
          case measure => simp [intOf]; omega
    · obtain rfl : a = g.length := by omega
      have HH := hide (And.intro hL hb)
      have f1 : Whole wq (w.heap.size + 1) 24 #[.slice none 0 0] := HW.out.below' hb
      have c0 : wq.cell? ⟨w.heap.size + 1, 0, none⟩ = some (.slice none 0 0) := f1.cell 0
      have f0 : wq.frozen? ⟨w.heap.size + 1, 0, none⟩ = false := f1.free 0
      have HF := hide f1
      clear hL hb hR f1
      go_wp2_with fail
      have HW2 := (HF.out.set 0 (.slice (some ⟨w2.heap.size, 0, none⟩) g.length g.length)).cell 0
      have HB2 := (HB.out.trans (HH.out.2.mono HB.out.size)).setCell (p := ⟨w.heap.size + 1, 0, none⟩) (by show w.heap.size ≤ w.heap.size + 1; omega) (.slice (some ⟨w2.heap.size, 0, none⟩) g.length g.length)
      refine bodyPost_ret (v := .agg #[.slice (some ⟨w2.heap.size, 0, none⟩) g.length g.length]) ?_ rfl ⟨w2.heap.size, rfl, ?_, HB2⟩
      · simp [results, Try.f21, go_sem, HW2]
      · have h9 := HH.out.1
        rw [strayAt_end] at h9
        exact ⟨R, (h9.far ((Frm.refl wq [w.heap.size + 1]).setCell ⟨w.heap.size + 1, 0, none⟩ _ (.inl (by simp))) (fun g' hg' => by rw [List.mem_singleton.1 hg', HS2.out]; omega)).low (by rw [HS2.out]; omega)⟩
end Go.Proofs.Ytakojoedifhcnaa

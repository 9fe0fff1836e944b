/-
  Layer 11 (value): Int, Poison and Pointer, of the program and of the reference.
-/
import Derived.Test.YtojeaghljebbbaaDoorMk
namespace Go.Proofs.YtojeaghljebbbaaDoor
open Go.RowKit

set_option maxRecDepth 100000 in
set_option maxHeartbeats 8000000 in
theorem rint_1 (t n : Int) (w : World) (hk : numL t = 1) (h5 : t ≠ 5) :
    Calls Tryd.prog 18 #[.int .i64 t, .int .i64 n] w fun e w' => e = .returned (.agg #[.int .i64 t, .int .i64 0, .int .i64 (wrapI (laneT t) n), .bool false, .bool false, .int .i64 0, .bool false, .bool false, .int .i64 0, .bool false, .bool false, .int .i64 0, .bool false, .bool false]) ∧ Below w.heap.size w w' := by
  obtain ⟨q, hq⟩ : ∃ q, w.heap.size = q := ⟨_, rfl⟩
  obtain ⟨w1, hw1⟩ : ∃ x, w.alloc (.cells #[.int .i64 0, .int .i64 0, .int .i64 0, .bool false, .bool false, .int .i64 0, .bool false, .bool false, .int .i64 0, .bool false, .bool false, .int .i64 0, .bool false, .bool false] 27) = x := ⟨_, rfl⟩
  have hs1 : w1.heap.size = q + 1 := by rw [← hw1, World.size_alloc, hq]
  have hR1 : Whole w1 q 27 (vc 0 0 zL zL zL zL) := by rw [← hw1, ← hq]; exact Whole.new w _ _
  have hb1 : Below q w w1 := by rw [← hw1, ← hq]; exact (Below.refl _ _).alloc (Nat.le_refl _) _
  have HB1 := hide hb1
  have HR1 := hide hR1
  have HNL := hide hk
  have HII : Hid (decide (1 ≤ t ∧ t ≤ 4) = true) := hide (by exact decide_eq_true (by rcases types7 t with h | h | h | h | h | h | h | h <;> first | omega | (subst h; revert hk; unfold numL; decide) | (rw [numL_none h] at hk; omega)))
  have e6 : (t != 6) = true := by rw [bne_iff_ne]; intro h; subst h; revert hk; unfold numL; decide
  have e7 : (t != 7) = true := by rw [bne_iff_ne]; intro h; subst h; revert hk; unfold numL; decide
  obtain ⟨lt, hlt⟩ : ∃ x, laneT t = x := ⟨_, rfl⟩
  have HLT := hide hlt
  rw [hlt]
  obtain ⟨y, hy⟩ : ∃ y, wrapI lt n = y := ⟨_, rfl⟩
  have HY := hide hy
  rw [hy]
  clear hk hlt hy
  clear hR1 hb1
  go_enter Tryd.func18, Tryd.ntmps18
  go_wp2_with fail
  refine (isint_any _ _).mono ?_
  rintro en w' ⟨rfl, rfl⟩
  rw [HII.out]
  go_wp2_with fail
  refine wp_loop_rounds 2 ?_
  rw [rounds_succ]
  go_wp2_with fail
  refine (rlanes_any _ _).mono ?_
  rintro en w' ⟨rfl, rfl⟩
  rw [HNL.out]
  go_wp2_with fail
  refine (rlanet_any _ _).mono ?_
  rintro en w' ⟨rfl, rfl⟩
  rw [HLT.out]
  go_wp2_with fail
  refine (rwrap_any _ _ _).mono ?_
  rintro en w' ⟨rfl, rfl⟩
  rw [HY.out]
  go_wp2_with fail
  obtain ⟨w2, hw2⟩ : ∃ W, w1.alloc (.cells #[.int .i64 t, .int .i64 0, .int .i64 y, .bool false, .bool false, .int .i64 0, .bool false, .bool false, .int .i64 0, .bool false, .bool false, .int .i64 0, .bool false, .bool false] 27) = W := ⟨_, rfl⟩
  rw [hw2]
  have hV : Whole w2 (q + 1) 27 #[.int .i64 t, .int .i64 0, .int .i64 y, .bool false, .bool false, .int .i64 0, .bool false, .bool false, .int .i64 0, .bool false, .bool false, .int .i64 0, .bool false, .bool false] := by rw [← hw2, ← hs1]; exact Whole.new w1 _ _
  have hb12 : Below w1.heap.size w1 w2 := by rw [← hw2]; exact (Below.refl _ _).alloc (Nat.le_refl _) _
  have HR2 := hide (HR1.out.below' hb12)
  have HB2 : Hid (Below q w w2) := hide (HB1.out.trans (hb12.mono (by omega)))
  have v0 : w2.cell? ⟨q + 1, 0, none⟩ = some (.int .i64 t) := hV.cell 0
  have v1 : w2.cell? ⟨q + 1, 1, none⟩ = some (.int .i64 0) := hV.cell 1
  have v2 : w2.cell? ⟨q + 1, 2, none⟩ = some (.int .i64 y) := hV.cell 2
  have v3 : w2.cell? ⟨q + 1, 3, none⟩ = some (.bool false) := hV.cell 3
  have v4 : w2.cell? ⟨q + 1, 4, none⟩ = some (.bool false) := hV.cell 4
  have v5 : w2.cell? ⟨q + 1, 5, none⟩ = some (.int .i64 0) := hV.cell 5
  have v6 : w2.cell? ⟨q + 1, 6, none⟩ = some (.bool false) := hV.cell 6
  have v7 : w2.cell? ⟨q + 1, 7, none⟩ = some (.bool false) := hV.cell 7
  have v8 : w2.cell? ⟨q + 1, 8, none⟩ = some (.int .i64 0) := hV.cell 8
  have v9 : w2.cell? ⟨q + 1, 9, none⟩ = some (.bool false) := hV.cell 9
  have v10 : w2.cell? ⟨q + 1, 10, none⟩ = some (.bool false) := hV.cell 10
  have v11 : w2.cell? ⟨q + 1, 11, none⟩ = some (.int .i64 0) := hV.cell 11
  have v12 : w2.cell? ⟨q + 1, 12, none⟩ = some (.bool false) := hV.cell 12
  have v13 : w2.cell? ⟨q + 1, 13, none⟩ = some (.bool false) := hV.cell 13
  obtain ⟨c0, c1, c2, c3, c4, c5, c6, c7, c8, c9, c10, c11, c12, c13⟩ := vc_cells HR2.out
  obtain ⟨f0, f1, f2, f3, f4, f5, f6, f7, f8, f9, f10, f11, f12, f13⟩ := vc_free HR2.out
  simp only [zL] at c0 c1 c2 c3 c4 c5 c6 c7 c8 c9 c10 c11 c12 c13
  clear hw2 hw1 hV hb12 HR2 hs1
  rw [rounds_succ]
  go_wp2_with fail
  refine (rlanes_any _ _).mono ?_
  rintro en w' ⟨rfl, rfl⟩
  rw [HNL.out]
  go_wp2_with fail
  refine bodyPost_ret (v := .agg #[.int .i64 t, .int .i64 0, .int .i64 y, .bool false, .bool false, .int .i64 0, .bool false, .bool false, .int .i64 0, .bool false, .bool false, .int .i64 0, .bool false, .bool false]) ?_ rfl ⟨rfl, by rw [hq]; exact ((((((((((((((HB2.out.setCell (p := ⟨q, 0, none⟩) (Nat.le_refl _) (.int .i64 t)).setCell (p := ⟨q, 1, none⟩) (Nat.le_refl _) (.int .i64 0)).setCell (p := ⟨q, 2, none⟩) (Nat.le_refl _) (.int .i64 y)).setCell (p := ⟨q, 3, none⟩) (Nat.le_refl _) (.bool false)).setCell (p := ⟨q, 4, none⟩) (Nat.le_refl _) (.bool false)).setCell (p := ⟨q, 5, none⟩) (Nat.le_refl _) (.int .i64 0)).setCell (p := ⟨q, 6, none⟩) (Nat.le_refl _) (.bool false)).setCell (p := ⟨q, 7, none⟩) (Nat.le_refl _) (.bool false)).setCell (p := ⟨q, 8, none⟩) (Nat.le_refl _) (.int .i64 0)).setCell (p := ⟨q, 9, none⟩) (Nat.le_refl _) (.bool false)).setCell (p := ⟨q, 10, none⟩) (Nat.le_refl _) (.bool false)).setCell (p := ⟨q, 11, none⟩) (Nat.le_refl _) (.int .i64 0)).setCell (p := ⟨q, 12, none⟩) (Nat.le_refl _) (.bool false)).setCell (p := ⟨q, 13, none⟩) (Nat.le_refl _) (.bool false))⟩
  simp [results, Tryd.f18, go_sem, c0, c1, c2, c3, c4, c5, c6, c7, c8, c9, c10, c11, c12, c13]

set_option maxRecDepth 100000 in
set_option maxHeartbeats 8000000 in
theorem rint_0 (t n : Int) (w : World) (hk : t = 5 ∨ t < 1 ∨ 7 < t) :
    Calls Tryd.prog 18 #[.int .i64 t, .int .i64 n] w fun e w' => e = .returned (.agg #[.int .i64 0, .int .i64 0, .int .i64 0, .bool false, .bool false, .int .i64 0, .bool false, .bool false, .int .i64 0, .bool false, .bool false, .int .i64 0, .bool false, .bool false]) ∧ Below w.heap.size w w' := by
  obtain ⟨q, hq⟩ : ∃ q, w.heap.size = q := ⟨_, rfl⟩
  obtain ⟨w1, hw1⟩ : ∃ x, w.alloc (.cells #[.int .i64 0, .int .i64 0, .int .i64 0, .bool false, .bool false, .int .i64 0, .bool false, .bool false, .int .i64 0, .bool false, .bool false, .int .i64 0, .bool false, .bool false] 27) = x := ⟨_, rfl⟩
  have hs1 : w1.heap.size = q + 1 := by rw [← hw1, World.size_alloc, hq]
  have hR1 : Whole w1 q 27 (vc 0 0 zL zL zL zL) := by rw [← hw1, ← hq]; exact Whole.new w _ _
  have hb1 : Below q w w1 := by rw [← hw1, ← hq]; exact (Below.refl _ _).alloc (Nat.le_refl _) _
  have HB1 := hide hb1
  have HR1 := hide hR1
  have HII : Hid (decide (1 ≤ t ∧ t ≤ 4) = false) := hide (decide_eq_false (by omega))
  have e6 : (t != 6) = true := by rw [bne_iff_ne]; omega
  have e7 : (t != 7) = true := by rw [bne_iff_ne]; omega
  clear hk
  obtain ⟨c0, c1, c2, c3, c4, c5, c6, c7, c8, c9, c10, c11, c12, c13⟩ := vc_cells hR1
  obtain ⟨f0, f1, f2, f3, f4, f5, f6, f7, f8, f9, f10, f11, f12, f13⟩ := vc_free hR1
  simp only [zL] at c0 c1 c2 c3 c4 c5 c6 c7 c8 c9 c10 c11 c12 c13
  clear hR1 hb1
  go_enter Tryd.func18, Tryd.ntmps18
  go_wp2_with fail
  refine (isint_any _ _).mono ?_
  rintro en w' ⟨rfl, rfl⟩
  rw [HII.out]
  go_wp2_with fail
  refine bodyPost_ret (v := .agg #[.int .i64 0, .int .i64 0, .int .i64 0, .bool false, .bool false, .int .i64 0, .bool false, .bool false, .int .i64 0, .bool false, .bool false, .int .i64 0, .bool false, .bool false]) ?_ rfl ⟨rfl, by rw [hq]; exact ((((((((((((((HB1.out.setCell (p := ⟨q, 0, none⟩) (Nat.le_refl _) (.int .i64 0)).setCell (p := ⟨q, 1, none⟩) (Nat.le_refl _) (.int .i64 0)).setCell (p := ⟨q, 2, none⟩) (Nat.le_refl _) (.int .i64 0)).setCell (p := ⟨q, 3, none⟩) (Nat.le_refl _) (.bool false)).setCell (p := ⟨q, 4, none⟩) (Nat.le_refl _) (.bool false)).setCell (p := ⟨q, 5, none⟩) (Nat.le_refl _) (.int .i64 0)).setCell (p := ⟨q, 6, none⟩) (Nat.le_refl _) (.bool false)).setCell (p := ⟨q, 7, none⟩) (Nat.le_refl _) (.bool false)).setCell (p := ⟨q, 8, none⟩) (Nat.le_refl _) (.int .i64 0)).setCell (p := ⟨q, 9, none⟩) (Nat.le_refl _) (.bool false)).setCell (p := ⟨q, 10, none⟩) (Nat.le_refl _) (.bool false)).setCell (p := ⟨q, 11, none⟩) (Nat.le_refl _) (.int .i64 0)).setCell (p := ⟨q, 12, none⟩) (Nat.le_refl _) (.bool false)).setCell (p := ⟨q, 13, none⟩) (Nat.le_refl _) (.bool false))⟩
  simp [results, Tryd.f18, go_sem, c0, c1, c2, c3, c4, c5, c6, c7, c8, c9, c10, c11, c12, c13]
end Go.Proofs.YtojeaghljebbbaaDoor

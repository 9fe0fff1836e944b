/-
  Layer 11 (value): Int, Poison and Pointer, of the program and of the reference.
-/
import Derived.Test.YtojeaghljebbbaaDoorMk
namespace Go.Proofs.YtojeaghljebbbaaDoor
open Go.RowKit

set_option maxRecDepth 100000 in
set_option maxHeartbeats 8000000 in
theorem int_4 (t n : Int) (w : World) (hT : Tab w) (hk : numL t = 4) :
    Calls Tryd.prog 19 #[.int .i64 t, .int .i64 n] w fun e w' => e = .returned (.agg #[.int .i64 t, .int .i64 0, .int .i64 (wrapI (laneT t) n), .bool false, .bool false, .int .i64 (wrapI (laneT t) n), .bool false, .bool false, .int .i64 (wrapI (laneT t) n), .bool false, .bool false, .int .i64 (wrapI (laneT t) n), .bool false, .bool false]) ∧ Below w.heap.size w w' := by
  obtain ⟨q, hq⟩ : ∃ q, w.heap.size = q := ⟨_, rfl⟩
  obtain ⟨w1, hw1⟩ : ∃ x, w.alloc (.cells #[.int .i64 0, .int .i64 0, .int .i64 0, .bool false, .bool false, .int .i64 0, .bool false, .bool false, .int .i64 0, .bool false, .bool false, .int .i64 0, .bool false, .bool false] 27) = x := ⟨_, rfl⟩
  have hs1 : w1.heap.size = q + 1 := by rw [← hw1, World.size_alloc, hq]
  have hR1 : Whole w1 q 27 (vc 0 0 zL zL zL zL) := by rw [← hw1, ← hq]; exact Whole.new w _ _
  have hb1 : Below q w w1 := by rw [← hw1, ← hq]; exact (Below.refl _ _).alloc (Nat.le_refl _) _
  have hT1 := hT.below (by rw [hq]; exact hb1)
  have HR1 := hide hR1
  have HB1 := hide hb1
  have HNL := hide hk
  have t5 : (t == 5) = false := beq_eq_false_iff_ne.2 (fun h => by subst h; revert hk; unfold numL; decide)
  obtain ⟨lt, hlt⟩ : ∃ x, laneT t = x := ⟨_, rfl⟩
  have HLT := hide hlt
  rw [hlt]
  obtain ⟨y, hy⟩ : ∃ y, wrapI lt n = y := ⟨_, rfl⟩
  have HY := hide hy
  rw [hy]
  clear hR1 hb1 hk hT hlt hy
  go_enter Tryd.func19, Tryd.ntmps19
  go_wp2_with fail
  refine (lanet_any _ _).mono ?_
  rintro en w' ⟨rfl, rfl⟩
  rw [HLT.out]
  go_wp2_with fail
  refine (wrap_any _ _ _ hT1).mono ?_
  rintro en w' ⟨rfl, rfl⟩
  rw [HY.out]
  go_wp2_with fail
  obtain ⟨w2, hw2⟩ : ∃ x, w1.alloc (.cells #[.int .i64 y, .bool false, .bool false] 24) = x := ⟨_, rfl⟩
  try rw [hw2]
  have hb12 : Below w1.heap.size w1 w2 := by rw [← hw2]; exact (Below.refl _ _).alloc (Nat.le_refl _) _
  have hP : Whole w2 (q + 1) 24 #[.int .i64 y, .bool false, .bool false] := by rw [← hw2, ← hs1]; exact Whole.new w1 _ _
  have HR2 := hide (HR1.out.below' hb12)
  have HB2 : Hid (Below q w w2) := hide (HB1.out.trans (hb12.mono (by omega)))
  have HP := hide hP
  refine (each_int_4 t ⟨y, false, false⟩ ⟨y, false, false⟩ ⟨y, false, false⟩ ⟨y, false, false⟩ (q + 1) w2 HNL.out (fun W hW => int1_any _ y (q + 1) W (HP.out.below' hW)) (fun W hW => int1_any _ y (q + 1) W (HP.out.below' hW)) (fun W hW => int1_any _ y (q + 1) W (HP.out.below' hW)) (fun W hW => int1_any _ y (q + 1) W (HP.out.below' hW))).mono ?_
  rintro en w3 ⟨rfl, hb3⟩
  have hs2 : q ≤ w2.heap.size := by rw [← hw2, World.size_alloc]; omega
  have HR3 := hide (HR2.out.below' hb3)
  have HB3 : Hid (Below q w w3) := hide (HB2.out.trans (hb3.mono hs2))
  obtain ⟨c0, c1, c2, c3, c4, c5, c6, c7, c8, c9, c10, c11, c12, c13⟩ := vc_cells HR3.out
  obtain ⟨f0, f1, f2, f3, f4, f5, f6, f7, f8, f9, f10, f11, f12, f13⟩ := vc_free HR3.out
  simp only [zL] at c0 c1 c2 c3 c4 c5 c6 c7 c8 c9 c10 c11 c12 c13
  clear hw1 hw2 hb12 hP hb3 HR2 HB2 HP hs1 hs2
  go_wp2_with fail
  refine bodyPost_ret (v := .agg #[.int .i64 t, .int .i64 0, .int .i64 y, .bool false, .bool false, .int .i64 y, .bool false, .bool false, .int .i64 y, .bool false, .bool false, .int .i64 y, .bool false, .bool false]) ?_ rfl ⟨rfl, by rw [hq]; exact ((((((((((((((HB3.out.setCell (p := ⟨q, 0, none⟩) (Nat.le_refl _) (.int .i64 t)).setCell (p := ⟨q, 1, none⟩) (Nat.le_refl _) (.int .i64 0)).setCell (p := ⟨q, 2, none⟩) (Nat.le_refl _) (.int .i64 y)).setCell (p := ⟨q, 3, none⟩) (Nat.le_refl _) (.bool false)).setCell (p := ⟨q, 4, none⟩) (Nat.le_refl _) (.bool false)).setCell (p := ⟨q, 5, none⟩) (Nat.le_refl _) (.int .i64 y)).setCell (p := ⟨q, 6, none⟩) (Nat.le_refl _) (.bool false)).setCell (p := ⟨q, 7, none⟩) (Nat.le_refl _) (.bool false)).setCell (p := ⟨q, 8, none⟩) (Nat.le_refl _) (.int .i64 y)).setCell (p := ⟨q, 9, none⟩) (Nat.le_refl _) (.bool false)).setCell (p := ⟨q, 10, none⟩) (Nat.le_refl _) (.bool false)).setCell (p := ⟨q, 11, none⟩) (Nat.le_refl _) (.int .i64 y)).setCell (p := ⟨q, 12, none⟩) (Nat.le_refl _) (.bool false)).setCell (p := ⟨q, 13, none⟩) (Nat.le_refl _) (.bool false))⟩
  simp [results, Tryd.f19, go_sem, c0, c1, c2, c3, c4, c5, c6, c7, c8, c9, c10, c11, c12, c13]
end Go.Proofs.YtojeaghljebbbaaDoor

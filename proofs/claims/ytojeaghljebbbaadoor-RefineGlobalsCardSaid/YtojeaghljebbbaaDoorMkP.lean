/-
  Layer 11 (value): Int, Poison and Pointer, of the program and of the reference.
-/
import Derived.Test.YtojeaghljebbbaaDoorMk
namespace Go.Proofs.YtojeaghljebbbaaDoor
open Go.RowKit

set_option maxRecDepth 100000 in
set_option maxHeartbeats 8000000 in
theorem poison_0 (t : Int) (w : World) (hk : numL t = 0) :
    Calls Tryd.prog 20 #[.int .i64 t] w fun e w' => e = .returned (.agg #[.int .i64 0, .int .i64 0, .int .i64 0, .bool false, .bool false, .int .i64 0, .bool false, .bool false, .int .i64 0, .bool false, .bool false, .int .i64 0, .bool false, .bool false]) ∧ Below w.heap.size w w' := by
  obtain ⟨q, hq⟩ : ∃ q, w.heap.size = q := ⟨_, rfl⟩
  obtain ⟨w1, hw1⟩ : ∃ x, w.alloc (.cells #[.int .i64 0, .int .i64 0, .int .i64 0, .bool false, .bool false, .int .i64 0, .bool false, .bool false, .int .i64 0, .bool false, .bool false, .int .i64 0, .bool false, .bool false] 27) = x := ⟨_, rfl⟩
  have hs1 : w1.heap.size = q + 1 := by rw [← hw1, World.size_alloc, hq]
  have hR1 : Whole w1 q 27 (vc 0 0 zL zL zL zL) := by rw [← hw1, ← hq]; exact Whole.new w _ _
  have hb1 : Below q w w1 := by rw [← hw1, ← hq]; exact (Below.refl _ _).alloc (Nat.le_refl _) _
  have HR1 := hide hR1
  have HB1 := hide hb1
  have HNL := hide hk
  clear hR1 hb1 hk
  go_enter Tryd.func20, Tryd.ntmps20
  go_wp2_with fail
  refine (each_poison_0 t  _ HNL.out ).mono ?_
  rintro en w3 ⟨rfl, hb3⟩
  have HR3 := hide (HR1.out.below' hb3)
  have HB3 : Hid (Below q w w3) := hide (HB1.out.trans (hb3.mono (by omega)))
  obtain ⟨c0, c1, c2, c3, c4, c5, c6, c7, c8, c9, c10, c11, c12, c13⟩ := vc_cells HR3.out
  obtain ⟨f0, f1, f2, f3, f4, f5, f6, f7, f8, f9, f10, f11, f12, f13⟩ := vc_free HR3.out
  simp only [zL] at c0 c1 c2 c3 c4 c5 c6 c7 c8 c9 c10 c11 c12 c13
  clear hw1 hb3 hs1
  go_wp2_with fail
  refine bodyPost_ret (v := .agg #[.int .i64 0, .int .i64 0, .int .i64 0, .bool false, .bool false, .int .i64 0, .bool false, .bool false, .int .i64 0, .bool false, .bool false, .int .i64 0, .bool false, .bool false]) ?_ rfl ⟨rfl, by rw [hq]; exact ((((((((((((((HB3.out.setCell (p := ⟨q, 0, none⟩) (Nat.le_refl _) (.int .i64 0)).setCell (p := ⟨q, 1, none⟩) (Nat.le_refl _) (.int .i64 0)).setCell (p := ⟨q, 2, none⟩) (Nat.le_refl _) (.int .i64 0)).setCell (p := ⟨q, 3, none⟩) (Nat.le_refl _) (.bool false)).setCell (p := ⟨q, 4, none⟩) (Nat.le_refl _) (.bool false)).setCell (p := ⟨q, 5, none⟩) (Nat.le_refl _) (.int .i64 0)).setCell (p := ⟨q, 6, none⟩) (Nat.le_refl _) (.bool false)).setCell (p := ⟨q, 7, none⟩) (Nat.le_refl _) (.bool false)).setCell (p := ⟨q, 8, none⟩) (Nat.le_refl _) (.int .i64 0)).setCell (p := ⟨q, 9, none⟩) (Nat.le_refl _) (.bool false)).setCell (p := ⟨q, 10, none⟩) (Nat.le_refl _) (.bool false)).setCell (p := ⟨q, 11, none⟩) (Nat.le_refl _) (.int .i64 0)).setCell (p := ⟨q, 12, none⟩) (Nat.le_refl _) (.bool false)).setCell (p := ⟨q, 13, none⟩) (Nat.le_refl _) (.bool false))⟩
  simp [results, Tryd.f20, go_sem, c0, c1, c2, c3, c4, c5, c6, c7, c8, c9, c10, c11, c12, c13]

set_option maxRecDepth 100000 in
set_option maxHeartbeats 8000000 in
theorem poison_1 (t : Int) (w : World) (hk : numL t = 1) :
    Calls Tryd.prog 20 #[.int .i64 t] w fun e w' => e = .returned (.agg #[.int .i64 t, .int .i64 0, .int .i64 0, .bool true, .bool false, .int .i64 0, .bool false, .bool false, .int .i64 0, .bool false, .bool false, .int .i64 0, .bool false, .bool false]) ∧ Below w.heap.size w w' := by
  obtain ⟨q, hq⟩ : ∃ q, w.heap.size = q := ⟨_, rfl⟩
  obtain ⟨w1, hw1⟩ : ∃ x, w.alloc (.cells #[.int .i64 0, .int .i64 0, .int .i64 0, .bool false, .bool false, .int .i64 0, .bool false, .bool false, .int .i64 0, .bool false, .bool false, .int .i64 0, .bool false, .bool false] 27) = x := ⟨_, rfl⟩
  have hs1 : w1.heap.size = q + 1 := by rw [← hw1, World.size_alloc, hq]
  have hR1 : Whole w1 q 27 (vc 0 0 zL zL zL zL) := by rw [← hw1, ← hq]; exact Whole.new w _ _
  have hb1 : Below q w w1 := by rw [← hw1, ← hq]; exact (Below.refl _ _).alloc (Nat.le_refl _) _
  have HR1 := hide hR1
  have HB1 := hide hb1
  have HNL := hide hk
  clear hR1 hb1 hk
  go_enter Tryd.func20, Tryd.ntmps20
  go_wp2_with fail
  refine (each_poison_1 t ⟨0, true, false⟩ _ HNL.out (fun W _ => poison1_any _ W)).mono ?_
  rintro en w3 ⟨rfl, hb3⟩
  have HR3 := hide (HR1.out.below' hb3)
  have HB3 : Hid (Below q w w3) := hide (HB1.out.trans (hb3.mono (by omega)))
  obtain ⟨c0, c1, c2, c3, c4, c5, c6, c7, c8, c9, c10, c11, c12, c13⟩ := vc_cells HR3.out
  obtain ⟨f0, f1, f2, f3, f4, f5, f6, f7, f8, f9, f10, f11, f12, f13⟩ := vc_free HR3.out
  simp only [zL] at c0 c1 c2 c3 c4 c5 c6 c7 c8 c9 c10 c11 c12 c13
  clear hw1 hb3 hs1
  go_wp2_with fail
  refine bodyPost_ret (v := .agg #[.int .i64 t, .int .i64 0, .int .i64 0, .bool true, .bool false, .int .i64 0, .bool false, .bool false, .int .i64 0, .bool false, .bool false, .int .i64 0, .bool false, .bool false]) ?_ rfl ⟨rfl, by rw [hq]; exact ((((((((((((((HB3.out.setCell (p := ⟨q, 0, none⟩) (Nat.le_refl _) (.int .i64 t)).setCell (p := ⟨q, 1, none⟩) (Nat.le_refl _) (.int .i64 0)).setCell (p := ⟨q, 2, none⟩) (Nat.le_refl _) (.int .i64 0)).setCell (p := ⟨q, 3, none⟩) (Nat.le_refl _) (.bool true)).setCell (p := ⟨q, 4, none⟩) (Nat.le_refl _) (.bool false)).setCell (p := ⟨q, 5, none⟩) (Nat.le_refl _) (.int .i64 0)).setCell (p := ⟨q, 6, none⟩) (Nat.le_refl _) (.bool false)).setCell (p := ⟨q, 7, none⟩) (Nat.le_refl _) (.bool false)).setCell (p := ⟨q, 8, none⟩) (Nat.le_refl _) (.int .i64 0)).setCell (p := ⟨q, 9, none⟩) (Nat.le_refl _) (.bool false)).setCell (p := ⟨q, 10, none⟩) (Nat.le_refl _) (.bool false)).setCell (p := ⟨q, 11, none⟩) (Nat.le_refl _) (.int .i64 0)).setCell (p := ⟨q, 12, none⟩) (Nat.le_refl _) (.bool false)).setCell (p := ⟨q, 13, none⟩) (Nat.le_refl _) (.bool false))⟩
  simp [results, Tryd.f20, go_sem, c0, c1, c2, c3, c4, c5, c6, c7, c8, c9, c10, c11, c12, c13]

set_option maxRecDepth 100000 in
set_option maxHeartbeats 8000000 in
theorem poison_2 (t : Int) (w : World) (hk : numL t = 2) :
    Calls Tryd.prog 20 #[.int .i64 t] w fun e w' => e = .returned (.agg #[.int .i64 t, .int .i64 0, .int .i64 0, .bool true, .bool false, .int .i64 0, .bool true, .bool false, .int .i64 0, .bool false, .bool false, .int .i64 0, .bool false, .bool false]) ∧ Below w.heap.size w w' := by
  obtain ⟨q, hq⟩ : ∃ q, w.heap.size = q := ⟨_, rfl⟩
  obtain ⟨w1, hw1⟩ : ∃ x, w.alloc (.cells #[.int .i64 0, .int .i64 0, .int .i64 0, .bool false, .bool false, .int .i64 0, .bool false, .bool false, .int .i64 0, .bool false, .bool false, .int .i64 0, .bool false, .bool false] 27) = x := ⟨_, rfl⟩
  have hs1 : w1.heap.size = q + 1 := by rw [← hw1, World.size_alloc, hq]
  have hR1 : Whole w1 q 27 (vc 0 0 zL zL zL zL) := by rw [← hw1, ← hq]; exact Whole.new w _ _
  have hb1 : Below q w w1 := by rw [← hw1, ← hq]; exact (Below.refl _ _).alloc (Nat.le_refl _) _
  have HR1 := hide hR1
  have HB1 := hide hb1
  have HNL := hide hk
  clear hR1 hb1 hk
  go_enter Tryd.func20, Tryd.ntmps20
  go_wp2_with fail
  refine (each_poison_2 t ⟨0, true, false⟩ ⟨0, true, false⟩ _ HNL.out (fun W _ => poison1_any _ W) (fun W _ => poison1_any _ W)).mono ?_
  rintro en w3 ⟨rfl, hb3⟩
  have HR3 := hide (HR1.out.below' hb3)
  have HB3 : Hid (Below q w w3) := hide (HB1.out.trans (hb3.mono (by omega)))
  obtain ⟨c0, c1, c2, c3, c4, c5, c6, c7, c8, c9, c10, c11, c12, c13⟩ := vc_cells HR3.out
  obtain ⟨f0, f1, f2, f3, f4, f5, f6, f7, f8, f9, f10, f11, f12, f13⟩ := vc_free HR3.out
  simp only [zL] at c0 c1 c2 c3 c4 c5 c6 c7 c8 c9 c10 c11 c12 c13
  clear hw1 hb3 hs1
  go_wp2_with fail
  refine bodyPost_ret (v := .agg #[.int .i64 t, .int .i64 0, .int .i64 0, .bool true, .bool false, .int .i64 0, .bool true, .bool false, .int .i64 0, .bool false, .bool false, .int .i64 0, .bool false, .bool false]) ?_ rfl ⟨rfl, by rw [hq]; exact ((((((((((((((HB3.out.setCell (p := ⟨q, 0, none⟩) (Nat.le_refl _) (.int .i64 t)).setCell (p := ⟨q, 1, none⟩) (Nat.le_refl _) (.int .i64 0)).setCell (p := ⟨q, 2, none⟩) (Nat.le_refl _) (.int .i64 0)).setCell (p := ⟨q, 3, none⟩) (Nat.le_refl _) (.bool true)).setCell (p := ⟨q, 4, none⟩) (Nat.le_refl _) (.bool false)).setCell (p := ⟨q, 5, none⟩) (Nat.le_refl _) (.int .i64 0)).setCell (p := ⟨q, 6, none⟩) (Nat.le_refl _) (.bool true)).setCell (p := ⟨q, 7, none⟩) (Nat.le_refl _) (.bool false)).setCell (p := ⟨q, 8, none⟩) (Nat.le_refl _) (.int .i64 0)).setCell (p := ⟨q, 9, none⟩) (Nat.le_refl _) (.bool false)).setCell (p := ⟨q, 10, none⟩) (Nat.le_refl _) (.bool false)).setCell (p := ⟨q, 11, none⟩) (Nat.le_refl _) (.int .i64 0)).setCell (p := ⟨q, 12, none⟩) (Nat.le_refl _) (.bool false)).setCell (p := ⟨q, 13, none⟩) (Nat.le_refl _) (.bool false))⟩
  simp [results, Tryd.f20, go_sem, c0, c1, c2, c3, c4, c5, c6, c7, c8, c9, c10, c11, c12, c13]

set_option maxRecDepth 100000 in
set_option maxHeartbeats 8000000 in
theorem poison_4 (t : Int) (w : World) (hk : numL t = 4) :
    Calls Tryd.prog 20 #[.int .i64 t] w fun e w' => e = .returned (.agg #[.int .i64 t, .int .i64 0, .int .i64 0, .bool true, .bool false, .int .i64 0, .bool true, .bool false, .int .i64 0, .bool true, .bool false, .int .i64 0, .bool true, .bool false]) ∧ Below w.heap.size w w' := by
  obtain ⟨q, hq⟩ : ∃ q, w.heap.size = q := ⟨_, rfl⟩
  obtain ⟨w1, hw1⟩ : ∃ x, w.alloc (.cells #[.int .i64 0, .int .i64 0, .int .i64 0, .bool false, .bool false, .int .i64 0, .bool false, .bool false, .int .i64 0, .bool false, .bool false, .int .i64 0, .bool false, .bool false] 27) = x := ⟨_, rfl⟩
  have hs1 : w1.heap.size = q + 1 := by rw [← hw1, World.size_alloc, hq]
  have hR1 : Whole w1 q 27 (vc 0 0 zL zL zL zL) := by rw [← hw1, ← hq]; exact Whole.new w _ _
  have hb1 : Below q w w1 := by rw [← hw1, ← hq]; exact (Below.refl _ _).alloc (Nat.le_refl _) _
  have HR1 := hide hR1
  have HB1 := hide hb1
  have HNL := hide hk
  clear hR1 hb1 hk
  go_enter Tryd.func20, Tryd.ntmps20
  go_wp2_with fail
  refine (each_poison_4 t ⟨0, true, false⟩ ⟨0, true, false⟩ ⟨0, true, false⟩ ⟨0, true, false⟩ _ HNL.out (fun W _ => poison1_any _ W) (fun W _ => poison1_any _ W) (fun W _ => poison1_any _ W) (fun W _ => poison1_any _ W)).mono ?_
  rintro en w3 ⟨rfl, hb3⟩
  have HR3 := hide (HR1.out.below' hb3)
  have HB3 : Hid (Below q w w3) := hide (HB1.out.trans (hb3.mono (by omega)))
  obtain ⟨c0, c1, c2, c3, c4, c5, c6, c7, c8, c9, c10, c11, c12, c13⟩ := vc_cells HR3.out
  obtain ⟨f0, f1, f2, f3, f4, f5, f6, f7, f8, f9, f10, f11, f12, f13⟩ := vc_free HR3.out
  simp only [zL] at c0 c1 c2 c3 c4 c5 c6 c7 c8 c9 c10 c11 c12 c13
  clear hw1 hb3 hs1
  go_wp2_with fail
  refine bodyPost_ret (v := .agg #[.int .i64 t, .int .i64 0, .int .i64 0, .bool true, .bool false, .int .i64 0, .bool true, .bool false, .int .i64 0, .bool true, .bool false, .int .i64 0, .bool true, .bool false]) ?_ rfl ⟨rfl, by rw [hq]; exact ((((((((((((((HB3.out.setCell (p := ⟨q, 0, none⟩) (Nat.le_refl _) (.int .i64 t)).setCell (p := ⟨q, 1, none⟩) (Nat.le_refl _) (.int .i64 0)).setCell (p := ⟨q, 2, none⟩) (Nat.le_refl _) (.int .i64 0)).setCell (p := ⟨q, 3, none⟩) (Nat.le_refl _) (.bool true)).setCell (p := ⟨q, 4, none⟩) (Nat.le_refl _) (.bool false)).setCell (p := ⟨q, 5, none⟩) (Nat.le_refl _) (.int .i64 0)).setCell (p := ⟨q, 6, none⟩) (Nat.le_refl _) (.bool true)).setCell (p := ⟨q, 7, none⟩) (Nat.le_refl _) (.bool false)).setCell (p := ⟨q, 8, none⟩) (Nat.le_refl _) (.int .i64 0)).setCell (p := ⟨q, 9, none⟩) (Nat.le_refl _) (.bool true)).setCell (p := ⟨q, 10, none⟩) (Nat.le_refl _) (.bool false)).setCell (p := ⟨q, 11, none⟩) (Nat.le_refl _) (.int .i64 0)).setCell (p := ⟨q, 12, none⟩) (Nat.le_refl _) (.bool true)).setCell (p := ⟨q, 13, none⟩) (Nat.le_refl _) (.bool false))⟩
  simp [results, Tryd.f20, go_sem, c0, c1, c2, c3, c4, c5, c6, c7, c8, c9, c10, c11, c12, c13]

end Go.Proofs.YtojeaghljebbbaaDoor

/-
  Layer 11 (value): eachLane.
-/
import Derived.Test.YtojeaghljebbbaaDoorVC
namespace Go.Proofs.YtojeaghljebbbaaDoor
open Go.RowKit

set_option maxRecDepth 100000 in
set_option maxHeartbeats 8000000 in
theorem each_poison_0 (t : Int) (w : World) (hk : numL t = 0) :
    Calls Tryd.prog 38 #[.int .i64 t, .func (.func 40) #[] #[]] w fun e w' => e = .returned (.agg #[.int .i64 0, .int .i64 0, .int .i64 0, .bool false, .bool false, .int .i64 0, .bool false, .bool false, .int .i64 0, .bool false, .bool false, .int .i64 0, .bool false, .bool false]) ∧ Below w.heap.size w w' := by
  have HNL := hide hk
  obtain ⟨q, hq⟩ : ∃ q, w.heap.size = q := ⟨_, rfl⟩
  obtain ⟨w1, hw1⟩ : ∃ x, w.alloc (.cells #[.int .i64 0, .int .i64 0, .int .i64 0, .bool false, .bool false, .int .i64 0, .bool false, .bool false, .int .i64 0, .bool false, .bool false, .int .i64 0, .bool false, .bool false] 27) = x := ⟨_, rfl⟩
  have hs1 : w1.heap.size = q + 1 := by rw [← hw1, World.size_alloc, hq]
  have hR1 : Whole w1 q 27 (vc 0 0 zL zL zL zL) := by rw [← hw1, ← hq]; exact Whole.new w _ _
  have hb1 : Below q w w1 := by rw [← hw1, ← hq]; exact (Below.refl _ _).alloc (Nat.le_refl _) _
  have HR := hide hR1
  have HB := hide hb1
  clear hR1 hb1 hk
  go_enter Tryd.func38, Tryd.ntmps38
  go_wp2_with fail
  refine (lanes_any _ _).mono ?_
  rintro en w2 ⟨rfl, rfl⟩
  rw [HNL.out]
  obtain ⟨c0, c1, c2, c3, c4, c5, c6, c7, c8, c9, c10, c11, c12, c13⟩ := vc_cells HR.out
  obtain ⟨f0, f1, f2, f3, f4, f5, f6, f7, f8, f9, f10, f11, f12, f13⟩ := vc_free HR.out
  go_wp2_with fail
  refine bodyPost_ret (v := .agg #[.int .i64 0, .int .i64 0, .int .i64 0, .bool false, .bool false, .int .i64 0, .bool false, .bool false, .int .i64 0, .bool false, .bool false, .int .i64 0, .bool false, .bool false]) ?_ rfl ⟨rfl, by rw [hq]; exact ((((((((((((((HB.out.setCell (p := ⟨q, 0, none⟩) (Nat.le_refl _) (.int .i64 0)).setCell (p := ⟨q, 1, none⟩) (Nat.le_refl _) (.int .i64 0)).setCell (p := ⟨q, 2, none⟩) (Nat.le_refl _) (.int .i64 0)).setCell (p := ⟨q, 3, none⟩) (Nat.le_refl _) (.bool false)).setCell (p := ⟨q, 4, none⟩) (Nat.le_refl _) (.bool false)).setCell (p := ⟨q, 5, none⟩) (Nat.le_refl _) (.int .i64 0)).setCell (p := ⟨q, 6, none⟩) (Nat.le_refl _) (.bool false)).setCell (p := ⟨q, 7, none⟩) (Nat.le_refl _) (.bool false)).setCell (p := ⟨q, 8, none⟩) (Nat.le_refl _) (.int .i64 0)).setCell (p := ⟨q, 9, none⟩) (Nat.le_refl _) (.bool false)).setCell (p := ⟨q, 10, none⟩) (Nat.le_refl _) (.bool false)).setCell (p := ⟨q, 11, none⟩) (Nat.le_refl _) (.int .i64 0)).setCell (p := ⟨q, 12, none⟩) (Nat.le_refl _) (.bool false)).setCell (p := ⟨q, 13, none⟩) (Nat.le_refl _) (.bool false))⟩
  simp [results, Tryd.f38, go_sem, c0, c1, c2, c3, c4, c5, c6, c7, c8, c9, c10, c11, c12, c13]

set_option maxRecDepth 100000 in
set_option maxHeartbeats 8000000 in
theorem each_poison_1 (t : Int) (a : LaneD) (w : World) (hk : numL t = 1) (K0 : ∀ W, Below w.heap.size w W → Calls Tryd.prog 40 #[.int .i64 0] W fun e w' => e = .returned (.agg #[.int .i64 a.n, .bool a.p, .bool a.u]) ∧ Below W.heap.size W w') :
    Calls Tryd.prog 38 #[.int .i64 t, .func (.func 40) #[] #[]] w fun e w' => e = .returned (.agg #[.int .i64 t, .int .i64 0, .int .i64 a.n, .bool a.p, .bool a.u, .int .i64 0, .bool false, .bool false, .int .i64 0, .bool false, .bool false, .int .i64 0, .bool false, .bool false]) ∧ Below w.heap.size w w' := by
  have HK0 := hide K0
  clear K0
  have HNL := hide hk
  obtain ⟨q, hq⟩ : ∃ q, w.heap.size = q := ⟨_, rfl⟩
  obtain ⟨w1, hw1⟩ : ∃ x, w.alloc (.cells #[.int .i64 0, .int .i64 0, .int .i64 0, .bool false, .bool false, .int .i64 0, .bool false, .bool false, .int .i64 0, .bool false, .bool false, .int .i64 0, .bool false, .bool false] 27) = x := ⟨_, rfl⟩
  have hs1 : w1.heap.size = q + 1 := by rw [← hw1, World.size_alloc, hq]
  have hR1 : Whole w1 q 27 (vc 0 0 zL zL zL zL) := by rw [← hw1, ← hq]; exact Whole.new w _ _
  have hb1 : Below q w w1 := by rw [← hw1, ← hq]; exact (Below.refl _ _).alloc (Nat.le_refl _) _
  have HR1 := hide hR1
  have HB1 := hide hb1
  clear hR1 hb1 hk
  go_enter Tryd.func38, Tryd.ntmps38
  go_wp2_with fail
  refine (lanes_any _ _).mono ?_
  rintro en w' ⟨rfl, rfl⟩
  rw [HNL.out]
  go_wp2_with fail
  obtain ⟨w2, hw2⟩ : ∃ x, w1.alloc (.cells #[.int .i64 t, .int .i64 0, .int .i64 0, .bool false, .bool false, .int .i64 0, .bool false, .bool false, .int .i64 0, .bool false, .bool false, .int .i64 0, .bool false, .bool false] 27) = x := ⟨_, rfl⟩
  rw [hw2]
  have hs2 : w2.heap.size = q + 1 + 1 := by rw [← hw2, World.size_alloc, hs1]
  have hV2 : Whole w2 (q + 1) 27 (vc t 0 zL zL zL zL) := by rw [← hw2, ← hs1]; exact Whole.new w1 _ _
  have hb12 : Below w1.heap.size w1 w2 := by rw [← hw2]; exact (Below.refl _ _).alloc (Nat.le_refl _) _
  have HV0 := hide hV2
  have HR0 := hide (HR1.out.below' hb12)
  have HB0 : Hid (Below q w w2) := hide (HB1.out.trans (hb12.mono (by omega)))
  have HS0 : Hid (q + 1 + 1 ≤ w2.heap.size) := hide (by omega)
  clear hw1 hw2 hs1 hs2 hV2 hb12 HR1 HB1
  refine wp_loop_rounds 2 ?_
  rw [rounds_succ]
  have KK := HK0.out w2 (by rw [hq]; exact HB0.out)
  go_wp2_with fail
  refine KK.mono ?_
  rintro en wc0 ⟨rfl, hbc⟩
  have hVc := HV0.out.below' hbc
  have HRc0 := hide (HR0.out.below' hbc)
  have HBc0 : Hid (Below q w wc0) := hide (HB0.out.trans (hbc.mono (by have := HS0.out; omega)))
  have HSc0 : Hid (q + 1 + 1 ≤ wc0.heap.size) := hide (by have := HS0.out; have := hbc.size; omega)
  obtain ⟨c0, c1, c2, c3, c4, c5, c6, c7, c8, c9, c10, c11, c12, c13⟩ := vc_cells hVc
  obtain ⟨f0, f1, f2, f3, f4, f5, f6, f7, f8, f9, f10, f11, f12, f13⟩ := vc_free hVc
  obtain ⟨wn0, hn⟩ : ∃ x, (((wc0.setCell ⟨q + 1, 2, none⟩ (.int .i64 a.n)).setCell ⟨q + 1, 3, none⟩ (.bool a.p)).setCell ⟨q + 1, 4, none⟩ (.bool a.u)) = x := ⟨_, rfl⟩
  have HV1 : Hid (Whole wn0 (q + 1) 27 (vc t 0 a zL zL zL)) := hide (by rw [← hn]; exact hVc.lane 2 a)
  have hF : Frm wc0 wn0 [q + 1] := by rw [← hn]; exact (((Frm.refl _ _).setCell _ _ (.inl (by simp))).setCell _ _ (.inl (by simp))).setCell _ _ (.inl (by simp))
  have HR1 := hide (HRc0.out.frm hF (by simp))
  have HB1 : Hid (Below q w wn0) := hide (HBc0.out.trans (hF.toBelow (fun x hx => by rw [List.mem_singleton.1 hx]; omega) (by have := HSc0.out; omega)))
  have HS1 : Hid (q + 1 + 1 ≤ wn0.heap.size) := hide (by have := HSc0.out; have := hF.size; omega)
  clear hVc hbc hF KK HV0 HR0 HB0 HS0
  go_wp2_with fail
  clear hn c0 c1 c2 c3 c4 c5 c6 c7 c8 c9 c10 c11 c12 c13 f0 f1 f2 f3 f4 f5 f6 f7 f8 f9 f10 f11 f12 f13
  rw [rounds_succ]
  obtain ⟨c0, c1, c2, c3, c4, c5, c6, c7, c8, c9, c10, c11, c12, c13⟩ := vc_cells HV1.out
  obtain ⟨r0, r1, r2, r3, r4, r5, r6, r7, r8, r9, r10, r11, r12, r13⟩ := vc_cells HR1.out
  obtain ⟨f0, f1, f2, f3, f4, f5, f6, f7, f8, f9, f10, f11, f12, f13⟩ := vc_free HR1.out
  simp only [zL] at c0 c1 c2 c3 c4 c5 c6 c7 c8 c9 c10 c11 c12 c13 r0 r1 r2 r3 r4 r5 r6 r7 r8 r9 r10 r11 r12 r13
  go_wp2_with fail
  refine bodyPost_ret (v := .agg #[.int .i64 t, .int .i64 0, .int .i64 a.n, .bool a.p, .bool a.u, .int .i64 0, .bool false, .bool false, .int .i64 0, .bool false, .bool false, .int .i64 0, .bool false, .bool false]) ?_ rfl ⟨rfl, by rw [hq]; exact ((((((((((((((HB1.out.setCell (p := ⟨q, 0, none⟩) (Nat.le_refl _) (.int .i64 t)).setCell (p := ⟨q, 1, none⟩) (Nat.le_refl _) (.int .i64 0)).setCell (p := ⟨q, 2, none⟩) (Nat.le_refl _) (.int .i64 a.n)).setCell (p := ⟨q, 3, none⟩) (Nat.le_refl _) (.bool a.p)).setCell (p := ⟨q, 4, none⟩) (Nat.le_refl _) (.bool a.u)).setCell (p := ⟨q, 5, none⟩) (Nat.le_refl _) (.int .i64 0)).setCell (p := ⟨q, 6, none⟩) (Nat.le_refl _) (.bool false)).setCell (p := ⟨q, 7, none⟩) (Nat.le_refl _) (.bool false)).setCell (p := ⟨q, 8, none⟩) (Nat.le_refl _) (.int .i64 0)).setCell (p := ⟨q, 9, none⟩) (Nat.le_refl _) (.bool false)).setCell (p := ⟨q, 10, none⟩) (Nat.le_refl _) (.bool false)).setCell (p := ⟨q, 11, none⟩) (Nat.le_refl _) (.int .i64 0)).setCell (p := ⟨q, 12, none⟩) (Nat.le_refl _) (.bool false)).setCell (p := ⟨q, 13, none⟩) (Nat.le_refl _) (.bool false))⟩
  simp [results, Tryd.f38, go_sem, r0, r1, r2, r3, r4, r5, r6, r7, r8, r9, r10, r11, r12, r13]

set_option maxRecDepth 100000 in
set_option maxHeartbeats 8000000 in
theorem each_poison_2 (t : Int) (a b : LaneD) (w : World) (hk : numL t = 2) (K0 : ∀ W, Below w.heap.size w W → Calls Tryd.prog 40 #[.int .i64 0] W fun e w' => e = .returned (.agg #[.int .i64 a.n, .bool a.p, .bool a.u]) ∧ Below W.heap.size W w') (K1 : ∀ W, Below w.heap.size w W → Calls Tryd.prog 40 #[.int .i64 1] W fun e w' => e = .returned (.agg #[.int .i64 b.n, .bool b.p, .bool b.u]) ∧ Below W.heap.size W w') :
    Calls Tryd.prog 38 #[.int .i64 t, .func (.func 40) #[] #[]] w fun e w' => e = .returned (.agg #[.int .i64 t, .int .i64 0, .int .i64 a.n, .bool a.p, .bool a.u, .int .i64 b.n, .bool b.p, .bool b.u, .int .i64 0, .bool false, .bool false, .int .i64 0, .bool false, .bool false]) ∧ Below w.heap.size w w' := by
  have HK0 := hide K0
  have HK1 := hide K1
  clear K0 K1
  have HNL := hide hk
  obtain ⟨q, hq⟩ : ∃ q, w.heap.size = q := ⟨_, rfl⟩
  obtain ⟨w1, hw1⟩ : ∃ x, w.alloc (.cells #[.int .i64 0, .int .i64 0, .int .i64 0, .bool false, .bool false, .int .i64 0, .bool false, .bool false, .int .i64 0, .bool false, .bool false, .int .i64 0, .bool false, .bool false] 27) = x := ⟨_, rfl⟩
  have hs1 : w1.heap.size = q + 1 := by rw [← hw1, World.size_alloc, hq]
  have hR1 : Whole w1 q 27 (vc 0 0 zL zL zL zL) := by rw [← hw1, ← hq]; exact Whole.new w _ _
  have hb1 : Below q w w1 := by rw [← hw1, ← hq]; exact (Below.refl _ _).alloc (Nat.le_refl _) _
  have HR1 := hide hR1
  have HB1 := hide hb1
  clear hR1 hb1 hk
  go_enter Tryd.func38, Tryd.ntmps38
  go_wp2_with fail
  refine (lanes_any _ _).mono ?_
  rintro en w' ⟨rfl, rfl⟩
  rw [HNL.out]
  go_wp2_with fail
  obtain ⟨w2, hw2⟩ : ∃ x, w1.alloc (.cells #[.int .i64 t, .int .i64 0, .int .i64 0, .bool false, .bool false, .int .i64 0, .bool false, .bool false, .int .i64 0, .bool false, .bool false, .int .i64 0, .bool false, .bool false] 27) = x := ⟨_, rfl⟩
  rw [hw2]
  have hs2 : w2.heap.size = q + 1 + 1 := by rw [← hw2, World.size_alloc, hs1]
  have hV2 : Whole w2 (q + 1) 27 (vc t 0 zL zL zL zL) := by rw [← hw2, ← hs1]; exact Whole.new w1 _ _
  have hb12 : Below w1.heap.size w1 w2 := by rw [← hw2]; exact (Below.refl _ _).alloc (Nat.le_refl _) _
  have HV0 := hide hV2
  have HR0 := hide (HR1.out.below' hb12)
  have HB0 : Hid (Below q w w2) := hide (HB1.out.trans (hb12.mono (by omega)))
  have HS0 : Hid (q + 1 + 1 ≤ w2.heap.size) := hide (by omega)
  clear hw1 hw2 hs1 hs2 hV2 hb12 HR1 HB1
  refine wp_loop_rounds 3 ?_
  rw [rounds_succ]
  have KK := HK0.out w2 (by rw [hq]; exact HB0.out)
  go_wp2_with fail
  refine KK.mono ?_
  rintro en wc0 ⟨rfl, hbc⟩
  have hVc := HV0.out.below' hbc
  have HRc0 := hide (HR0.out.below' hbc)
  have HBc0 : Hid (Below q w wc0) := hide (HB0.out.trans (hbc.mono (by have := HS0.out; omega)))
  have HSc0 : Hid (q + 1 + 1 ≤ wc0.heap.size) := hide (by have := HS0.out; have := hbc.size; omega)
  obtain ⟨c0, c1, c2, c3, c4, c5, c6, c7, c8, c9, c10, c11, c12, c13⟩ := vc_cells hVc
  obtain ⟨f0, f1, f2, f3, f4, f5, f6, f7, f8, f9, f10, f11, f12, f13⟩ := vc_free hVc
  obtain ⟨wn0, hn⟩ : ∃ x, (((wc0.setCell ⟨q + 1, 2, none⟩ (.int .i64 a.n)).setCell ⟨q + 1, 3, none⟩ (.bool a.p)).setCell ⟨q + 1, 4, none⟩ (.bool a.u)) = x := ⟨_, rfl⟩
  have HV1 : Hid (Whole wn0 (q + 1) 27 (vc t 0 a zL zL zL)) := hide (by rw [← hn]; exact hVc.lane 2 a)
  have hF : Frm wc0 wn0 [q + 1] := by rw [← hn]; exact (((Frm.refl _ _).setCell _ _ (.inl (by simp))).setCell _ _ (.inl (by simp))).setCell _ _ (.inl (by simp))
  have HR1 := hide (HRc0.out.frm hF (by simp))
  have HB1 : Hid (Below q w wn0) := hide (HBc0.out.trans (hF.toBelow (fun x hx => by rw [List.mem_singleton.1 hx]; omega) (by have := HSc0.out; omega)))
  have HS1 : Hid (q + 1 + 1 ≤ wn0.heap.size) := hide (by have := HSc0.out; have := hF.size; omega)
  clear hVc hbc hF KK HV0 HR0 HB0 HS0
  go_wp2_with fail
  clear hn c0 c1 c2 c3 c4 c5 c6 c7 c8 c9 c10 c11 c12 c13 f0 f1 f2 f3 f4 f5 f6 f7 f8 f9 f10 f11 f12 f13
  rw [rounds_succ]
  have KK := HK1.out wn0 (by rw [hq]; exact HB1.out)
  go_wp2_with fail
  refine KK.mono ?_
  rintro en wc1 ⟨rfl, hbc⟩
  have hVc := HV1.out.below' hbc
  have HRc1 := hide (HR1.out.below' hbc)
  have HBc1 : Hid (Below q w wc1) := hide (HB1.out.trans (hbc.mono (by have := HS1.out; omega)))
  have HSc1 : Hid (q + 1 + 1 ≤ wc1.heap.size) := hide (by have := HS1.out; have := hbc.size; omega)
  obtain ⟨c0, c1, c2, c3, c4, c5, c6, c7, c8, c9, c10, c11, c12, c13⟩ := vc_cells hVc
  obtain ⟨f0, f1, f2, f3, f4, f5, f6, f7, f8, f9, f10, f11, f12, f13⟩ := vc_free hVc
  obtain ⟨wn1, hn⟩ : ∃ x, (((wc1.setCell ⟨q + 1, 5, none⟩ (.int .i64 b.n)).setCell ⟨q + 1, 6, none⟩ (.bool b.p)).setCell ⟨q + 1, 7, none⟩ (.bool b.u)) = x := ⟨_, rfl⟩
  have HV2 : Hid (Whole wn1 (q + 1) 27 (vc t 0 a b zL zL)) := hide (by rw [← hn]; exact hVc.lane 5 b)
  have hF : Frm wc1 wn1 [q + 1] := by rw [← hn]; exact (((Frm.refl _ _).setCell _ _ (.inl (by simp))).setCell _ _ (.inl (by simp))).setCell _ _ (.inl (by simp))
  have HR2 := hide (HRc1.out.frm hF (by simp))
  have HB2 : Hid (Below q w wn1) := hide (HBc1.out.trans (hF.toBelow (fun x hx => by rw [List.mem_singleton.1 hx]; omega) (by have := HSc1.out; omega)))
  have HS2 : Hid (q + 1 + 1 ≤ wn1.heap.size) := hide (by have := HSc1.out; have := hF.size; omega)
  clear hVc hbc hF KK HV1 HR1 HB1 HS1
  go_wp2_with fail
  clear hn c0 c1 c2 c3 c4 c5 c6 c7 c8 c9 c10 c11 c12 c13 f0 f1 f2 f3 f4 f5 f6 f7 f8 f9 f10 f11 f12 f13
  rw [rounds_succ]
  obtain ⟨c0, c1, c2, c3, c4, c5, c6, c7, c8, c9, c10, c11, c12, c13⟩ := vc_cells HV2.out
  obtain ⟨r0, r1, r2, r3, r4, r5, r6, r7, r8, r9, r10, r11, r12, r13⟩ := vc_cells HR2.out
  obtain ⟨f0, f1, f2, f3, f4, f5, f6, f7, f8, f9, f10, f11, f12, f13⟩ := vc_free HR2.out
  simp only [zL] at c0 c1 c2 c3 c4 c5 c6 c7 c8 c9 c10 c11 c12 c13 r0 r1 r2 r3 r4 r5 r6 r7 r8 r9 r10 r11 r12 r13
  go_wp2_with fail
  refine bodyPost_ret (v := .agg #[.int .i64 t, .int .i64 0, .int .i64 a.n, .bool a.p, .bool a.u, .int .i64 b.n, .bool b.p, .bool b.u, .int .i64 0, .bool false, .bool false, .int .i64 0, .bool false, .bool false]) ?_ rfl ⟨rfl, by rw [hq]; exact ((((((((((((((HB2.out.setCell (p := ⟨q, 0, none⟩) (Nat.le_refl _) (.int .i64 t)).setCell (p := ⟨q, 1, none⟩) (Nat.le_refl _) (.int .i64 0)).setCell (p := ⟨q, 2, none⟩) (Nat.le_refl _) (.int .i64 a.n)).setCell (p := ⟨q, 3, none⟩) (Nat.le_refl _) (.bool a.p)).setCell (p := ⟨q, 4, none⟩) (Nat.le_refl _) (.bool a.u)).setCell (p := ⟨q, 5, none⟩) (Nat.le_refl _) (.int .i64 b.n)).setCell (p := ⟨q, 6, none⟩) (Nat.le_refl _) (.bool b.p)).setCell (p := ⟨q, 7, none⟩) (Nat.le_refl _) (.bool b.u)).setCell (p := ⟨q, 8, none⟩) (Nat.le_refl _) (.int .i64 0)).setCell (p := ⟨q, 9, none⟩) (Nat.le_refl _) (.bool false)).setCell (p := ⟨q, 10, none⟩) (Nat.le_refl _) (.bool false)).setCell (p := ⟨q, 11, none⟩) (Nat.le_refl _) (.int .i64 0)).setCell (p := ⟨q, 12, none⟩) (Nat.le_refl _) (.bool false)).setCell (p := ⟨q, 13, none⟩) (Nat.le_refl _) (.bool false))⟩
  simp [results, Tryd.f38, go_sem, r0, r1, r2, r3, r4, r5, r6, r7, r8, r9, r10, r11, r12, r13]

set_option maxRecDepth 100000 in
set_option maxHeartbeats 8000000 in
theorem each_poison_4 (t : Int) (a b c d : LaneD) (w : World) (hk : numL t = 4) (K0 : ∀ W, Below w.heap.size w W → Calls Tryd.prog 40 #[.int .i64 0] W fun e w' => e = .returned (.agg #[.int .i64 a.n, .bool a.p, .bool a.u]) ∧ Below W.heap.size W w') (K1 : ∀ W, Below w.heap.size w W → Calls Tryd.prog 40 #[.int .i64 1] W fun e w' => e = .returned (.agg #[.int .i64 b.n, .bool b.p, .bool b.u]) ∧ Below W.heap.size W w') (K2 : ∀ W, Below w.heap.size w W → Calls Tryd.prog 40 #[.int .i64 2] W fun e w' => e = .returned (.agg #[.int .i64 c.n, .bool c.p, .bool c.u]) ∧ Below W.heap.size W w') (K3 : ∀ W, Below w.heap.size w W → Calls Tryd.prog 40 #[.int .i64 3] W fun e w' => e = .returned (.agg #[.int .i64 d.n, .bool d.p, .bool d.u]) ∧ Below W.heap.size W w') :
    Calls Tryd.prog 38 #[.int .i64 t, .func (.func 40) #[] #[]] w fun e w' => e = .returned (.agg #[.int .i64 t, .int .i64 0, .int .i64 a.n, .bool a.p, .bool a.u, .int .i64 b.n, .bool b.p, .bool b.u, .int .i64 c.n, .bool c.p, .bool c.u, .int .i64 d.n, .bool d.p, .bool d.u]) ∧ Below w.heap.size w w' := by
  have HK0 := hide K0
  have HK1 := hide K1
  have HK2 := hide K2
  have HK3 := hide K3
  clear K0 K1 K2 K3
  have HNL := hide hk
  obtain ⟨q, hq⟩ : ∃ q, w.heap.size = q := ⟨_, rfl⟩
  obtain ⟨w1, hw1⟩ : ∃ x, w.alloc (.cells #[.int .i64 0, .int .i64 0, .int .i64 0, .bool false, .bool false, .int .i64 0, .bool false, .bool false, .int .i64 0, .bool false, .bool false, .int .i64 0, .bool false, .bool false] 27) = x := ⟨_, rfl⟩
  have hs1 : w1.heap.size = q + 1 := by rw [← hw1, World.size_alloc, hq]
  have hR1 : Whole w1 q 27 (vc 0 0 zL zL zL zL) := by rw [← hw1, ← hq]; exact Whole.new w _ _
  have hb1 : Below q w w1 := by rw [← hw1, ← hq]; exact (Below.refl _ _).alloc (Nat.le_refl _) _
  have HR1 := hide hR1
  have HB1 := hide hb1
  clear hR1 hb1 hk
  go_enter Tryd.func38, Tryd.ntmps38
  go_wp2_with fail
  refine (lanes_any _ _).mono ?_
  rintro en w' ⟨rfl, rfl⟩
  rw [HNL.out]
  go_wp2_with fail
  obtain ⟨w2, hw2⟩ : ∃ x, w1.alloc (.cells #[.int .i64 t, .int .i64 0, .int .i64 0, .bool false, .bool false, .int .i64 0, .bool false, .bool false, .int .i64 0, .bool false, .bool false, .int .i64 0, .bool false, .bool false] 27) = x := ⟨_, rfl⟩
  rw [hw2]
  have hs2 : w2.heap.size = q + 1 + 1 := by rw [← hw2, World.size_alloc, hs1]
  have hV2 : Whole w2 (q + 1) 27 (vc t 0 zL zL zL zL) := by rw [← hw2, ← hs1]; exact Whole.new w1 _ _
  have hb12 : Below w1.heap.size w1 w2 := by rw [← hw2]; exact (Below.refl _ _).alloc (Nat.le_refl _) _
  have HV0 := hide hV2
  have HR0 := hide (HR1.out.below' hb12)
  have HB0 : Hid (Below q w w2) := hide (HB1.out.trans (hb12.mono (by omega)))
  have HS0 : Hid (q + 1 + 1 ≤ w2.heap.size) := hide (by omega)
  clear hw1 hw2 hs1 hs2 hV2 hb12 HR1 HB1
  refine wp_loop_rounds 5 ?_
  rw [rounds_succ]
  have KK := HK0.out w2 (by rw [hq]; exact HB0.out)
  go_wp2_with fail
  refine KK.mono ?_
  rintro en wc0 ⟨rfl, hbc⟩
  have hVc := HV0.out.below' hbc
  have HRc0 := hide (HR0.out.below' hbc)
  have HBc0 : Hid (Below q w wc0) := hide (HB0.out.trans (hbc.mono (by have := HS0.out; omega)))
  have HSc0 : Hid (q + 1 + 1 ≤ wc0.heap.size) := hide (by have := HS0.out; have := hbc.size; omega)
  obtain ⟨c0, c1, c2, c3, c4, c5, c6, c7, c8, c9, c10, c11, c12, c13⟩ := vc_cells hVc
  obtain ⟨f0, f1, f2, f3, f4, f5, f6, f7, f8, f9, f10, f11, f12, f13⟩ := vc_free hVc
  obtain ⟨wn0, hn⟩ : ∃ x, (((wc0.setCell ⟨q + 1, 2, none⟩ (.int .i64 a.n)).setCell ⟨q + 1, 3, none⟩ (.bool a.p)).setCell ⟨q + 1, 4, none⟩ (.bool a.u)) = x := ⟨_, rfl⟩
  have HV1 : Hid (Whole wn0 (q + 1) 27 (vc t 0 a zL zL zL)) := hide (by rw [← hn]; exact hVc.lane 2 a)
  have hF : Frm wc0 wn0 [q + 1] := by rw [← hn]; exact (((Frm.refl _ _).setCell _ _ (.inl (by simp))).setCell _ _ (.inl (by simp))).setCell _ _ (.inl (by simp))
  have HR1 := hide (HRc0.out.frm hF (by simp))
  have HB1 : Hid (Below q w wn0) := hide (HBc0.out.trans (hF.toBelow (fun x hx => by rw [List.mem_singleton.1 hx]; omega) (by have := HSc0.out; omega)))
  have HS1 : Hid (q + 1 + 1 ≤ wn0.heap.size) := hide (by have := HSc0.out; have := hF.size; omega)
  clear hVc hbc hF KK HV0 HR0 HB0 HS0
  go_wp2_with fail
  clear hn c0 c1 c2 c3 c4 c5 c6 c7 c8 c9 c10 c11 c12 c13 f0 f1 f2 f3 f4 f5 f6 f7 f8 f9 f10 f11 f12 f13
  rw [rounds_succ]
  have KK := HK1.out wn0 (by rw [hq]; exact HB1.out)
  go_wp2_with fail
  refine KK.mono ?_
  rintro en wc1 ⟨rfl, hbc⟩
  have hVc := HV1.out.below' hbc
  have HRc1 := hide (HR1.out.below' hbc)
  have HBc1 : Hid (Below q w wc1) := hide (HB1.out.trans (hbc.mono (by have := HS1.out; omega)))
  have HSc1 : Hid (q + 1 + 1 ≤ wc1.heap.size) := hide (by have := HS1.out; have := hbc.size; omega)
  obtain ⟨c0, c1, c2, c3, c4, c5, c6, c7, c8, c9, c10, c11, c12, c13⟩ := vc_cells hVc
  obtain ⟨f0, f1, f2, f3, f4, f5, f6, f7, f8, f9, f10, f11, f12, f13⟩ := vc_free hVc
  obtain ⟨wn1, hn⟩ : ∃ x, (((wc1.setCell ⟨q + 1, 5, none⟩ (.int .i64 b.n)).setCell ⟨q + 1, 6, none⟩ (.bool b.p)).setCell ⟨q + 1, 7, none⟩ (.bool b.u)) = x := ⟨_, rfl⟩
  have HV2 : Hid (Whole wn1 (q + 1) 27 (vc t 0 a b zL zL)) := hide (by rw [← hn]; exact hVc.lane 5 b)
  have hF : Frm wc1 wn1 [q + 1] := by rw [← hn]; exact (((Frm.refl _ _).setCell _ _ (.inl (by simp))).setCell _ _ (.inl (by simp))).setCell _ _ (.inl (by simp))
  have HR2 := hide (HRc1.out.frm hF (by simp))
  have HB2 : Hid (Below q w wn1) := hide (HBc1.out.trans (hF.toBelow (fun x hx => by rw [List.mem_singleton.1 hx]; omega) (by have := HSc1.out; omega)))
  have HS2 : Hid (q + 1 + 1 ≤ wn1.heap.size) := hide (by have := HSc1.out; have := hF.size; omega)
  clear hVc hbc hF KK HV1 HR1 HB1 HS1
  go_wp2_with fail
  clear hn c0 c1 c2 c3 c4 c5 c6 c7 c8 c9 c10 c11 c12 c13 f0 f1 f2 f3 f4 f5 f6 f7 f8 f9 f10 f11 f12 f13
  rw [rounds_succ]
  have KK := HK2.out wn1 (by rw [hq]; exact HB2.out)
  go_wp2_with fail
  refine KK.mono ?_
  rintro en wc2 ⟨rfl, hbc⟩
  have hVc := HV2.out.below' hbc
  have HRc2 := hide (HR2.out.below' hbc)
  have HBc2 : Hid (Below q w wc2) := hide (HB2.out.trans (hbc.mono (by have := HS2.out; omega)))
  have HSc2 : Hid (q + 1 + 1 ≤ wc2.heap.size) := hide (by have := HS2.out; have := hbc.size; omega)
  obtain ⟨c0, c1, c2, c3, c4, c5, c6, c7, c8, c9, c10, c11, c12, c13⟩ := vc_cells hVc
  obtain ⟨f0, f1, f2, f3, f4, f5, f6, f7, f8, f9, f10, f11, f12, f13⟩ := vc_free hVc
  obtain ⟨wn2, hn⟩ : ∃ x, (((wc2.setCell ⟨q + 1, 8, none⟩ (.int .i64 c.n)).setCell ⟨q + 1, 9, none⟩ (.bool c.p)).setCell ⟨q + 1, 10, none⟩ (.bool c.u)) = x := ⟨_, rfl⟩
  have HV3 : Hid (Whole wn2 (q + 1) 27 (vc t 0 a b c zL)) := hide (by rw [← hn]; exact hVc.lane 8 c)
  have hF : Frm wc2 wn2 [q + 1] := by rw [← hn]; exact (((Frm.refl _ _).setCell _ _ (.inl (by simp))).setCell _ _ (.inl (by simp))).setCell _ _ (.inl (by simp))
  have HR3 := hide (HRc2.out.frm hF (by simp))
  have HB3 : Hid (Below q w wn2) := hide (HBc2.out.trans (hF.toBelow (fun x hx => by rw [List.mem_singleton.1 hx]; omega) (by have := HSc2.out; omega)))
  have HS3 : Hid (q + 1 + 1 ≤ wn2.heap.size) := hide (by have := HSc2.out; have := hF.size; omega)
  clear hVc hbc hF KK HV2 HR2 HB2 HS2
  go_wp2_with fail
  clear hn c0 c1 c2 c3 c4 c5 c6 c7 c8 c9 c10 c11 c12 c13 f0 f1 f2 f3 f4 f5 f6 f7 f8 f9 f10 f11 f12 f13
  rw [rounds_succ]
  have KK := HK3.out wn2 (by rw [hq]; exact HB3.out)
  go_wp2_with fail
  refine KK.mono ?_
  rintro en wc3 ⟨rfl, hbc⟩
  have hVc := HV3.out.below' hbc
  have HRc3 := hide (HR3.out.below' hbc)
  have HBc3 : Hid (Below q w wc3) := hide (HB3.out.trans (hbc.mono (by have := HS3.out; omega)))
  have HSc3 : Hid (q + 1 + 1 ≤ wc3.heap.size) := hide (by have := HS3.out; have := hbc.size; omega)
  obtain ⟨c0, c1, c2, c3, c4, c5, c6, c7, c8, c9, c10, c11, c12, c13⟩ := vc_cells hVc
  obtain ⟨f0, f1, f2, f3, f4, f5, f6, f7, f8, f9, f10, f11, f12, f13⟩ := vc_free hVc
  obtain ⟨wn3, hn⟩ : ∃ x, (((wc3.setCell ⟨q + 1, 11, none⟩ (.int .i64 d.n)).setCell ⟨q + 1, 12, none⟩ (.bool d.p)).setCell ⟨q + 1, 13, none⟩ (.bool d.u)) = x := ⟨_, rfl⟩
  have HV4 : Hid (Whole wn3 (q + 1) 27 (vc t 0 a b c d)) := hide (by rw [← hn]; exact hVc.lane 11 d)
  have hF : Frm wc3 wn3 [q + 1] := by rw [← hn]; exact (((Frm.refl _ _).setCell _ _ (.inl (by simp))).setCell _ _ (.inl (by simp))).setCell _ _ (.inl (by simp))
  have HR4 := hide (HRc3.out.frm hF (by simp))
  have HB4 : Hid (Below q w wn3) := hide (HBc3.out.trans (hF.toBelow (fun x hx => by rw [List.mem_singleton.1 hx]; omega) (by have := HSc3.out; omega)))
  have HS4 : Hid (q + 1 + 1 ≤ wn3.heap.size) := hide (by have := HSc3.out; have := hF.size; omega)
  clear hVc hbc hF KK HV3 HR3 HB3 HS3
  go_wp2_with fail
  clear hn c0 c1 c2 c3 c4 c5 c6 c7 c8 c9 c10 c11 c12 c13 f0 f1 f2 f3 f4 f5 f6 f7 f8 f9 f10 f11 f12 f13
  rw [rounds_succ]
  obtain ⟨c0, c1, c2, c3, c4, c5, c6, c7, c8, c9, c10, c11, c12, c13⟩ := vc_cells HV4.out
  obtain ⟨r0, r1, r2, r3, r4, r5, r6, r7, r8, r9, r10, r11, r12, r13⟩ := vc_cells HR4.out
  obtain ⟨f0, f1, f2, f3, f4, f5, f6, f7, f8, f9, f10, f11, f12, f13⟩ := vc_free HR4.out
  simp only [zL] at c0 c1 c2 c3 c4 c5 c6 c7 c8 c9 c10 c11 c12 c13 r0 r1 r2 r3 r4 r5 r6 r7 r8 r9 r10 r11 r12 r13
  go_wp2_with fail
  refine bodyPost_ret (v := .agg #[.int .i64 t, .int .i64 0, .int .i64 a.n, .bool a.p, .bool a.u, .int .i64 b.n, .bool b.p, .bool b.u, .int .i64 c.n, .bool c.p, .bool c.u, .int .i64 d.n, .bool d.p, .bool d.u]) ?_ rfl ⟨rfl, by rw [hq]; exact ((((((((((((((HB4.out.setCell (p := ⟨q, 0, none⟩) (Nat.le_refl _) (.int .i64 t)).setCell (p := ⟨q, 1, none⟩) (Nat.le_refl _) (.int .i64 0)).setCell (p := ⟨q, 2, none⟩) (Nat.le_refl _) (.int .i64 a.n)).setCell (p := ⟨q, 3, none⟩) (Nat.le_refl _) (.bool a.p)).setCell (p := ⟨q, 4, none⟩) (Nat.le_refl _) (.bool a.u)).setCell (p := ⟨q, 5, none⟩) (Nat.le_refl _) (.int .i64 b.n)).setCell (p := ⟨q, 6, none⟩) (Nat.le_refl _) (.bool b.p)).setCell (p := ⟨q, 7, none⟩) (Nat.le_refl _) (.bool b.u)).setCell (p := ⟨q, 8, none⟩) (Nat.le_refl _) (.int .i64 c.n)).setCell (p := ⟨q, 9, none⟩) (Nat.le_refl _) (.bool c.p)).setCell (p := ⟨q, 10, none⟩) (Nat.le_refl _) (.bool c.u)).setCell (p := ⟨q, 11, none⟩) (Nat.le_refl _) (.int .i64 d.n)).setCell (p := ⟨q, 12, none⟩) (Nat.le_refl _) (.bool d.p)).setCell (p := ⟨q, 13, none⟩) (Nat.le_refl _) (.bool d.u))⟩
  simp [results, Tryd.f38, go_sem, r0, r1, r2, r3, r4, r5, r6, r7, r8, r9, r10, r11, r12, r13]

set_option maxRecDepth 100000 in
set_option maxHeartbeats 8000000 in
theorem each_int_0 (t : Int) (pb : Nat) (w : World) (hk : numL t = 0) :
    Calls Tryd.prog 38 #[.int .i64 t, .func (.func 39) #[] #[.pointer (some ⟨pb, 0, none⟩)]] w fun e w' => e = .returned (.agg #[.int .i64 0, .int .i64 0, .int .i64 0, .bool false, .bool false, .int .i64 0, .bool false, .bool false, .int .i64 0, .bool false, .bool false, .int .i64 0, .bool false, .bool false]) ∧ Below w.heap.size w w' := by
  have HNL := hide hk
  obtain ⟨q, hq⟩ : ∃ q, w.heap.size = q := ⟨_, rfl⟩
  obtain ⟨w1, hw1⟩ : ∃ x, w.alloc (.cells #[.int .i64 0, .int .i64 0, .int .i64 0, .bool false, .bool false, .int .i64 0, .bool false, .bool false, .int .i64 0, .bool false, .bool false, .int .i64 0, .bool false, .bool false] 27) = x := ⟨_, rfl⟩
  have hs1 : w1.heap.size = q + 1 := by rw [← hw1, World.size_alloc, hq]
  have hR1 : Whole w1 q 27 (vc 0 0 zL zL zL zL) := by rw [← hw1, ← hq]; exact Whole.new w _ _
  have hb1 : Below q w w1 := by rw [← hw1, ← hq]; exact (Below.refl _ _).alloc (Nat.le_refl _) _
  have HR := hide hR1
  have HB := hide hb1
  clear hR1 hb1 hk
  go_enter Tryd.func38, Tryd.ntmps38
  go_wp2_with fail
  refine (lanes_any _ _).mono ?_
  rintro en w2 ⟨rfl, rfl⟩
  rw [HNL.out]
  obtain ⟨c0, c1, c2, c3, c4, c5, c6, c7, c8, c9, c10, c11, c12, c13⟩ := vc_cells HR.out
  obtain ⟨f0, f1, f2, f3, f4, f5, f6, f7, f8, f9, f10, f11, f12, f13⟩ := vc_free HR.out
  go_wp2_with fail
  refine bodyPost_ret (v := .agg #[.int .i64 0, .int .i64 0, .int .i64 0, .bool false, .bool false, .int .i64 0, .bool false, .bool false, .int .i64 0, .bool false, .bool false, .int .i64 0, .bool false, .bool false]) ?_ rfl ⟨rfl, by rw [hq]; exact ((((((((((((((HB.out.setCell (p := ⟨q, 0, none⟩) (Nat.le_refl _) (.int .i64 0)).setCell (p := ⟨q, 1, none⟩) (Nat.le_refl _) (.int .i64 0)).setCell (p := ⟨q, 2, none⟩) (Nat.le_refl _) (.int .i64 0)).setCell (p := ⟨q, 3, none⟩) (Nat.le_refl _) (.bool false)).setCell (p := ⟨q, 4, none⟩) (Nat.le_refl _) (.bool false)).setCell (p := ⟨q, 5, none⟩) (Nat.le_refl _) (.int .i64 0)).setCell (p := ⟨q, 6, none⟩) (Nat.le_refl _) (.bool false)).setCell (p := ⟨q, 7, none⟩) (Nat.le_refl _) (.bool false)).setCell (p := ⟨q, 8, none⟩) (Nat.le_refl _) (.int .i64 0)).setCell (p := ⟨q, 9, none⟩) (Nat.le_refl _) (.bool false)).setCell (p := ⟨q, 10, none⟩) (Nat.le_refl _) (.bool false)).setCell (p := ⟨q, 11, none⟩) (Nat.le_refl _) (.int .i64 0)).setCell (p := ⟨q, 12, none⟩) (Nat.le_refl _) (.bool false)).setCell (p := ⟨q, 13, none⟩) (Nat.le_refl _) (.bool false))⟩
  simp [results, Tryd.f38, go_sem, c0, c1, c2, c3, c4, c5, c6, c7, c8, c9, c10, c11, c12, c13]

set_option maxRecDepth 100000 in
set_option maxHeartbeats 8000000 in
theorem each_int_1 (t : Int) (a : LaneD) (pb : Nat) (w : World) (hk : numL t = 1) (K0 : ∀ W, Below w.heap.size w W → Calls Tryd.prog 39 #[.int .i64 0, .pointer (some ⟨pb, 0, none⟩)] W fun e w' => e = .returned (.agg #[.int .i64 a.n, .bool a.p, .bool a.u]) ∧ Below W.heap.size W w') :
    Calls Tryd.prog 38 #[.int .i64 t, .func (.func 39) #[] #[.pointer (some ⟨pb, 0, none⟩)]] w fun e w' => e = .returned (.agg #[.int .i64 t, .int .i64 0, .int .i64 a.n, .bool a.p, .bool a.u, .int .i64 0, .bool false, .bool false, .int .i64 0, .bool false, .bool false, .int .i64 0, .bool false, .bool false]) ∧ Below w.heap.size w w' := by
  have HK0 := hide K0
  clear K0
  have HNL := hide hk
  obtain ⟨q, hq⟩ : ∃ q, w.heap.size = q := ⟨_, rfl⟩
  obtain ⟨w1, hw1⟩ : ∃ x, w.alloc (.cells #[.int .i64 0, .int .i64 0, .int .i64 0, .bool false, .bool false, .int .i64 0, .bool false, .bool false, .int .i64 0, .bool false, .bool false, .int .i64 0, .bool false, .bool false] 27) = x := ⟨_, rfl⟩
  have hs1 : w1.heap.size = q + 1 := by rw [← hw1, World.size_alloc, hq]
  have hR1 : Whole w1 q 27 (vc 0 0 zL zL zL zL) := by rw [← hw1, ← hq]; exact Whole.new w _ _
  have hb1 : Below q w w1 := by rw [← hw1, ← hq]; exact (Below.refl _ _).alloc (Nat.le_refl _) _
  have HR1 := hide hR1
  have HB1 := hide hb1
  clear hR1 hb1 hk
  go_enter Tryd.func38, Tryd.ntmps38
  go_wp2_with fail
  refine (lanes_any _ _).mono ?_
  rintro en w' ⟨rfl, rfl⟩
  rw [HNL.out]
  go_wp2_with fail
  obtain ⟨w2, hw2⟩ : ∃ x, w1.alloc (.cells #[.int .i64 t, .int .i64 0, .int .i64 0, .bool false, .bool false, .int .i64 0, .bool false, .bool false, .int .i64 0, .bool false, .bool false, .int .i64 0, .bool false, .bool false] 27) = x := ⟨_, rfl⟩
  rw [hw2]
  have hs2 : w2.heap.size = q + 1 + 1 := by rw [← hw2, World.size_alloc, hs1]
  have hV2 : Whole w2 (q + 1) 27 (vc t 0 zL zL zL zL) := by rw [← hw2, ← hs1]; exact Whole.new w1 _ _
  have hb12 : Below w1.heap.size w1 w2 := by rw [← hw2]; exact (Below.refl _ _).alloc (Nat.le_refl _) _
  have HV0 := hide hV2
  have HR0 := hide (HR1.out.below' hb12)
  have HB0 : Hid (Below q w w2) := hide (HB1.out.trans (hb12.mono (by omega)))
  have HS0 : Hid (q + 1 + 1 ≤ w2.heap.size) := hide (by omega)
  clear hw1 hw2 hs1 hs2 hV2 hb12 HR1 HB1
  refine wp_loop_rounds 2 ?_
  rw [rounds_succ]
  have KK := HK0.out w2 (by rw [hq]; exact HB0.out)
  go_wp2_with fail
  refine KK.mono ?_
  rintro en wc0 ⟨rfl, hbc⟩
  have hVc := HV0.out.below' hbc
  have HRc0 := hide (HR0.out.below' hbc)
  have HBc0 : Hid (Below q w wc0) := hide (HB0.out.trans (hbc.mono (by have := HS0.out; omega)))
  have HSc0 : Hid (q + 1 + 1 ≤ wc0.heap.size) := hide (by have := HS0.out; have := hbc.size; omega)
  obtain ⟨c0, c1, c2, c3, c4, c5, c6, c7, c8, c9, c10, c11, c12, c13⟩ := vc_cells hVc
  obtain ⟨f0, f1, f2, f3, f4, f5, f6, f7, f8, f9, f10, f11, f12, f13⟩ := vc_free hVc
  obtain ⟨wn0, hn⟩ : ∃ x, (((wc0.setCell ⟨q + 1, 2, none⟩ (.int .i64 a.n)).setCell ⟨q + 1, 3, none⟩ (.bool a.p)).setCell ⟨q + 1, 4, none⟩ (.bool a.u)) = x := ⟨_, rfl⟩
  have HV1 : Hid (Whole wn0 (q + 1) 27 (vc t 0 a zL zL zL)) := hide (by rw [← hn]; exact hVc.lane 2 a)
  have hF : Frm wc0 wn0 [q + 1] := by rw [← hn]; exact (((Frm.refl _ _).setCell _ _ (.inl (by simp))).setCell _ _ (.inl (by simp))).setCell _ _ (.inl (by simp))
  have HR1 := hide (HRc0.out.frm hF (by simp))
  have HB1 : Hid (Below q w wn0) := hide (HBc0.out.trans (hF.toBelow (fun x hx => by rw [List.mem_singleton.1 hx]; omega) (by have := HSc0.out; omega)))
  have HS1 : Hid (q + 1 + 1 ≤ wn0.heap.size) := hide (by have := HSc0.out; have := hF.size; omega)
  clear hVc hbc hF KK HV0 HR0 HB0 HS0
  go_wp2_with fail
  clear hn c0 c1 c2 c3 c4 c5 c6 c7 c8 c9 c10 c11 c12 c13 f0 f1 f2 f3 f4 f5 f6 f7 f8 f9 f10 f11 f12 f13
  rw [rounds_succ]
  obtain ⟨c0, c1, c2, c3, c4, c5, c6, c7, c8, c9, c10, c11, c12, c13⟩ := vc_cells HV1.out
  obtain ⟨r0, r1, r2, r3, r4, r5, r6, r7, r8, r9, r10, r11, r12, r13⟩ := vc_cells HR1.out
  obtain ⟨f0, f1, f2, f3, f4, f5, f6, f7, f8, f9, f10, f11, f12, f13⟩ := vc_free HR1.out
  simp only [zL] at c0 c1 c2 c3 c4 c5 c6 c7 c8 c9 c10 c11 c12 c13 r0 r1 r2 r3 r4 r5 r6 r7 r8 r9 r10 r11 r12 r13
  go_wp2_with fail
  refine bodyPost_ret (v := .agg #[.int .i64 t, .int .i64 0, .int .i64 a.n, .bool a.p, .bool a.u, .int .i64 0, .bool false, .bool false, .int .i64 0, .bool false, .bool false, .int .i64 0, .bool false, .bool false]) ?_ rfl ⟨rfl, by rw [hq]; exact ((((((((((((((HB1.out.setCell (p := ⟨q, 0, none⟩) (Nat.le_refl _) (.int .i64 t)).setCell (p := ⟨q, 1, none⟩) (Nat.le_refl _) (.int .i64 0)).setCell (p := ⟨q, 2, none⟩) (Nat.le_refl _) (.int .i64 a.n)).setCell (p := ⟨q, 3, none⟩) (Nat.le_refl _) (.bool a.p)).setCell (p := ⟨q, 4, none⟩) (Nat.le_refl _) (.bool a.u)).setCell (p := ⟨q, 5, none⟩) (Nat.le_refl _) (.int .i64 0)).setCell (p := ⟨q, 6, none⟩) (Nat.le_refl _) (.bool false)).setCell (p := ⟨q, 7, none⟩) (Nat.le_refl _) (.bool false)).setCell (p := ⟨q, 8, none⟩) (Nat.le_refl _) (.int .i64 0)).setCell (p := ⟨q, 9, none⟩) (Nat.le_refl _) (.bool false)).setCell (p := ⟨q, 10, none⟩) (Nat.le_refl _) (.bool false)).setCell (p := ⟨q, 11, none⟩) (Nat.le_refl _) (.int .i64 0)).setCell (p := ⟨q, 12, none⟩) (Nat.le_refl _) (.bool false)).setCell (p := ⟨q, 13, none⟩) (Nat.le_refl _) (.bool false))⟩
  simp [results, Tryd.f38, go_sem, r0, r1, r2, r3, r4, r5, r6, r7, r8, r9, r10, r11, r12, r13]

set_option maxRecDepth 100000 in
set_option maxHeartbeats 8000000 in
theorem each_int_2 (t : Int) (a b : LaneD) (pb : Nat) (w : World) (hk : numL t = 2) (K0 : ∀ W, Below w.heap.size w W → Calls Tryd.prog 39 #[.int .i64 0, .pointer (some ⟨pb, 0, none⟩)] W fun e w' => e = .returned (.agg #[.int .i64 a.n, .bool a.p, .bool a.u]) ∧ Below W.heap.size W w') (K1 : ∀ W, Below w.heap.size w W → Calls Tryd.prog 39 #[.int .i64 1, .pointer (some ⟨pb, 0, none⟩)] W fun e w' => e = .returned (.agg #[.int .i64 b.n, .bool b.p, .bool b.u]) ∧ Below W.heap.size W w') :
    Calls Tryd.prog 38 #[.int .i64 t, .func (.func 39) #[] #[.pointer (some ⟨pb, 0, none⟩)]] w fun e w' => e = .returned (.agg #[.int .i64 t, .int .i64 0, .int .i64 a.n, .bool a.p, .bool a.u, .int .i64 b.n, .bool b.p, .bool b.u, .int .i64 0, .bool false, .bool false, .int .i64 0, .bool false, .bool false]) ∧ Below w.heap.size w w' := by
  have HK0 := hide K0
  have HK1 := hide K1
  clear K0 K1
  have HNL := hide hk
  obtain ⟨q, hq⟩ : ∃ q, w.heap.size = q := ⟨_, rfl⟩
  obtain ⟨w1, hw1⟩ : ∃ x, w.alloc (.cells #[.int .i64 0, .int .i64 0, .int .i64 0, .bool false, .bool false, .int .i64 0, .bool false, .bool false, .int .i64 0, .bool false, .bool false, .int .i64 0, .bool false, .bool false] 27) = x := ⟨_, rfl⟩
  have hs1 : w1.heap.size = q + 1 := by rw [← hw1, World.size_alloc, hq]
  have hR1 : Whole w1 q 27 (vc 0 0 zL zL zL zL) := by rw [← hw1, ← hq]; exact Whole.new w _ _
  have hb1 : Below q w w1 := by rw [← hw1, ← hq]; exact (Below.refl _ _).alloc (Nat.le_refl _) _
  have HR1 := hide hR1
  have HB1 := hide hb1
  clear hR1 hb1 hk
  go_enter Tryd.func38, Tryd.ntmps38
  go_wp2_with fail
  refine (lanes_any _ _).mono ?_
  rintro en w' ⟨rfl, rfl⟩
  rw [HNL.out]
  go_wp2_with fail
  obtain ⟨w2, hw2⟩ : ∃ x, w1.alloc (.cells #[.int .i64 t, .int .i64 0, .int .i64 0, .bool false, .bool false, .int .i64 0, .bool false, .bool false, .int .i64 0, .bool false, .bool false, .int .i64 0, .bool false, .bool false] 27) = x := ⟨_, rfl⟩
  rw [hw2]
  have hs2 : w2.heap.size = q + 1 + 1 := by rw [← hw2, World.size_alloc, hs1]
  have hV2 : Whole w2 (q + 1) 27 (vc t 0 zL zL zL zL) := by rw [← hw2, ← hs1]; exact Whole.new w1 _ _
  have hb12 : Below w1.heap.size w1 w2 := by rw [← hw2]; exact (Below.refl _ _).alloc (Nat.le_refl _) _
  have HV0 := hide hV2
  have HR0 := hide (HR1.out.below' hb12)
  have HB0 : Hid (Below q w w2) := hide (HB1.out.trans (hb12.mono (by omega)))
  have HS0 : Hid (q + 1 + 1 ≤ w2.heap.size) := hide (by omega)
  clear hw1 hw2 hs1 hs2 hV2 hb12 HR1 HB1
  refine wp_loop_rounds 3 ?_
  rw [rounds_succ]
  have KK := HK0.out w2 (by rw [hq]; exact HB0.out)
  go_wp2_with fail
  refine KK.mono ?_
  rintro en wc0 ⟨rfl, hbc⟩
  have hVc := HV0.out.below' hbc
  have HRc0 := hide (HR0.out.below' hbc)
  have HBc0 : Hid (Below q w wc0) := hide (HB0.out.trans (hbc.mono (by have := HS0.out; omega)))
  have HSc0 : Hid (q + 1 + 1 ≤ wc0.heap.size) := hide (by have := HS0.out; have := hbc.size; omega)
  obtain ⟨c0, c1, c2, c3, c4, c5, c6, c7, c8, c9, c10, c11, c12, c13⟩ := vc_cells hVc
  obtain ⟨f0, f1, f2, f3, f4, f5, f6, f7, f8, f9, f10, f11, f12, f13⟩ := vc_free hVc
  obtain ⟨wn0, hn⟩ : ∃ x, (((wc0.setCell ⟨q + 1, 2, none⟩ (.int .i64 a.n)).setCell ⟨q + 1, 3, none⟩ (.bool a.p)).setCell ⟨q + 1, 4, none⟩ (.bool a.u)) = x := ⟨_, rfl⟩
  have HV1 : Hid (Whole wn0 (q + 1) 27 (vc t 0 a zL zL zL)) := hide (by rw [← hn]; exact hVc.lane 2 a)
  have hF : Frm wc0 wn0 [q + 1] := by rw [← hn]; exact (((Frm.refl _ _).setCell _ _ (.inl (by simp))).setCell _ _ (.inl (by simp))).setCell _ _ (.inl (by simp))
  have HR1 := hide (HRc0.out.frm hF (by simp))
  have HB1 : Hid (Below q w wn0) := hide (HBc0.out.trans (hF.toBelow (fun x hx => by rw [List.mem_singleton.1 hx]; omega) (by have := HSc0.out; omega)))
  have HS1 : Hid (q + 1 + 1 ≤ wn0.heap.size) := hide (by have := HSc0.out; have := hF.size; omega)
  clear hVc hbc hF KK HV0 HR0 HB0 HS0
  go_wp2_with fail
  clear hn c0 c1 c2 c3 c4 c5 c6 c7 c8 c9 c10 c11 c12 c13 f0 f1 f2 f3 f4 f5 f6 f7 f8 f9 f10 f11 f12 f13
  rw [rounds_succ]
  have KK := HK1.out wn0 (by rw [hq]; exact HB1.out)
  go_wp2_with fail
  refine KK.mono ?_
  rintro en wc1 ⟨rfl, hbc⟩
  have hVc := HV1.out.below' hbc
  have HRc1 := hide (HR1.out.below' hbc)
  have HBc1 : Hid (Below q w wc1) := hide (HB1.out.trans (hbc.mono (by have := HS1.out; omega)))
  have HSc1 : Hid (q + 1 + 1 ≤ wc1.heap.size) := hide (by have := HS1.out; have := hbc.size; omega)
  obtain ⟨c0, c1, c2, c3, c4, c5, c6, c7, c8, c9, c10, c11, c12, c13⟩ := vc_cells hVc
  obtain ⟨f0, f1, f2, f3, f4, f5, f6, f7, f8, f9, f10, f11, f12, f13⟩ := vc_free hVc
  obtain ⟨wn1, hn⟩ : ∃ x, (((wc1.setCell ⟨q + 1, 5, none⟩ (.int .i64 b.n)).setCell ⟨q + 1, 6, none⟩ (.bool b.p)).setCell ⟨q + 1, 7, none⟩ (.bool b.u)) = x := ⟨_, rfl⟩
  have HV2 : Hid (Whole wn1 (q + 1) 27 (vc t 0 a b zL zL)) := hide (by rw [← hn]; exact hVc.lane 5 b)
  have hF : Frm wc1 wn1 [q + 1] := by rw [← hn]; exact (((Frm.refl _ _).setCell _ _ (.inl (by simp))).setCell _ _ (.inl (by simp))).setCell _ _ (.inl (by simp))
  have HR2 := hide (HRc1.out.frm hF (by simp))
  have HB2 : Hid (Below q w wn1) := hide (HBc1.out.trans (hF.toBelow (fun x hx => by rw [List.mem_singleton.1 hx]; omega) (by have := HSc1.out; omega)))
  have HS2 : Hid (q + 1 + 1 ≤ wn1.heap.size) := hide (by have := HSc1.out; have := hF.size; omega)
  clear hVc hbc hF KK HV1 HR1 HB1 HS1
  go_wp2_with fail
  clear hn c0 c1 c2 c3 c4 c5 c6 c7 c8 c9 c10 c11 c12 c13 f0 f1 f2 f3 f4 f5 f6 f7 f8 f9 f10 f11 f12 f13
  rw [rounds_succ]
  obtain ⟨c0, c1, c2, c3, c4, c5, c6, c7, c8, c9, c10, c11, c12, c13⟩ := vc_cells HV2.out
  obtain ⟨r0, r1, r2, r3, r4, r5, r6, r7, r8, r9, r10, r11, r12, r13⟩ := vc_cells HR2.out
  obtain ⟨f0, f1, f2, f3, f4, f5, f6, f7, f8, f9, f10, f11, f12, f13⟩ := vc_free HR2.out
  simp only [zL] at c0 c1 c2 c3 c4 c5 c6 c7 c8 c9 c10 c11 c12 c13 r0 r1 r2 r3 r4 r5 r6 r7 r8 r9 r10 r11 r12 r13
  go_wp2_with fail
  refine bodyPost_ret (v := .agg #[.int .i64 t, .int .i64 0, .int .i64 a.n, .bool a.p, .bool a.u, .int .i64 b.n, .bool b.p, .bool b.u, .int .i64 0, .bool false, .bool false, .int .i64 0, .bool false, .bool false]) ?_ rfl ⟨rfl, by rw [hq]; exact ((((((((((((((HB2.out.setCell (p := ⟨q, 0, none⟩) (Nat.le_refl _) (.int .i64 t)).setCell (p := ⟨q, 1, none⟩) (Nat.le_refl _) (.int .i64 0)).setCell (p := ⟨q, 2, none⟩) (Nat.le_refl _) (.int .i64 a.n)).setCell (p := ⟨q, 3, none⟩) (Nat.le_refl _) (.bool a.p)).setCell (p := ⟨q, 4, none⟩) (Nat.le_refl _) (.bool a.u)).setCell (p := ⟨q, 5, none⟩) (Nat.le_refl _) (.int .i64 b.n)).setCell (p := ⟨q, 6, none⟩) (Nat.le_refl _) (.bool b.p)).setCell (p := ⟨q, 7, none⟩) (Nat.le_refl _) (.bool b.u)).setCell (p := ⟨q, 8, none⟩) (Nat.le_refl _) (.int .i64 0)).setCell (p := ⟨q, 9, none⟩) (Nat.le_refl _) (.bool false)).setCell (p := ⟨q, 10, none⟩) (Nat.le_refl _) (.bool false)).setCell (p := ⟨q, 11, none⟩) (Nat.le_refl _) (.int .i64 0)).setCell (p := ⟨q, 12, none⟩) (Nat.le_refl _) (.bool false)).setCell (p := ⟨q, 13, none⟩) (Nat.le_refl _) (.bool false))⟩
  simp [results, Tryd.f38, go_sem, r0, r1, r2, r3, r4, r5, r6, r7, r8, r9, r10, r11, r12, r13]

set_option maxRecDepth 100000 in
set_option maxHeartbeats 8000000 in
theorem each_int_4 (t : Int) (a b c d : LaneD) (pb : Nat) (w : World) (hk : numL t = 4) (K0 : ∀ W, Below w.heap.size w W → Calls Tryd.prog 39 #[.int .i64 0, .pointer (some ⟨pb, 0, none⟩)] W fun e w' => e = .returned (.agg #[.int .i64 a.n, .bool a.p, .bool a.u]) ∧ Below W.heap.size W w') (K1 : ∀ W, Below w.heap.size w W → Calls Tryd.prog 39 #[.int .i64 1, .pointer (some ⟨pb, 0, none⟩)] W fun e w' => e = .returned (.agg #[.int .i64 b.n, .bool b.p, .bool b.u]) ∧ Below W.heap.size W w') (K2 : ∀ W, Below w.heap.size w W → Calls Tryd.prog 39 #[.int .i64 2, .pointer (some ⟨pb, 0, none⟩)] W fun e w' => e = .returned (.agg #[.int .i64 c.n, .bool c.p, .bool c.u]) ∧ Below W.heap.size W w') (K3 : ∀ W, Below w.heap.size w W → Calls Tryd.prog 39 #[.int .i64 3, .pointer (some ⟨pb, 0, none⟩)] W fun e w' => e = .returned (.agg #[.int .i64 d.n, .bool d.p, .bool d.u]) ∧ Below W.heap.size W w') :
    Calls Tryd.prog 38 #[.int .i64 t, .func (.func 39) #[] #[.pointer (some ⟨pb, 0, none⟩)]] w fun e w' => e = .returned (.agg #[.int .i64 t, .int .i64 0, .int .i64 a.n, .bool a.p, .bool a.u, .int .i64 b.n, .bool b.p, .bool b.u, .int .i64 c.n, .bool c.p, .bool c.u, .int .i64 d.n, .bool d.p, .bool d.u]) ∧ Below w.heap.size w w' := by
  have HK0 := hide K0
  have HK1 := hide K1
  have HK2 := hide K2
  have HK3 := hide K3
  clear K0 K1 K2 K3
  have HNL := hide hk
  obtain ⟨q, hq⟩ : ∃ q, w.heap.size = q := ⟨_, rfl⟩
  obtain ⟨w1, hw1⟩ : ∃ x, w.alloc (.cells #[.int .i64 0, .int .i64 0, .int .i64 0, .bool false, .bool false, .int .i64 0, .bool false, .bool false, .int .i64 0, .bool false, .bool false, .int .i64 0, .bool false, .bool false] 27) = x := ⟨_, rfl⟩
  have hs1 : w1.heap.size = q + 1 := by rw [← hw1, World.size_alloc, hq]
  have hR1 : Whole w1 q 27 (vc 0 0 zL zL zL zL) := by rw [← hw1, ← hq]; exact Whole.new w _ _
  have hb1 : Below q w w1 := by rw [← hw1, ← hq]; exact (Below.refl _ _).alloc (Nat.le_refl _) _
  have HR1 := hide hR1
  have HB1 := hide hb1
  clear hR1 hb1 hk
  go_enter Tryd.func38, Tryd.ntmps38
  go_wp2_with fail
  refine (lanes_any _ _).mono ?_
  rintro en w' ⟨rfl, rfl⟩
  rw [HNL.out]
  go_wp2_with fail
  obtain ⟨w2, hw2⟩ : ∃ x, w1.alloc (.cells #[.int .i64 t, .int .i64 0, .int .i64 0, .bool false, .bool false, .int .i64 0, .bool false, .bool false, .int .i64 0, .bool false, .bool false, .int .i64 0, .bool false, .bool false] 27) = x := ⟨_, rfl⟩
  rw [hw2]
  have hs2 : w2.heap.size = q + 1 + 1 := by rw [← hw2, World.size_alloc, hs1]
  have hV2 : Whole w2 (q + 1) 27 (vc t 0 zL zL zL zL) := by rw [← hw2, ← hs1]; exact Whole.new w1 _ _
  have hb12 : Below w1.heap.size w1 w2 := by rw [← hw2]; exact (Below.refl _ _).alloc (Nat.le_refl _) _
  have HV0 := hide hV2
  have HR0 := hide (HR1.out.below' hb12)
  have HB0 : Hid (Below q w w2) := hide (HB1.out.trans (hb12.mono (by omega)))
  have HS0 : Hid (q + 1 + 1 ≤ w2.heap.size) := hide (by omega)
  clear hw1 hw2 hs1 hs2 hV2 hb12 HR1 HB1
  refine wp_loop_rounds 5 ?_
  rw [rounds_succ]
  have KK := HK0.out w2 (by rw [hq]; exact HB0.out)
  go_wp2_with fail
  refine KK.mono ?_
  rintro en wc0 ⟨rfl, hbc⟩
  have hVc := HV0.out.below' hbc
  have HRc0 := hide (HR0.out.below' hbc)
  have HBc0 : Hid (Below q w wc0) := hide (HB0.out.trans (hbc.mono (by have := HS0.out; omega)))
  have HSc0 : Hid (q + 1 + 1 ≤ wc0.heap.size) := hide (by have := HS0.out; have := hbc.size; omega)
  obtain ⟨c0, c1, c2, c3, c4, c5, c6, c7, c8, c9, c10, c11, c12, c13⟩ := vc_cells hVc
  obtain ⟨f0, f1, f2, f3, f4, f5, f6, f7, f8, f9, f10, f11, f12, f13⟩ := vc_free hVc
  obtain ⟨wn0, hn⟩ : ∃ x, (((wc0.setCell ⟨q + 1, 2, none⟩ (.int .i64 a.n)).setCell ⟨q + 1, 3, none⟩ (.bool a.p)).setCell ⟨q + 1, 4, none⟩ (.bool a.u)) = x := ⟨_, rfl⟩
  have HV1 : Hid (Whole wn0 (q + 1) 27 (vc t 0 a zL zL zL)) := hide (by rw [← hn]; exact hVc.lane 2 a)
  have hF : Frm wc0 wn0 [q + 1] := by rw [← hn]; exact (((Frm.refl _ _).setCell _ _ (.inl (by simp))).setCell _ _ (.inl (by simp))).setCell _ _ (.inl (by simp))
  have HR1 := hide (HRc0.out.frm hF (by simp))
  have HB1 : Hid (Below q w wn0) := hide (HBc0.out.trans (hF.toBelow (fun x hx => by rw [List.mem_singleton.1 hx]; omega) (by have := HSc0.out; omega)))
  have HS1 : Hid (q + 1 + 1 ≤ wn0.heap.size) := hide (by have := HSc0.out; have := hF.size; omega)
  clear hVc hbc hF KK HV0 HR0 HB0 HS0
  go_wp2_with fail
  clear hn c0 c1 c2 c3 c4 c5 c6 c7 c8 c9 c10 c11 c12 c13 f0 f1 f2 f3 f4 f5 f6 f7 f8 f9 f10 f11 f12 f13
  rw [rounds_succ]
  have KK := HK1.out wn0 (by rw [hq]; exact HB1.out)
  go_wp2_with fail
  refine KK.mono ?_
  rintro en wc1 ⟨rfl, hbc⟩
  have hVc := HV1.out.below' hbc
  have HRc1 := hide (HR1.out.below' hbc)
  have HBc1 : Hid (Below q w wc1) := hide (HB1.out.trans (hbc.mono (by have := HS1.out; omega)))
  have HSc1 : Hid (q + 1 + 1 ≤ wc1.heap.size) := hide (by have := HS1.out; have := hbc.size; omega)
  obtain ⟨c0, c1, c2, c3, c4, c5, c6, c7, c8, c9, c10, c11, c12, c13⟩ := vc_cells hVc
  obtain ⟨f0, f1, f2, f3, f4, f5, f6, f7, f8, f9, f10, f11, f12, f13⟩ := vc_free hVc
  obtain ⟨wn1, hn⟩ : ∃ x, (((wc1.setCell ⟨q + 1, 5, none⟩ (.int .i64 b.n)).setCell ⟨q + 1, 6, none⟩ (.bool b.p)).setCell ⟨q + 1, 7, none⟩ (.bool b.u)) = x := ⟨_, rfl⟩
  have HV2 : Hid (Whole wn1 (q + 1) 27 (vc t 0 a b zL zL)) := hide (by rw [← hn]; exact hVc.lane 5 b)
  have hF : Frm wc1 wn1 [q + 1] := by rw [← hn]; exact (((Frm.refl _ _).setCell _ _ (.inl (by simp))).setCell _ _ (.inl (by simp))).setCell _ _ (.inl (by simp))
  have HR2 := hide (HRc1.out.frm hF (by simp))
  have HB2 : Hid (Below q w wn1) := hide (HBc1.out.trans (hF.toBelow (fun x hx => by rw [List.mem_singleton.1 hx]; omega) (by have := HSc1.out; omega)))
  have HS2 : Hid (q + 1 + 1 ≤ wn1.heap.size) := hide (by have := HSc1.out; have := hF.size; omega)
  clear hVc hbc hF KK HV1 HR1 HB1 HS1
  go_wp2_with fail
  clear hn c0 c1 c2 c3 c4 c5 c6 c7 c8 c9 c10 c11 c12 c13 f0 f1 f2 f3 f4 f5 f6 f7 f8 f9 f10 f11 f12 f13
  rw [rounds_succ]
  have KK := HK2.out wn1 (by rw [hq]; exact HB2.out)
  go_wp2_with fail
  refine KK.mono ?_
  rintro en wc2 ⟨rfl, hbc⟩
  have hVc := HV2.out.below' hbc
  have HRc2 := hide (HR2.out.below' hbc)
  have HBc2 : Hid (Below q w wc2) := hide (HB2.out.trans (hbc.mono (by have := HS2.out; omega)))
  have HSc2 : Hid (q + 1 + 1 ≤ wc2.heap.size) := hide (by have := HS2.out; have := hbc.size; omega)
  obtain ⟨c0, c1, c2, c3, c4, c5, c6, c7, c8, c9, c10, c11, c12, c13⟩ := vc_cells hVc
  obtain ⟨f0, f1, f2, f3, f4, f5, f6, f7, f8, f9, f10, f11, f12, f13⟩ := vc_free hVc
  obtain ⟨wn2, hn⟩ : ∃ x, (((wc2.setCell ⟨q + 1, 8, none⟩ (.int .i64 c.n)).setCell ⟨q + 1, 9, none⟩ (.bool c.p)).setCell ⟨q + 1, 10, none⟩ (.bool c.u)) = x := ⟨_, rfl⟩
  have HV3 : Hid (Whole wn2 (q + 1) 27 (vc t 0 a b c zL)) := hide (by rw [← hn]; exact hVc.lane 8 c)
  have hF : Frm wc2 wn2 [q + 1] := by rw [← hn]; exact (((Frm.refl _ _).setCell _ _ (.inl (by simp))).setCell _ _ (.inl (by simp))).setCell _ _ (.inl (by simp))
  have HR3 := hide (HRc2.out.frm hF (by simp))
  have HB3 : Hid (Below q w wn2) := hide (HBc2.out.trans (hF.toBelow (fun x hx => by rw [List.mem_singleton.1 hx]; omega) (by have := HSc2.out; omega)))
  have HS3 : Hid (q + 1 + 1 ≤ wn2.heap.size) := hide (by have := HSc2.out; have := hF.size; omega)
  clear hVc hbc hF KK HV2 HR2 HB2 HS2
  go_wp2_with fail
  clear hn c0 c1 c2 c3 c4 c5 c6 c7 c8 c9 c10 c11 c12 c13 f0 f1 f2 f3 f4 f5 f6 f7 f8 f9 f10 f11 f12 f13
  rw [rounds_succ]
  have KK := HK3.out wn2 (by rw [hq]; exact HB3.out)
  go_wp2_with fail
  refine KK.mono ?_
  rintro en wc3 ⟨rfl, hbc⟩
  have hVc := HV3.out.below' hbc
  have HRc3 := hide (HR3.out.below' hbc)
  have HBc3 : Hid (Below q w wc3) := hide (HB3.out.trans (hbc.mono (by have := HS3.out; omega)))
  have HSc3 : Hid (q + 1 + 1 ≤ wc3.heap.size) := hide (by have := HS3.out; have := hbc.size; omega)
  obtain ⟨c0, c1, c2, c3, c4, c5, c6, c7, c8, c9, c10, c11, c12, c13⟩ := vc_cells hVc
  obtain ⟨f0, f1, f2, f3, f4, f5, f6, f7, f8, f9, f10, f11, f12, f13⟩ := vc_free hVc
  obtain ⟨wn3, hn⟩ : ∃ x, (((wc3.setCell ⟨q + 1, 11, none⟩ (.int .i64 d.n)).setCell ⟨q + 1, 12, none⟩ (.bool d.p)).setCell ⟨q + 1, 13, none⟩ (.bool d.u)) = x := ⟨_, rfl⟩
  have HV4 : Hid (Whole wn3 (q + 1) 27 (vc t 0 a b c d)) := hide (by rw [← hn]; exact hVc.lane 11 d)
  have hF : Frm wc3 wn3 [q + 1] := by rw [← hn]; exact (((Frm.refl _ _).setCell _ _ (.inl (by simp))).setCell _ _ (.inl (by simp))).setCell _ _ (.inl (by simp))
  have HR4 := hide (HRc3.out.frm hF (by simp))
  have HB4 : Hid (Below q w wn3) := hide (HBc3.out.trans (hF.toBelow (fun x hx => by rw [List.mem_singleton.1 hx]; omega) (by have := HSc3.out; omega)))
  have HS4 : Hid (q + 1 + 1 ≤ wn3.heap.size) := hide (by have := HSc3.out; have := hF.size; omega)
  clear hVc hbc hF KK HV3 HR3 HB3 HS3
  go_wp2_with fail
  clear hn c0 c1 c2 c3 c4 c5 c6 c7 c8 c9 c10 c11 c12 c13 f0 f1 f2 f3 f4 f5 f6 f7 f8 f9 f10 f11 f12 f13
  rw [rounds_succ]
  obtain ⟨c0, c1, c2, c3, c4, c5, c6, c7, c8, c9, c10, c11, c12, c13⟩ := vc_cells HV4.out
  obtain ⟨r0, r1, r2, r3, r4, r5, r6, r7, r8, r9, r10, r11, r12, r13⟩ := vc_cells HR4.out
  obtain ⟨f0, f1, f2, f3, f4, f5, f6, f7, f8, f9, f10, f11, f12, f13⟩ := vc_free HR4.out
  simp only [zL] at c0 c1 c2 c3 c4 c5 c6 c7 c8 c9 c10 c11 c12 c13 r0 r1 r2 r3 r4 r5 r6 r7 r8 r9 r10 r11 r12 r13
  go_wp2_with fail
  refine bodyPost_ret (v := .agg #[.int .i64 t, .int .i64 0, .int .i64 a.n, .bool a.p, .bool a.u, .int .i64 b.n, .bool b.p, .bool b.u, .int .i64 c.n, .bool c.p, .bool c.u, .int .i64 d.n, .bool d.p, .bool d.u]) ?_ rfl ⟨rfl, by rw [hq]; exact ((((((((((((((HB4.out.setCell (p := ⟨q, 0, none⟩) (Nat.le_refl _) (.int .i64 t)).setCell (p := ⟨q, 1, none⟩) (Nat.le_refl _) (.int .i64 0)).setCell (p := ⟨q, 2, none⟩) (Nat.le_refl _) (.int .i64 a.n)).setCell (p := ⟨q, 3, none⟩) (Nat.le_refl _) (.bool a.p)).setCell (p := ⟨q, 4, none⟩) (Nat.le_refl _) (.bool a.u)).setCell (p := ⟨q, 5, none⟩) (Nat.le_refl _) (.int .i64 b.n)).setCell (p := ⟨q, 6, none⟩) (Nat.le_refl _) (.bool b.p)).setCell (p := ⟨q, 7, none⟩) (Nat.le_refl _) (.bool b.u)).setCell (p := ⟨q, 8, none⟩) (Nat.le_refl _) (.int .i64 c.n)).setCell (p := ⟨q, 9, none⟩) (Nat.le_refl _) (.bool c.p)).setCell (p := ⟨q, 10, none⟩) (Nat.le_refl _) (.bool c.u)).setCell (p := ⟨q, 11, none⟩) (Nat.le_refl _) (.int .i64 d.n)).setCell (p := ⟨q, 12, none⟩) (Nat.le_refl _) (.bool d.p)).setCell (p := ⟨q, 13, none⟩) (Nat.le_refl _) (.bool d.u))⟩
  simp [results, Tryd.f38, go_sem, r0, r1, r2, r3, r4, r5, r6, r7, r8, r9, r10, r11, r12, r13]
end Go.Proofs.YtojeaghljebbbaaDoor

/-
  Layer 11 (value): eachLane by the closure of result, one lane.
-/
import Derived.Test.YtjeinmccahbpgaaDoorEach
namespace Go.Proofs.YtjeinmccahbpgaaDoor
open Go.RowKit

set_option maxRecDepth 100000 in
set_option maxHeartbeats 8000000 in
theorem each_res_1 (t : Int) (a : LaneD) (pi pa : Nat) (w : World) (hk : numL t = 1) (K0 : ∀ W, Below w.heap.size w W → Calls Tryd.prog 94 #[.int .i64 0, .pointer (some ⟨pi, 0, none⟩), .pointer (some ⟨pa, 0, none⟩)] W fun e w' => e = .returned (.agg #[.int .i64 a.n, .bool a.p, .bool a.u]) ∧ Below W.heap.size W w') :
    Calls Tryd.prog 53 #[.int .i64 t, .func (.func 94) #[] #[.pointer (some ⟨pi, 0, none⟩), .pointer (some ⟨pa, 0, none⟩)]] w fun e w' => e = .returned (.agg #[.int .i64 t, .int .i64 0, .int .i64 a.n, .bool a.p, .bool a.u, .int .i64 0, .bool false, .bool false, .int .i64 0, .bool false, .bool false, .int .i64 0, .bool false, .bool false]) ∧ Below w.heap.size w w' := by
  have HK0 := hide K0
  clear K0
  have HNL := hide hk
  obtain ⟨q, hq⟩ : ∃ q, w.heap.size = q := ⟨_, rfl⟩
  obtain ⟨w1, hw1⟩ : ∃ x, w.alloc (.cells #[.int .i64 0, .int .i64 0, .int .i64 0, .bool false, .bool false, .int .i64 0, .bool false, .bool false, .int .i64 0, .bool false, .bool false, .int .i64 0, .bool false, .bool false] 27) = x := ⟨_, rfl⟩
  have hs1 : w1.heap.size = q + 1 := by rw [← hw1, World.size_alloc, hq]
  have hR1 : Whole w1 q 27 (vc 0 0 zL zL zL zL) := by rw [← hw1, ← hq]; exact Whole.new w _ _
  have hb1 : Below q w w1 := by rw [← hw1, ← hq]; exact (Below.refl _ _).alloc (Nat.le_refl _) _
  have HR1 := hide hR1
  have HB1 := hide hb1
  clear hR1 hb1 hk
  go_enter Tryd.func53, Tryd.ntmps53
  go_wp2_with fail
  refine (lanes_any _ _).mono ?_
  rintro en w' ⟨rfl, rfl⟩
  rw [HNL.out]
  go_wp2_with fail
  obtain ⟨w2, hw2⟩ : ∃ x, w1.alloc (.cells #[.int .i64 t, .int .i64 0, .int .i64 0, .bool false, .bool false, .int .i64 0, .bool false, .bool false, .int .i64 0, .bool false, .bool false, .int .i64 0, .bool false, .bool false] 27) = x := ⟨_, rfl⟩
  rw [hw2]
  have hs2 : w2.heap.size = q + 1 + 1 := by rw [← hw2, World.size_alloc, hs1]
  have hV2 : Whole w2 (q + 1) 27 (vc t 0 zL zL zL zL) := by rw [← hw2, ← hs1]; exact Whole.new w1 _ _
  have hb12 : Below w1.heap.size w1 w2 := by rw [← hw2]; exact (Below.refl _ _).alloc (Nat.le_refl _) _
  have HV0 := hide hV2
  have HR0 := hide (HR1.out.below' hb12)
  have HB0 : Hid (Below q w w2) := hide (HB1.out.trans (hb12.mono (by omega)))
  have HS0 : Hid (q + 1 + 1 ≤ w2.heap.size) := hide (by omega)
  clear hw1 hw2 hs1 hs2 hV2 hb12 HR1 HB1
  refine wp_loop_rounds 2 ?_
  rw [rounds_succ]
  have KK := HK0.out w2 (by rw [hq]; exact HB0.out)
  go_wp2_with fail
  refine KK.mono ?_
  rintro en wc0 ⟨rfl, hbc⟩
  have hVc := HV0.out.below' hbc
  have HRc0 := hide (HR0.out.below' hbc)
  have HBc0 : Hid (Below q w wc0) := hide (HB0.out.trans (hbc.mono (by have := HS0.out; omega)))
  have HSc0 : Hid (q + 1 + 1 ≤ wc0.heap.size) := hide (by have := HS0.out; have := hbc.size; omega)
  obtain ⟨c0, c1, c2, c3, c4, c5, c6, c7, c8, c9, c10, c11, c12, c13⟩ := vc_cells hVc
  obtain ⟨f0, f1, f2, f3, f4, f5, f6, f7, f8, f9, f10, f11, f12, f13⟩ := vc_free hVc
  obtain ⟨wn0, hn⟩ : ∃ x, (((wc0.setCell ⟨q + 1, 2, none⟩ (.int .i64 a.n)).setCell ⟨q + 1, 3, none⟩ (.bool a.p)).setCell ⟨q + 1, 4, none⟩ (.bool a.u)) = x := ⟨_, rfl⟩
  have HV1 : Hid (Whole wn0 (q + 1) 27 (vc t 0 a zL zL zL)) := hide (by rw [← hn]; exact hVc.lane 2 a)
  have hF : Frm wc0 wn0 [q + 1] := by rw [← hn]; exact (((Frm.refl _ _).setCell _ _ (.inl (by simp))).setCell _ _ (.inl (by simp))).setCell _ _ (.inl (by simp))
  have HR1 := hide (HRc0.out.frm hF (by simp))
  have HB1 : Hid (Below q w wn0) := hide (HBc0.out.trans (hF.toBelow (fun x hx => by rw [List.mem_singleton.1 hx]; omega) (by have := HSc0.out; omega)))
  have HS1 : Hid (q + 1 + 1 ≤ wn0.heap.size) := hide (by have := HSc0.out; have := hF.size; omega)
  clear hVc hbc hF KK HV0 HR0 HB0 HS0
  go_wp2_with fail
  clear hn c0 c1 c2 c3 c4 c5 c6 c7 c8 c9 c10 c11 c12 c13 f0 f1 f2 f3 f4 f5 f6 f7 f8 f9 f10 f11 f12 f13
  rw [rounds_succ]
  obtain ⟨c0, c1, c2, c3, c4, c5, c6, c7, c8, c9, c10, c11, c12, c13⟩ := vc_cells HV1.out
  obtain ⟨r0, r1, r2, r3, r4, r5, r6, r7, r8, r9, r10, r11, r12, r13⟩ := vc_cells HR1.out
  obtain ⟨f0, f1, f2, f3, f4, f5, f6, f7, f8, f9, f10, f11, f12, f13⟩ := vc_free HR1.out
  simp only [zL] at c0 c1 c2 c3 c4 c5 c6 c7 c8 c9 c10 c11 c12 c13 r0 r1 r2 r3 r4 r5 r6 r7 r8 r9 r10 r11 r12 r13
  go_wp2_with fail
  refine bodyPost_ret (v := .agg #[.int .i64 t, .int .i64 0, .int .i64 a.n, .bool a.p, .bool a.u, .int .i64 0, .bool false, .bool false, .int .i64 0, .bool false, .bool false, .int .i64 0, .bool false, .bool false]) ?_ rfl ⟨rfl, by rw [hq]; exact ((((((((((((((HB1.out.setCell (p := ⟨q, 0, none⟩) (Nat.le_refl _) (.int .i64 t)).setCell (p := ⟨q, 1, none⟩) (Nat.le_refl _) (.int .i64 0)).setCell (p := ⟨q, 2, none⟩) (Nat.le_refl _) (.int .i64 a.n)).setCell (p := ⟨q, 3, none⟩) (Nat.le_refl _) (.bool a.p)).setCell (p := ⟨q, 4, none⟩) (Nat.le_refl _) (.bool a.u)).setCell (p := ⟨q, 5, none⟩) (Nat.le_refl _) (.int .i64 0)).setCell (p := ⟨q, 6, none⟩) (Nat.le_refl _) (.bool false)).setCell (p := ⟨q, 7, none⟩) (Nat.le_refl _) (.bool false)).setCell (p := ⟨q, 8, none⟩) (Nat.le_refl _) (.int .i64 0)).setCell (p := ⟨q, 9, none⟩) (Nat.le_refl _) (.bool false)).setCell (p := ⟨q, 10, none⟩) (Nat.le_refl _) (.bool false)).setCell (p := ⟨q, 11, none⟩) (Nat.le_refl _) (.int .i64 0)).setCell (p := ⟨q, 12, none⟩) (Nat.le_refl _) (.bool false)).setCell (p := ⟨q, 13, none⟩) (Nat.le_refl _) (.bool false))⟩
  simp [results, Tryd.f53, go_sem, r0, r1, r2, r3, r4, r5, r6, r7, r8, r9, r10, r11, r12, r13]
end Go.Proofs.YtjeinmccahbpgaaDoor

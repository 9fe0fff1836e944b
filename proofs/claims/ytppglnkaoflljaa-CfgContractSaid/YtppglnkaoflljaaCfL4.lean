/-
  Layer 20 (cfg): the law CfgContract where there is no such edge.
-/
import Derived.Test.YtppglnkaoflljaaCfZ
import Derived.Test.YtppglnkaoflljaaCfLg
import Derived.Test.YtppglnkaoflljaaCfL3
import Derived.Test.YtppglnkaoflljaaCfL1
namespace Go.Proofs.Ytppglnkaoflljaa
open Go.RowKit Go.Deep

set_option maxRecDepth 100000 in
set_option maxHeartbeats 4000000 in
theorem contract_large (d : FnD) (i j : Int) (w : World) (hd : d.ok w) (hg : largeB d = true) : Calls Try.prog 6 #[.agg d.cells.toArray, .int .i64 i, .int .i64 j] w fun e w' => LawDone w e w' := by
  have HX := hide hd
  obtain ⟨q, hq⟩ : ∃ q, w.heap.size = q := ⟨_, rfl⟩
  obtain ⟨w1, hw1⟩ : ∃ z, (w.alloc (.cells d.cells.toArray 27)) = z := ⟨_, rfl⟩
  have HB : Hid (Below w.heap.size w w1) := hide (by rw [← hw1]; exact (Below.refl _ _).alloc (Nat.le_refl _) _)
  have HA : Hid (Whole w1 q 27 d.cells.toArray) := hide (by rw [← hw1, ← hq]; exact Whole.new w _ _)
  have hi : (Try.prog.info? 27).map (·.size) = some 5 := by kernel_rfl
  have HI := hide hi
  have HU := hide Try.underlying27
  have HG := hide hg
  clear hd hi hg
  go_enter Try.func6, Try.ntmps6
  go_upto_region 1 with fail
  clear hw1 hq
  refine wp_region_lit ?_
  refine wpList_load_mid (by rfl) _ _ rfl q 0 (by rfl) d.cells _ HA.out.range HU.out rfl HI.out ?_
  go_step; go_step
  refine (large_any d _ (HX.out.below HB.out)).mono ?_
  rintro en w2 ⟨rfl, hb⟩
  rw [HG.out]
  replace HA := hide (HA.out.below' hb)
  replace HB := hide (Below.all HB.out hb)
  clear hb
  go_wp2_with (go_at_call 10; refine (works_any _).mono ?_; rintro en w3 ⟨rfl, hb⟩; replace HB := hide (Below.all HB.out hb); clear hb)
  go_ret
  exact ⟨rfl, HB.out⟩
set_option maxRecDepth 100000 in
set_option maxHeartbeats 4000000 in
theorem contract_no (d : FnD) (i j : Int) (w : World) (hd : d.ok w) (hg : largeB d = false)
    (h1 : ∀ W, Below w.heap.size w W → Calls Try.prog 25 #[.agg d.cells.toArray, .int .i64 i, .int .i64 j] W fun en w' => en = .returned (.tuple #[.agg zFn.toArray, .bool false]) ∧ Below W.heap.size W w')
    (h2 : ∀ W, Below w.heap.size w W → Calls Try.prog 26 #[.agg d.cells.toArray, .int .i64 i, .int .i64 j] W fun en w' => en = .returned (.tuple #[.agg zFn.toArray, .bool false]) ∧ Below W.heap.size W w') :
    Calls Try.prog 6 #[.agg d.cells.toArray, .int .i64 i, .int .i64 j] w fun e w' => LawDone w e w' := by
  have HX := hide hd
  have H1 := hide h1
  have H2 := hide h2
  obtain ⟨q, hq⟩ : ∃ q, w.heap.size = q := ⟨_, rfl⟩
  obtain ⟨w1, hw1⟩ : ∃ z, (w.alloc (.cells d.cells.toArray 27)) = z := ⟨_, rfl⟩
  have HB : Hid (Below w.heap.size w w1) := hide (by rw [← hw1]; exact (Below.refl _ _).alloc (Nat.le_refl _) _)
  have HA : Hid (Whole w1 q 27 d.cells.toArray) := hide (by rw [← hw1, ← hq]; exact Whole.new w _ _)
  have hi : (Try.prog.info? 27).map (·.size) = some 5 := by kernel_rfl
  have HI := hide hi
  have HU := hide Try.underlying27
  have HG := hide hg
  clear hd hi hg h1 h2
  go_enter Try.func6, Try.ntmps6
  go_upto_region 1 with fail
  clear hw1 hq
  refine wp_region_lit ?_
  refine wpList_load_mid (by rfl) _ _ rfl q 0 (by rfl) d.cells _ HA.out.range HU.out rfl HI.out ?_
  go_step; go_step
  refine (large_any d _ (HX.out.below HB.out)).mono ?_
  rintro en w2 ⟨rfl, hb⟩
  rw [HG.out]
  replace HA := hide (HA.out.below' hb)
  replace HB := hide (Below.all HB.out hb)
  clear hb
  go_upto_region 3 with fail
  refine wp_region_lit ?_
  refine wpList_load_mid (by rfl) _ _ rfl q 0 (by rfl) d.cells _ HA.out.range HU.out rfl HI.out ?_
  repeat go_step
  refine (H1.out _ HB.out).mono ?_
  rintro en w3 ⟨rfl, hb⟩
  replace HA := hide (HA.out.below' hb)
  replace HB := hide (Below.all HB.out hb)
  clear hb
  simp only []
  go_step
  go_step; go_step; go_step
  go_step; go_step; go_step
  go_step; go_step; go_step
  go_step; go_step; go_step
  refine wpList_store_new (by rfl) _ _ _ rfl _ _ zFn (by rfl) (by rfl) (by rfl) HI.out (FnD.all1' (x := zD)) ?_
  obtain ⟨w4, hw4⟩ : ∃ z, w3.alloc (.cells zFn.toArray 27) = z := ⟨_, rfl⟩
  have hb : Below w3.heap.size w3 w4 := by rw [← hw4]; exact (Below.refl _ _).alloc (Nat.le_refl _) _
  replace HA := hide (HA.out.below' hb)
  replace HB := hide (Below.all HB.out hb)
  rw [hw4]
  clear hw4 hb
  go_upto_region 5 with fail
  refine wp_region_lit ?_
  refine wpList_load_mid (by rfl) _ _ rfl q 0 (by rfl) d.cells _ HA.out.range HU.out rfl HI.out ?_
  repeat go_step
  refine (H2.out _ HB.out).mono ?_
  rintro en w5 ⟨rfl, hb⟩
  replace HB := hide (Below.all HB.out hb)
  clear hb
  simp only []
  go_step
  go_step; go_step; go_step
  go_step; go_step; go_step
  go_step; go_step; go_step
  go_step; go_step; go_step
  refine wpList_store_new (by rfl) _ _ _ rfl _ _ zFn (by rfl) (by rfl) (by rfl) HI.out (FnD.all1' (x := zD)) ?_
  obtain ⟨w6, hw6⟩ : ∃ z, w5.alloc (.cells zFn.toArray 27) = z := ⟨_, rfl⟩
  have hb : Below w5.heap.size w5 w6 := by rw [← hw6]; exact (Below.refl _ _).alloc (Nat.le_refl _) _
  replace HB := hide (Below.all HB.out hb)
  rw [hw6]
  clear hw6 hb
  go_wp2_with (go_at_call 10; refine (works_any _).mono ?_; rintro en w7 ⟨rfl, hb⟩; replace HB := hide (Below.all HB.out hb); clear hb)
  go_ret
  exact ⟨rfl, HB.out⟩
end Go.Proofs.Ytppglnkaoflljaa

/-
  Layer 11 (value): the format of the chapter's two pointers.
-/
import Derived.Test.YtjeinmccahbpgaaDoorMake
import Derived.Test.YtjeinmccahbpgaaDoorVH
import Derived.Test.YtjeinmccahbpgaaDoorVP
namespace Go.Proofs.YtjeinmccahbpgaaDoor
open Go.RowKit

set_option maxRecDepth 100000 in
theorem small_1 (w : World) : Calls Tryd.prog 124 #[.int .i64 1] w fun e w' => e = .returned (.string ⟨#[49]⟩) ∧ w' = w := by
  go_enter Tryd.func124, Tryd.ntmps124
  go_wp2
  go_ret
  exact ⟨by rfl, rfl⟩
set_option maxRecDepth 100000 in
theorem ifmt_1 (w : World) : Calls Tryd.prog 113 #[.int .i64 1, .int .i64 10] w fun e w' => e = .returned (.string ⟨#[49]⟩) ∧ w' = w := by
  go_enter Tryd.func113, Tryd.ntmps113
  go_wp2_with (go_at_call 124; refine (small_1 _).mono ?_; rintro en w' ⟨rfl, rfl⟩)
  go_ret
  exact ⟨by rfl, rfl⟩
set_option maxRecDepth 100000 in
theorem sfmt_1 (w : World) : Calls Tryd.prog 100 #[.int .i64 1, .int .i64 10] w fun e w' => e = .returned (.string ⟨#[49]⟩) ∧ w' = w := by
  go_enter Tryd.func100, Tryd.ntmps100
  go_wp2_with (go_at_call 113; refine (ifmt_1 _).mono ?_; rintro en w' ⟨rfl, rfl⟩)
  go_ret
  exact ⟨by rfl, rfl⟩
set_option maxRecDepth 100000 in
theorem iitoa_1 (w : World) : Calls Tryd.prog 99 #[.int .i64 1] w fun e w' => e = .returned (.string ⟨#[49]⟩) ∧ w' = w := by
  go_enter Tryd.func99, Tryd.ntmps99
  go_wp2_with (go_at_call 113; refine (ifmt_1 _).mono ?_; rintro en w' ⟨rfl, rfl⟩)
  go_ret
  exact ⟨by rfl, rfl⟩
set_option maxRecDepth 100000 in
theorem itoa_1 (w : World) : Calls Tryd.prog 67 #[.int .i64 1] w fun e w' => e = .returned (.string ⟨#[49]⟩) ∧ w' = w := by
  go_enter Tryd.func67, Tryd.ntmps67
  go_wp2_with (go_at_call 99; refine (iitoa_1 _).mono ?_; rintro en w' ⟨rfl, rfl⟩)
  go_ret
  exact ⟨by rfl, rfl⟩

set_option maxRecDepth 100000 in
theorem small_5 (w : World) : Calls Tryd.prog 124 #[.int .i64 5] w fun e w' => e = .returned (.string ⟨#[53]⟩) ∧ w' = w := by
  go_enter Tryd.func124, Tryd.ntmps124
  go_wp2
  go_ret
  exact ⟨by rfl, rfl⟩
set_option maxRecDepth 100000 in
theorem ifmt_5 (w : World) : Calls Tryd.prog 113 #[.int .i64 5, .int .i64 10] w fun e w' => e = .returned (.string ⟨#[53]⟩) ∧ w' = w := by
  go_enter Tryd.func113, Tryd.ntmps113
  go_wp2_with (go_at_call 124; refine (small_5 _).mono ?_; rintro en w' ⟨rfl, rfl⟩)
  go_ret
  exact ⟨by rfl, rfl⟩
set_option maxRecDepth 100000 in
theorem sfmt_5 (w : World) : Calls Tryd.prog 100 #[.int .i64 5, .int .i64 10] w fun e w' => e = .returned (.string ⟨#[53]⟩) ∧ w' = w := by
  go_enter Tryd.func100, Tryd.ntmps100
  go_wp2_with (go_at_call 113; refine (ifmt_5 _).mono ?_; rintro en w' ⟨rfl, rfl⟩)
  go_ret
  exact ⟨by rfl, rfl⟩
set_option maxRecDepth 100000 in
theorem iitoa_5 (w : World) : Calls Tryd.prog 99 #[.int .i64 5] w fun e w' => e = .returned (.string ⟨#[53]⟩) ∧ w' = w := by
  go_enter Tryd.func99, Tryd.ntmps99
  go_wp2_with (go_at_call 113; refine (ifmt_5 _).mono ?_; rintro en w' ⟨rfl, rfl⟩)
  go_ret
  exact ⟨by rfl, rfl⟩
set_option maxRecDepth 100000 in
theorem itoa_5 (w : World) : Calls Tryd.prog 67 #[.int .i64 5] w fun e w' => e = .returned (.string ⟨#[53]⟩) ∧ w' = w := by
  go_enter Tryd.func67, Tryd.ntmps67
  go_wp2_with (go_at_call 99; refine (iitoa_5 _).mono ?_; rintro en w' ⟨rfl, rfl⟩)
  go_ret
  exact ⟨by rfl, rfl⟩

set_option maxRecDepth 100000 in
theorem lane_num (w : World) : Calls Tryd.prog 68 #[.agg #[.int .i64 5, .bool false, .bool false]] w fun e w' => e = .returned (.string ⟨#[53]⟩) ∧ Below w.heap.size w w' := by
  go_enter Tryd.func68, Tryd.ntmps68
  go_wp2_with (go_at_call 100; refine (sfmt_5 _).mono ?_; rintro en w' ⟨rfl, rfl⟩)
  go_ret
  exact ⟨by rfl, (Below.refl _ _).alloc (Nat.le_refl _) _⟩

set_option maxRecDepth 100000 in
theorem lane_poi (w : World) : Calls Tryd.prog 68 #[.agg #[.int .i64 0, .bool true, .bool false]] w fun e w' => e = .returned (.string ⟨#[112, 111, 105, 115, 111, 110]⟩) ∧ Below w.heap.size w w' := by
  go_enter Tryd.func68, Tryd.ntmps68
  go_wp2
  go_ret
  exact ⟨by rfl, (Below.refl _ _).alloc (Nat.le_refl _) _⟩
end Go.Proofs.YtjeinmccahbpgaaDoor
namespace Go.Proofs.YtjeinmccahbpgaaDoor
open Go.RowKit

set_option maxRecDepth 100000 in
set_option maxHeartbeats 2000000 in
theorem format_ptr (w : World) (hT : Tab w) (hN : w.cell? ⟨0, 5, none⟩ = some (.string ⟨#[112, 116, 114]⟩)) : Calls Tryd.prog 30 #[.agg #[.int .i64 5, .int .i64 1, .int .i64 5, .bool false, .bool false, .int .i64 0, .bool false, .bool false, .int .i64 0, .bool false, .bool false, .int .i64 0, .bool false, .bool false]] w fun e w' => e = .returned (.string ⟨#[112, 116, 114, 32, 49, 32, 53]⟩) ∧ Below w.heap.size w w' := by
  have HT := hide hT
  have HVA : Hid (∀ W, Tab W → Calls Tryd.prog 22 #[.agg #[.int .i64 5, .int .i64 1, .int .i64 5, .bool false, .bool false, .int .i64 0, .bool false, .bool false, .int .i64 0, .bool false, .bool false, .int .i64 0, .bool false, .bool false]] W fun e w' => e = .returned (.bool true) ∧ Below W.heap.size W w') := fun W h => by
    have := valid_any 5 1 ⟨5, false, false⟩ zL zL zL W h
    have e : validB 5 1 ⟨5, false, false⟩ zL zL zL = true := by rfl
    rw [e] at this; exact this
  have HP : Hid (∀ W, Calls Tryd.prog 59 #[.agg #[.int .i64 5, .int .i64 1, .int .i64 5, .bool false, .bool false, .int .i64 0, .bool false, .bool false, .int .i64 0, .bool false, .bool false, .int .i64 0, .bool false, .bool false]] W fun e w' => e = .returned (.bool true) ∧ Below W.heap.size W w') := fun W => points_any 5 1 ⟨5, false, false⟩ zL zL zL W
  have HL : Hid (∀ W, Calls Tryd.prog 19 #[.int .i64 5] W fun e w' => e = .returned (.int .i64 1) ∧ W = w') := fun W => lanes_any 5 W
  obtain ⟨q, hq⟩ : ∃ q, w.heap.size = q := ⟨_, rfl⟩
  obtain ⟨w0, hw0⟩ : ∃ z, w.alloc (.cells #[.int .i64 5, .int .i64 1, .int .i64 5, .bool false, .bool false, .int .i64 0, .bool false, .bool false, .int .i64 0, .bool false, .bool false, .int .i64 0, .bool false, .bool false] 27) = z := ⟨_, rfl⟩
  have HV : Hid (Whole w0 q 27 #[.int .i64 5, .int .i64 1, .int .i64 5, .bool false, .bool false, .int .i64 0, .bool false, .bool false, .int .i64 0, .bool false, .bool false, .int .i64 0, .bool false, .bool false]) := by show Whole _ _ _ _; rw [← hw0, ← hq]; exact Whole.new w _ _
  have HB : Hid (Below w.heap.size w w0) := by show Below _ _ _; rw [← hw0]; exact (Below.refl _ _).alloc (Nat.le_refl _) _
  have HN : Hid (w0.cell? ⟨0, 5, none⟩ = some (.string ⟨#[112, 116, 114]⟩)) := HB.out.cell (p := ⟨0, 5, none⟩) (by exact World.block_lt_of_cell? _ _ hN) |>.trans hN
  clear hT hN
  have c0 : w0.cell? ⟨q, 0, none⟩ = some (.int .i64 5) := HV.out.cell 0
  have c1 : w0.cell? ⟨q, 1, none⟩ = some (.int .i64 1) := HV.out.cell 1
  have c2 : w0.cell? ⟨q, 2, none⟩ = some (.int .i64 5) := HV.out.cell 2
  have c3 : w0.cell? ⟨q, 3, none⟩ = some (.bool false) := HV.out.cell 3
  have c4 : w0.cell? ⟨q, 4, none⟩ = some (.bool false) := HV.out.cell 4
  have c5 : w0.cell? ⟨q, 5, none⟩ = some (.int .i64 0) := HV.out.cell 5
  have c6 : w0.cell? ⟨q, 6, none⟩ = some (.bool false) := HV.out.cell 6
  have c7 : w0.cell? ⟨q, 7, none⟩ = some (.bool false) := HV.out.cell 7
  have c8 : w0.cell? ⟨q, 8, none⟩ = some (.int .i64 0) := HV.out.cell 8
  have c9 : w0.cell? ⟨q, 9, none⟩ = some (.bool false) := HV.out.cell 9
  have c10 : w0.cell? ⟨q, 10, none⟩ = some (.bool false) := HV.out.cell 10
  have c11 : w0.cell? ⟨q, 11, none⟩ = some (.int .i64 0) := HV.out.cell 11
  have c12 : w0.cell? ⟨q, 12, none⟩ = some (.bool false) := HV.out.cell 12
  have c13 : w0.cell? ⟨q, 13, none⟩ = some (.bool false) := HV.out.cell 13
  go_enter Tryd.func30, Tryd.ntmps30
  go_wp2_with fail
  refine (HVA.out _ (by exact HT.out.below HB.out)).mono ?_
  rintro en w1 ⟨rfl, hb⟩
  replace HB := hide (HB.out.trans (hb.mono HB.out.size)); replace HV := hide (HV.out.below' hb); replace HN := hide (hb.cell (p := ⟨0, 5, none⟩) (by exact World.block_lt_of_cell? _ _ HN.out) |>.trans HN.out)
  clear hb c0 c1 c2 c3 c4 c5 c6 c7 c8 c9 c10 c11 c12 c13 hw0
  have c0 : w1.cell? ⟨q, 0, none⟩ = some (.int .i64 5) := HV.out.cell 0
  have c1 : w1.cell? ⟨q, 1, none⟩ = some (.int .i64 1) := HV.out.cell 1
  have c2 : w1.cell? ⟨q, 2, none⟩ = some (.int .i64 5) := HV.out.cell 2
  have c3 : w1.cell? ⟨q, 3, none⟩ = some (.bool false) := HV.out.cell 3
  have c4 : w1.cell? ⟨q, 4, none⟩ = some (.bool false) := HV.out.cell 4
  have c5 : w1.cell? ⟨q, 5, none⟩ = some (.int .i64 0) := HV.out.cell 5
  have c6 : w1.cell? ⟨q, 6, none⟩ = some (.bool false) := HV.out.cell 6
  have c7 : w1.cell? ⟨q, 7, none⟩ = some (.bool false) := HV.out.cell 7
  have c8 : w1.cell? ⟨q, 8, none⟩ = some (.int .i64 0) := HV.out.cell 8
  have c9 : w1.cell? ⟨q, 9, none⟩ = some (.bool false) := HV.out.cell 9
  have c10 : w1.cell? ⟨q, 10, none⟩ = some (.bool false) := HV.out.cell 10
  have c11 : w1.cell? ⟨q, 11, none⟩ = some (.int .i64 0) := HV.out.cell 11
  have c12 : w1.cell? ⟨q, 12, none⟩ = some (.bool false) := HV.out.cell 12
  have c13 : w1.cell? ⟨q, 13, none⟩ = some (.bool false) := HV.out.cell 13
  have n5 := HN.out
  go_wp2_with fail
  refine (HP.out _).mono ?_
  rintro en w2 ⟨rfl, hb⟩
  replace HB := hide (HB.out.trans (hb.mono HB.out.size)); replace HV := hide (HV.out.below' hb); replace HN := hide (hb.cell (p := ⟨0, 5, none⟩) (by exact World.block_lt_of_cell? _ _ HN.out) |>.trans HN.out)
  clear hb n5 c0 c1 c2 c3 c4 c5 c6 c7 c8 c9 c10 c11 c12 c13
  have c0 : w2.cell? ⟨q, 0, none⟩ = some (.int .i64 5) := HV.out.cell 0
  have c1 : w2.cell? ⟨q, 1, none⟩ = some (.int .i64 1) := HV.out.cell 1
  have c2 : w2.cell? ⟨q, 2, none⟩ = some (.int .i64 5) := HV.out.cell 2
  have c3 : w2.cell? ⟨q, 3, none⟩ = some (.bool false) := HV.out.cell 3
  have c4 : w2.cell? ⟨q, 4, none⟩ = some (.bool false) := HV.out.cell 4
  have c5 : w2.cell? ⟨q, 5, none⟩ = some (.int .i64 0) := HV.out.cell 5
  have c6 : w2.cell? ⟨q, 6, none⟩ = some (.bool false) := HV.out.cell 6
  have c7 : w2.cell? ⟨q, 7, none⟩ = some (.bool false) := HV.out.cell 7
  have c8 : w2.cell? ⟨q, 8, none⟩ = some (.int .i64 0) := HV.out.cell 8
  have c9 : w2.cell? ⟨q, 9, none⟩ = some (.bool false) := HV.out.cell 9
  have c10 : w2.cell? ⟨q, 10, none⟩ = some (.bool false) := HV.out.cell 10
  have c11 : w2.cell? ⟨q, 11, none⟩ = some (.int .i64 0) := HV.out.cell 11
  have c12 : w2.cell? ⟨q, 12, none⟩ = some (.bool false) := HV.out.cell 12
  have c13 : w2.cell? ⟨q, 13, none⟩ = some (.bool false) := HV.out.cell 13
  go_wp2_with (first | (go_at_call 67; refine (itoa_1 _).mono ?_; rintro en w' ⟨rfl, rfl⟩) | (go_at_call 19; refine (HL.out _).mono ?_; rintro en w' ⟨rfl, rfl⟩))
  refine wp_loop_rounds 2 ?_
  rw [rounds_succ]
  go_wp2_with fail
  refine (lane_num _).mono ?_
  rintro en w3 ⟨rfl, hb⟩
  replace HB : Hid (Below w.heap.size w w3) := HB.out.trans (hb.mono HB.out.size)
  clear hb c0 c1 c2 c3 c4 c5 c6 c7 c8 c9 c10 c11 c12 c13 HV
  go_wp2_with fail
  rw [rounds_succ]
  go_wp2_with fail
  go_ret
  exact ⟨by rfl, HB.out⟩

set_option maxRecDepth 100000 in
set_option maxHeartbeats 2000000 in
theorem format_poi (w : World) (hT : Tab w) (hN : w.cell? ⟨0, 5, none⟩ = some (.string ⟨#[112, 116, 114]⟩)) : Calls Tryd.prog 30 #[.agg #[.int .i64 5, .int .i64 0, .int .i64 0, .bool true, .bool false, .int .i64 0, .bool false, .bool false, .int .i64 0, .bool false, .bool false, .int .i64 0, .bool false, .bool false]] w fun e w' => e = .returned (.string ⟨#[112, 116, 114, 32, 112, 111, 105, 115, 111, 110]⟩) ∧ Below w.heap.size w w' := by
  have HT := hide hT
  have HVA : Hid (∀ W, Tab W → Calls Tryd.prog 22 #[.agg #[.int .i64 5, .int .i64 0, .int .i64 0, .bool true, .bool false, .int .i64 0, .bool false, .bool false, .int .i64 0, .bool false, .bool false, .int .i64 0, .bool false, .bool false]] W fun e w' => e = .returned (.bool true) ∧ Below W.heap.size W w') := fun W h => by
    have := valid_any 5 0 ⟨0, true, false⟩ zL zL zL W h
    have e : validB 5 0 ⟨0, true, false⟩ zL zL zL = true := by rfl
    rw [e] at this; exact this
  have HP : Hid (∀ W, Calls Tryd.prog 59 #[.agg #[.int .i64 5, .int .i64 0, .int .i64 0, .bool true, .bool false, .int .i64 0, .bool false, .bool false, .int .i64 0, .bool false, .bool false, .int .i64 0, .bool false, .bool false]] W fun e w' => e = .returned (.bool false) ∧ Below W.heap.size W w') := fun W => points_any 5 0 ⟨0, true, false⟩ zL zL zL W
  have HL : Hid (∀ W, Calls Tryd.prog 19 #[.int .i64 5] W fun e w' => e = .returned (.int .i64 1) ∧ W = w') := fun W => lanes_any 5 W
  obtain ⟨q, hq⟩ : ∃ q, w.heap.size = q := ⟨_, rfl⟩
  obtain ⟨w0, hw0⟩ : ∃ z, w.alloc (.cells #[.int .i64 5, .int .i64 0, .int .i64 0, .bool true, .bool false, .int .i64 0, .bool false, .bool false, .int .i64 0, .bool false, .bool false, .int .i64 0, .bool false, .bool false] 27) = z := ⟨_, rfl⟩
  have HV : Hid (Whole w0 q 27 #[.int .i64 5, .int .i64 0, .int .i64 0, .bool true, .bool false, .int .i64 0, .bool false, .bool false, .int .i64 0, .bool false, .bool false, .int .i64 0, .bool false, .bool false]) := by show Whole _ _ _ _; rw [← hw0, ← hq]; exact Whole.new w _ _
  have HB : Hid (Below w.heap.size w w0) := by show Below _ _ _; rw [← hw0]; exact (Below.refl _ _).alloc (Nat.le_refl _) _
  have HN : Hid (w0.cell? ⟨0, 5, none⟩ = some (.string ⟨#[112, 116, 114]⟩)) := HB.out.cell (p := ⟨0, 5, none⟩) (by exact World.block_lt_of_cell? _ _ hN) |>.trans hN
  clear hT hN
  have c0 : w0.cell? ⟨q, 0, none⟩ = some (.int .i64 5) := HV.out.cell 0
  have c1 : w0.cell? ⟨q, 1, none⟩ = some (.int .i64 0) := HV.out.cell 1
  have c2 : w0.cell? ⟨q, 2, none⟩ = some (.int .i64 0) := HV.out.cell 2
  have c3 : w0.cell? ⟨q, 3, none⟩ = some (.bool true) := HV.out.cell 3
  have c4 : w0.cell? ⟨q, 4, none⟩ = some (.bool false) := HV.out.cell 4
  have c5 : w0.cell? ⟨q, 5, none⟩ = some (.int .i64 0) := HV.out.cell 5
  have c6 : w0.cell? ⟨q, 6, none⟩ = some (.bool false) := HV.out.cell 6
  have c7 : w0.cell? ⟨q, 7, none⟩ = some (.bool false) := HV.out.cell 7
  have c8 : w0.cell? ⟨q, 8, none⟩ = some (.int .i64 0) := HV.out.cell 8
  have c9 : w0.cell? ⟨q, 9, none⟩ = some (.bool false) := HV.out.cell 9
  have c10 : w0.cell? ⟨q, 10, none⟩ = some (.bool false) := HV.out.cell 10
  have c11 : w0.cell? ⟨q, 11, none⟩ = some (.int .i64 0) := HV.out.cell 11
  have c12 : w0.cell? ⟨q, 12, none⟩ = some (.bool false) := HV.out.cell 12
  have c13 : w0.cell? ⟨q, 13, none⟩ = some (.bool false) := HV.out.cell 13
  go_enter Tryd.func30, Tryd.ntmps30
  go_wp2_with fail
  refine (HVA.out _ (by exact HT.out.below HB.out)).mono ?_
  rintro en w1 ⟨rfl, hb⟩
  replace HB := hide (HB.out.trans (hb.mono HB.out.size)); replace HV := hide (HV.out.below' hb); replace HN := hide (hb.cell (p := ⟨0, 5, none⟩) (by exact World.block_lt_of_cell? _ _ HN.out) |>.trans HN.out)
  clear hb c0 c1 c2 c3 c4 c5 c6 c7 c8 c9 c10 c11 c12 c13 hw0
  have c0 : w1.cell? ⟨q, 0, none⟩ = some (.int .i64 5) := HV.out.cell 0
  have c1 : w1.cell? ⟨q, 1, none⟩ = some (.int .i64 0) := HV.out.cell 1
  have c2 : w1.cell? ⟨q, 2, none⟩ = some (.int .i64 0) := HV.out.cell 2
  have c3 : w1.cell? ⟨q, 3, none⟩ = some (.bool true) := HV.out.cell 3
  have c4 : w1.cell? ⟨q, 4, none⟩ = some (.bool false) := HV.out.cell 4
  have c5 : w1.cell? ⟨q, 5, none⟩ = some (.int .i64 0) := HV.out.cell 5
  have c6 : w1.cell? ⟨q, 6, none⟩ = some (.bool false) := HV.out.cell 6
  have c7 : w1.cell? ⟨q, 7, none⟩ = some (.bool false) := HV.out.cell 7
  have c8 : w1.cell? ⟨q, 8, none⟩ = some (.int .i64 0) := HV.out.cell 8
  have c9 : w1.cell? ⟨q, 9, none⟩ = some (.bool false) := HV.out.cell 9
  have c10 : w1.cell? ⟨q, 10, none⟩ = some (.bool false) := HV.out.cell 10
  have c11 : w1.cell? ⟨q, 11, none⟩ = some (.int .i64 0) := HV.out.cell 11
  have c12 : w1.cell? ⟨q, 12, none⟩ = some (.bool false) := HV.out.cell 12
  have c13 : w1.cell? ⟨q, 13, none⟩ = some (.bool false) := HV.out.cell 13
  have n5 := HN.out
  go_wp2_with fail
  refine (HP.out _).mono ?_
  rintro en w2 ⟨rfl, hb⟩
  replace HB := hide (HB.out.trans (hb.mono HB.out.size)); replace HV := hide (HV.out.below' hb); replace HN := hide (hb.cell (p := ⟨0, 5, none⟩) (by exact World.block_lt_of_cell? _ _ HN.out) |>.trans HN.out)
  clear hb n5 c0 c1 c2 c3 c4 c5 c6 c7 c8 c9 c10 c11 c12 c13
  have c0 : w2.cell? ⟨q, 0, none⟩ = some (.int .i64 5) := HV.out.cell 0
  have c1 : w2.cell? ⟨q, 1, none⟩ = some (.int .i64 0) := HV.out.cell 1
  have c2 : w2.cell? ⟨q, 2, none⟩ = some (.int .i64 0) := HV.out.cell 2
  have c3 : w2.cell? ⟨q, 3, none⟩ = some (.bool true) := HV.out.cell 3
  have c4 : w2.cell? ⟨q, 4, none⟩ = some (.bool false) := HV.out.cell 4
  have c5 : w2.cell? ⟨q, 5, none⟩ = some (.int .i64 0) := HV.out.cell 5
  have c6 : w2.cell? ⟨q, 6, none⟩ = some (.bool false) := HV.out.cell 6
  have c7 : w2.cell? ⟨q, 7, none⟩ = some (.bool false) := HV.out.cell 7
  have c8 : w2.cell? ⟨q, 8, none⟩ = some (.int .i64 0) := HV.out.cell 8
  have c9 : w2.cell? ⟨q, 9, none⟩ = some (.bool false) := HV.out.cell 9
  have c10 : w2.cell? ⟨q, 10, none⟩ = some (.bool false) := HV.out.cell 10
  have c11 : w2.cell? ⟨q, 11, none⟩ = some (.int .i64 0) := HV.out.cell 11
  have c12 : w2.cell? ⟨q, 12, none⟩ = some (.bool false) := HV.out.cell 12
  have c13 : w2.cell? ⟨q, 13, none⟩ = some (.bool false) := HV.out.cell 13
  go_wp2_with (first | fail | (go_at_call 19; refine (HL.out _).mono ?_; rintro en w' ⟨rfl, rfl⟩))
  refine wp_loop_rounds 2 ?_
  rw [rounds_succ]
  go_wp2_with fail
  refine (lane_poi _).mono ?_
  rintro en w3 ⟨rfl, hb⟩
  replace HB : Hid (Below w.heap.size w w3) := HB.out.trans (hb.mono HB.out.size)
  clear hb c0 c1 c2 c3 c4 c5 c6 c7 c8 c9 c10 c11 c12 c13 HV
  go_wp2_with fail
  rw [rounds_succ]
  go_wp2_with fail
  go_ret
  exact ⟨by rfl, HB.out⟩
end Go.Proofs.YtjeinmccahbpgaaDoor

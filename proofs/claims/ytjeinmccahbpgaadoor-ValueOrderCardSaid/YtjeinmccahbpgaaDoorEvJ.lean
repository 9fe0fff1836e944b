/-
  Layer 11 (value): the library's decimal digits 1 and 5; the format of one lane.
-/
import Derived.Test.YtjeinmccahbpgaaDoorMake
import Derived.Test.YtjeinmccahbpgaaDoorVH
namespace Go.Proofs.YtjeinmccahbpgaaDoor
open Go.RowKit

set_option maxRecDepth 100000 in
theorem small_1 (w : World) : Calls Tryd.prog 124 #[.int .i64 1] w fun e w' => e = .returned (.string ⟨#[49]⟩) ∧ w' = w := by
  go_enter Tryd.func124, Tryd.ntmps124
  go_wp2
  go_ret
  exact ⟨by rfl, rfl⟩
set_option maxRecDepth 100000 in
theorem ifmt_1 (w : World) : Calls Tryd.prog 113 #[.int .i64 1, .int .i64 10] w fun e w' => e = .returned (.string ⟨#[49]⟩) ∧ w' = w := by
  go_enter Tryd.func113, Tryd.ntmps113
  go_wp2_with (go_at_call 124; refine (small_1 _).mono ?_; rintro en w' ⟨rfl, rfl⟩)
  go_ret
  exact ⟨by rfl, rfl⟩
set_option maxRecDepth 100000 in
theorem sfmt_1 (w : World) : Calls Tryd.prog 100 #[.int .i64 1, .int .i64 10] w fun e w' => e = .returned (.string ⟨#[49]⟩) ∧ w' = w := by
  go_enter Tryd.func100, Tryd.ntmps100
  go_wp2_with (go_at_call 113; refine (ifmt_1 _).mono ?_; rintro en w' ⟨rfl, rfl⟩)
  go_ret
  exact ⟨by rfl, rfl⟩
set_option maxRecDepth 100000 in
theorem iitoa_1 (w : World) : Calls Tryd.prog 99 #[.int .i64 1] w fun e w' => e = .returned (.string ⟨#[49]⟩) ∧ w' = w := by
  go_enter Tryd.func99, Tryd.ntmps99
  go_wp2_with (go_at_call 113; refine (ifmt_1 _).mono ?_; rintro en w' ⟨rfl, rfl⟩)
  go_ret
  exact ⟨by rfl, rfl⟩
set_option maxRecDepth 100000 in
theorem itoa_1 (w : World) : Calls Tryd.prog 67 #[.int .i64 1] w fun e w' => e = .returned (.string ⟨#[49]⟩) ∧ w' = w := by
  go_enter Tryd.func67, Tryd.ntmps67
  go_wp2_with (go_at_call 99; refine (iitoa_1 _).mono ?_; rintro en w' ⟨rfl, rfl⟩)
  go_ret
  exact ⟨by rfl, rfl⟩

set_option maxRecDepth 100000 in
theorem small_5 (w : World) : Calls Tryd.prog 124 #[.int .i64 5] w fun e w' => e = .returned (.string ⟨#[53]⟩) ∧ w' = w := by
  go_enter Tryd.func124, Tryd.ntmps124
  go_wp2
  go_ret
  exact ⟨by rfl, rfl⟩
set_option maxRecDepth 100000 in
theorem ifmt_5 (w : World) : Calls Tryd.prog 113 #[.int .i64 5, .int .i64 10] w fun e w' => e = .returned (.string ⟨#[53]⟩) ∧ w' = w := by
  go_enter Tryd.func113, Tryd.ntmps113
  go_wp2_with (go_at_call 124; refine (small_5 _).mono ?_; rintro en w' ⟨rfl, rfl⟩)
  go_ret
  exact ⟨by rfl, rfl⟩
set_option maxRecDepth 100000 in
theorem sfmt_5 (w : World) : Calls Tryd.prog 100 #[.int .i64 5, .int .i64 10] w fun e w' => e = .returned (.string ⟨#[53]⟩) ∧ w' = w := by
  go_enter Tryd.func100, Tryd.ntmps100
  go_wp2_with (go_at_call 113; refine (ifmt_5 _).mono ?_; rintro en w' ⟨rfl, rfl⟩)
  go_ret
  exact ⟨by rfl, rfl⟩
set_option maxRecDepth 100000 in
theorem iitoa_5 (w : World) : Calls Tryd.prog 99 #[.int .i64 5] w fun e w' => e = .returned (.string ⟨#[53]⟩) ∧ w' = w := by
  go_enter Tryd.func99, Tryd.ntmps99
  go_wp2_with (go_at_call 113; refine (ifmt_5 _).mono ?_; rintro en w' ⟨rfl, rfl⟩)
  go_ret
  exact ⟨by rfl, rfl⟩
set_option maxRecDepth 100000 in
theorem itoa_5 (w : World) : Calls Tryd.prog 67 #[.int .i64 5] w fun e w' => e = .returned (.string ⟨#[53]⟩) ∧ w' = w := by
  go_enter Tryd.func67, Tryd.ntmps67
  go_wp2_with (go_at_call 99; refine (iitoa_5 _).mono ?_; rintro en w' ⟨rfl, rfl⟩)
  go_ret
  exact ⟨by rfl, rfl⟩

set_option maxRecDepth 100000 in
theorem lane_num (w : World) : Calls Tryd.prog 68 #[.agg #[.int .i64 5, .bool false, .bool false]] w fun e w' => e = .returned (.string ⟨#[53]⟩) ∧ Below w.heap.size w w' := by
  go_enter Tryd.func68, Tryd.ntmps68
  go_wp2_with (go_at_call 100; refine (sfmt_5 _).mono ?_; rintro en w' ⟨rfl, rfl⟩)
  go_ret
  exact ⟨by rfl, (Below.refl _ _).alloc (Nat.le_refl _) _⟩

set_option maxRecDepth 100000 in
theorem lane_poi (w : World) : Calls Tryd.prog 68 #[.agg #[.int .i64 0, .bool true, .bool false]] w fun e w' => e = .returned (.string ⟨#[112, 111, 105, 115, 111, 110]⟩) ∧ Below w.heap.size w w' := by
  go_enter Tryd.func68, Tryd.ntmps68
  go_wp2
  go_ret
  exact ⟨by rfl, (Below.refl _ _).alloc (Nat.le_refl _) _⟩
end Go.Proofs.YtjeinmccahbpgaaDoor

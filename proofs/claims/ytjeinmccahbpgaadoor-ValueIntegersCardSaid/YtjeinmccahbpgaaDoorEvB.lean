/-
  Layer 11 (value): compute and combine of sums, differences and products of two numbers.
-/
import Derived.Deep.Cut
import Derived.Deep.RegionHeld3
import Derived.Test.YtjeinmccahbpgaaDoorEvA
namespace Go.Proofs.YtjeinmccahbpgaaDoor
open Go.RowKit

set_option maxRecDepth 100000 in
theorem compute_5 (t a b : Int) (w : World) (hT : Tab w) : Calls Tryd.prog 112 #[.int .i64 5, .int .i64 t, .int .i64 a, .int .i64 b] w fun e w' => e = .returned (.tuple #[.int .i64 (addS t a b), .bool (!addO t a b)]) ∧ Below w.heap.size w w' := by
  have HT := hide hT
  clear hT
  go_enter Tryd.func112, Tryd.ntmps112
  go_wp2_with (go_at_call 109; refine (add_any t a b _ HT.out).mono ?_; rintro en w' ⟨rfl, hb⟩)
  go_ret2
  exact ⟨rfl, hb⟩

set_option maxRecDepth 100000 in
theorem compute_6 (t a b : Int) (w : World) (hT : Tab w) : Calls Tryd.prog 112 #[.int .i64 6, .int .i64 t, .int .i64 a, .int .i64 b] w fun e w' => e = .returned (.tuple #[.int .i64 (subS t a b), .bool (!subO t a b)]) ∧ Below w.heap.size w w' := by
  have HT := hide hT
  clear hT
  go_enter Tryd.func112, Tryd.ntmps112
  go_wp2_with (go_at_call 117; refine (sub_any t a b _ HT.out).mono ?_; rintro en w' ⟨rfl, hb⟩)
  go_ret2
  exact ⟨rfl, hb⟩

set_option maxRecDepth 100000 in
theorem compute_7 (t a b : Int) (w : World) (hT : Tab w) : Calls Tryd.prog 112 #[.int .i64 7, .int .i64 t, .int .i64 a, .int .i64 b] w fun e w' => e = .returned (.tuple #[.int .i64 (mulS t a b), .bool (!mulO t a b)]) ∧ Below w.heap.size w w' := by
  have HT := hide hT
  clear hT
  go_enter Tryd.func112, Tryd.ntmps112
  go_wp2_with (go_at_call 118; refine (mul_any t a b _ HT.out).mono ?_; rintro en w' ⟨rfl, hb⟩)
  go_ret2
  exact ⟨rfl, hb⟩
end Go.Proofs.YtjeinmccahbpgaaDoor

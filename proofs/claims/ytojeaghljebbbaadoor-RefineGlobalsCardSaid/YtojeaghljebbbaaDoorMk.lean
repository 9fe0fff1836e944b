/-
  Layer 11 (value): Int, Poison and Pointer, of the program and of the reference.
-/
import Derived.Test.YtojeaghljebbbaaDoorEach
namespace Go.Proofs.YtojeaghljebbbaaDoor
open Go.RowKit

set_option maxRecDepth 100000 in
set_option maxHeartbeats 4000000 in
theorem poison1_any (i : Int) (w : World) : Calls Tryd.prog 40 #[.int .i64 i] w fun e w' => e = .returned (.agg #[.int .i64 0, .bool true, .bool false]) ∧ Below w.heap.size w w' := by
  go_enter Tryd.func40, Tryd.ntmps40
  go_wp2
  refine bodyPost_ret (v := .agg #[.int .i64 0, .bool true, .bool false]) ?_ rfl ⟨rfl, (Below.refl _ _).alloc (Nat.le_refl _) _⟩
  simp [results, Tryd.f40, go_sem]
set_option maxRecDepth 100000 in
set_option maxHeartbeats 4000000 in
theorem int1_any (i x : Int) (pb : Nat) (w : World) (hp : Whole w pb 24 #[.int .i64 x, .bool false, .bool false]) : Calls Tryd.prog 39 #[.int .i64 i, .pointer (some ⟨pb, 0, none⟩)] w fun e w' => e = .returned (.agg #[.int .i64 x, .bool false, .bool false]) ∧ Below w.heap.size w w' := by
  have c0 : ∀ o, (w.alloc o).cell? ⟨pb, 0, none⟩ = some (.int .i64 x) := fun o => (hp.alloc o).cell 0
  have c1 : ∀ o, (w.alloc o).cell? ⟨pb, 1, none⟩ = some (.bool false) := fun o => (hp.alloc o).cell 1
  have c2 : ∀ o, (w.alloc o).cell? ⟨pb, 2, none⟩ = some (.bool false) := fun o => (hp.alloc o).cell 2
  go_enter Tryd.func39, Tryd.ntmps39
  go_wp2
  refine bodyPost_ret (v := .agg #[.int .i64 x, .bool false, .bool false]) ?_ rfl ⟨rfl, (Below.refl _ _).alloc (Nat.le_refl _) _⟩
  simp [results, Tryd.f39, go_sem]
end Go.Proofs.YtojeaghljebbbaaDoor

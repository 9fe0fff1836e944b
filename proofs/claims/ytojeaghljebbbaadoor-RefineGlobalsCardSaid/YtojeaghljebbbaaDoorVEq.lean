/-
  Layer 11 (value): a value equals itself.
-/
import Derived.Test.YtojeaghljebbbaaDoorMake
import Derived.Laws.StructEq
namespace Go.Proofs.YtojeaghljebbbaaDoor
open Go.RowKit
set_option maxRecDepth 100000 in
theorem eqv (t o : Int) (a b c d : LaneD) (W : World) : Sem.run Tryd.prog (binOp .eql 27 (.agg (vc t o a b c d)) (.agg (vc t o a b c d))) W = .ok (.bool true) W := by
  unfold vc
  rw [run_eql_struct]
  simp [go_sem]
  have ht : Tryd.prog.underlying 25 = some (.array 4 24) := by kernel_rfl
  have hsz : ∀ w, (sizeOf 24).run Tryd.prog w = .ok 3 w := fun w => by kernel_rfl
  rw [show (9999 : Nat) = 9998 + 1 from rfl, Op.equalIn]
  simp only [Sem.run_bind, run_underlying ht, Result.andThen_ok, hsz, Std.Legacy.Range.forIn_eq_forIn_range', Std.Legacy.Range.size, Nat.sub_zero, Nat.add_sub_cancel, Nat.div_one]
  simp [go_sem, List.range']

theorem mkLanes_vc (t : Int) (l : LaneD) : ∃ u o a b c d, mkLanes t l = vc u o a b c d := by
  rcases numL_cases t with h | h | h | h
  · exact ⟨_, _, _, _, _, _, mkLanes_0 l h⟩
  · exact ⟨_, _, _, _, _, _, mkLanes_1 l h⟩
  · exact ⟨_, _, _, _, _, _, mkLanes_2 l h⟩
  · exact ⟨_, _, _, _, _, _, mkLanes_4 l h⟩
theorem mkInt_vc (t n : Int) : ∃ u o a b c d, mkInt t n = vc u o a b c d := by
  unfold mkInt
  by_cases h : t = 5
  · rw [if_pos h]; exact ⟨_, _, _, _, _, _, rfl⟩
  · rw [if_neg h]; exact mkLanes_vc _ _
theorem mkPointer_vc (x n : Int) : ∃ u o a b c d, mkPointer x n = vc u o a b c d := by
  unfold mkPointer
  by_cases h : x < -1
  · rw [if_pos h]; exact ⟨_, _, _, _, _, _, rfl⟩
  · rw [if_neg h]; exact ⟨_, _, _, _, _, _, rfl⟩
/-- What compares equal with itself. -/
def EqSelf (v : Array Value) : Prop := ∀ W, Sem.run Tryd.prog (binOp .eql 27 (.agg v) (.agg v)) W = .ok (.bool true) W
theorem self_vc {v : Array Value} (h : ∃ u o a b c d, v = vc u o a b c d) : EqSelf v := by
  obtain ⟨u, o, a, b, c, d, rfl⟩ := h
  exact eqv u o a b c d
end Go.Proofs.YtojeaghljebbbaaDoor

/-
  Layer 11 (value): Valid whole; HasPoison, of the program and of the reference.
-/
import Derived.Test.YtojeaghljebbbaaDoorVR
namespace Go.Proofs.YtojeaghljebbbaaDoor
open Go.RowKit

theorem valid_any (t o : Int) (a b c d : LaneD) (w : World) (hT : Tab w) :
    Calls Tryd.prog 43 #[.agg #[.int .i64 t, .int .i64 o, .int .i64 a.n, .bool a.p, .bool a.u, .int .i64 b.n, .bool b.p, .bool b.u, .int .i64 c.n, .bool c.p, .bool c.u, .int .i64 d.n, .bool d.p, .bool d.u]] w fun e w' => e = .returned (.bool (validB t o a b c d)) ∧ Below w.heap.size w w' := valid_n t o a b c d w hT _ rfl (numL_cases t)
theorem rvalid_any (t o : Int) (a b c d : LaneD) (w : World) :
    Calls Tryd.prog 31 #[.agg #[.int .i64 t, .int .i64 o, .int .i64 a.n, .bool a.p, .bool a.u, .int .i64 b.n, .bool b.p, .bool b.u, .int .i64 c.n, .bool c.p, .bool c.u, .int .i64 d.n, .bool d.p, .bool d.u]] w fun e w' => e = .returned (.bool (validB t o a b c d)) ∧ Below w.heap.size w w' := rvalid_n t o a b c d w _ rfl (numL_cases t)
/-- Is one of the lanes before i poison? -/
def poi (a b c d : LaneD) : Nat → Bool
  | 0 => false
  | 1 => a.p
  | 2 => a.p || b.p
  | 3 => a.p || b.p || c.p
  | _ => a.p || b.p || c.p || d.p
theorem poi_succ (a b c d : LaneD) (i : Nat) (l : LaneD) (h : [a, b, c, d][i]? = some l) : poi a b c d (i + 1) = (poi a b c d i || l.p) := by
  match i, h with
  | 0, h => injection h with h; subst h; simp [poi]
  | 1, h => injection h with h; subst h; rfl
  | 2, h => injection h with h; subst h; rfl
  | 3, h => injection h with h; subst h; rfl
theorem poi_end {a b c d : LaneD} {i : Nat} (hi : i ≤ 4) (h : poi a b c d i = true) : poi a b c d 4 = true := by
  match i, hi with
  | 0, _ => exact absurd h (by simp [poi])
  | 1, _ => simp only [poi] at h ⊢; simp [h]
  | 2, _ => simp only [poi] at h ⊢; simp [h]
  | 3, _ => simp only [poi] at h ⊢; simp [h]
  | 4, _ => exact h
def hasPoi (t o : Int) (a b c d : LaneD) : Bool := validB t o a b c d && poi a b c d 4

end Go.Proofs.YtojeaghljebbbaaDoor

/-
  Layer 11 (value): pointsSomewhere.
-/
import Derived.Test.YtojeaghljebbbaaDoorVL
namespace Go.Proofs.YtojeaghljebbbaaDoor
open Go.RowKit

set_option maxRecDepth 100000 in
set_option maxHeartbeats 4000000 in
theorem points_any (t o : Int) (a b c d : LaneD) (w : World) :
    Calls Tryd.prog 44 #[.agg #[.int .i64 t, .int .i64 o, .int .i64 a.n, .bool a.p, .bool a.u, .int .i64 b.n, .bool b.p, .bool b.u, .int .i64 c.n, .bool c.p, .bool c.u, .int .i64 d.n, .bool d.p, .bool d.u]] w fun e w' => e = .returned (.bool (points t a.p)) ∧ Below w.heap.size w w' := by
  obtain ⟨q, hq⟩ : ∃ q, w.heap.size = q := ⟨_, rfl⟩
  obtain ⟨w1, hw1⟩ : ∃ x, w.alloc (.cells #[.int .i64 t, .int .i64 o, .int .i64 a.n, .bool a.p, .bool a.u, .int .i64 b.n, .bool b.p, .bool b.u, .int .i64 c.n, .bool c.p, .bool c.u, .int .i64 d.n, .bool d.p, .bool d.u] 27) = x := ⟨_, rfl⟩
  have hs1 : w1.heap.size = q + 1 := by rw [← hw1, World.size_alloc, hq]
  have hR1 : Whole w1 q 27 (vc t o a b c d) := by rw [← hw1, ← hq]; exact Whole.new w _ _
  have hb1 : Below q w w1 := by rw [← hw1, ← hq]; exact (Below.refl _ _).alloc (Nat.le_refl _) _
  have HB := hide hb1
  obtain ⟨c0, c1, c2, c3, c4, c5, c6, c7, c8, c9, c10, c11, c12, c13⟩ := vc_cells hR1
  obtain ⟨x, hx⟩ : ∃ x, (t == 5) = x := ⟨_, rfl⟩
  have HV : Hid (points t a.p = (x && !a.p)) := hide (by unfold points; rw [hx])
  rw [HV.out]
  obtain ⟨p, hp⟩ : ∃ p, a.p = p := ⟨_, rfl⟩
  rw [hp] at c3 hw1 ⊢
  clear hR1 hb1 HV hp
  cases x <;> cases p
  all_goals
    go_enter Tryd.func44, Tryd.ntmps44
    go_wp2_with fail
    go_ret
    first | exact ⟨rfl, HB.out⟩ | exact ⟨rfl, by rw [hq]; exact HB.out⟩ | exact ⟨rfl, by rw [hq, hw1]; exact HB.out⟩ | exact ⟨rfl, by rw [hw1]; exact HB.out⟩
end Go.Proofs.YtojeaghljebbbaaDoor

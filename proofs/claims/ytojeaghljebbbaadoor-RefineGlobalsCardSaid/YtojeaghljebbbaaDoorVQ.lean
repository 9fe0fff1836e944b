/-
  Layer 11 (value): which lanes refine which.
-/
import Derived.Test.YtojeaghljebbbaaDoorVH
namespace Go.Proofs.YtojeaghljebbbaaDoor
open Go.RowKit

/-- A lane refines another one. -/
def refL (a b : LaneD) : Bool := (a.n == b.n && a.p == b.p && a.u == b.u) || b.p || (b.u && !a.p)

set_option maxRecDepth 100000 in
set_option maxHeartbeats 8000000 in
theorem refl_any (a b : LaneD) (w : World) :
    Calls Tryd.prog 45 #[.agg #[.int .i64 a.n, .bool a.p, .bool a.u], .agg #[.int .i64 b.n, .bool b.p, .bool b.u]] w fun e w' => e = .returned (.bool (refL a b)) ∧ Below w.heap.size w w' := by
  obtain ⟨an, ap, au⟩ := a
  obtain ⟨bn, bp, bu⟩ := b
  obtain ⟨q, hq⟩ : ∃ q, w.heap.size = q := ⟨_, rfl⟩
  obtain ⟨w1, hw1⟩ : ∃ x, w.alloc (.cells #[.int .i64 an, .bool ap, .bool au] 24) = x := ⟨_, rfl⟩
  have hs1 : w1.heap.size = q + 1 := by rw [← hw1, World.size_alloc, hq]
  have hA1 : Whole w1 q 24 #[.int .i64 an, .bool ap, .bool au] := by rw [← hw1, ← hq]; exact Whole.new w _ _
  have hb1 : Below q w w1 := by rw [← hw1, ← hq]; exact (Below.refl _ _).alloc (Nat.le_refl _) _
  obtain ⟨w2, hw2⟩ : ∃ x, w1.alloc (.cells #[.int .i64 bn, .bool bp, .bool bu] 24) = x := ⟨_, rfl⟩
  have hB2 : Whole w2 (q + 1) 24 #[.int .i64 bn, .bool bp, .bool bu] := by rw [← hw2, ← hs1]; exact Whole.new w1 _ _
  have hb12 : Below w1.heap.size w1 w2 := by rw [← hw2]; exact (Below.refl _ _).alloc (Nat.le_refl _) _
  have HB : Hid (Below q w w2) := hide (hb1.trans (hb12.mono (by omega)))
  have hA2 := hA1.below' hb12
  have a0 : w2.cell? ⟨q, 0, none⟩ = some (.int .i64 an) := hA2.cell 0
  have a1 : w2.cell? ⟨q, 1, none⟩ = some (.bool ap) := hA2.cell 1
  have a2 : w2.cell? ⟨q, 2, none⟩ = some (.bool au) := hA2.cell 2
  have b0 : w2.cell? ⟨q + 1, 0, none⟩ = some (.int .i64 bn) := hB2.cell 0
  have b1 : w2.cell? ⟨q + 1, 1, none⟩ = some (.bool bp) := hB2.cell 1
  have b2 : w2.cell? ⟨q + 1, 2, none⟩ = some (.bool bu) := hB2.cell 2
  obtain ⟨z, hz⟩ : ∃ z, (an == bn) = z := ⟨_, rfl⟩
  have HV : Hid (refL ⟨an, ap, au⟩ ⟨bn, bp, bu⟩ = ((z && ap == bp && au == bu) || bp || (bu && !ap))) := hide (by unfold refL; rw [hz])
  clear hA1 hb1 hB2 hb12 hA2
  cases ap <;> cases au <;> cases bp <;> cases bu <;> cases z
  all_goals
    go_enter Tryd.func45, Tryd.ntmps45
    go_wp2_with fail
    go_ret
    refine ⟨?_, by first | exact HB.out | (rw [hq]; exact HB.out)⟩
    rw [HV.out]
    (try rfl)

set_option maxRecDepth 100000 in
set_option maxHeartbeats 8000000 in
theorem rrefl_any (a b : LaneD) (w : World) :
    Calls Tryd.prog 46 #[.agg #[.int .i64 a.n, .bool a.p, .bool a.u], .agg #[.int .i64 b.n, .bool b.p, .bool b.u]] w fun e w' => e = .returned (.bool (refL a b)) ∧ Below w.heap.size w w' := by
  obtain ⟨an, ap, au⟩ := a
  obtain ⟨bn, bp, bu⟩ := b
  obtain ⟨q, hq⟩ : ∃ q, w.heap.size = q := ⟨_, rfl⟩
  obtain ⟨w1, hw1⟩ : ∃ x, w.alloc (.cells #[.int .i64 an, .bool ap, .bool au] 24) = x := ⟨_, rfl⟩
  have hs1 : w1.heap.size = q + 1 := by rw [← hw1, World.size_alloc, hq]
  have hA1 : Whole w1 q 24 #[.int .i64 an, .bool ap, .bool au] := by rw [← hw1, ← hq]; exact Whole.new w _ _
  have hb1 : Below q w w1 := by rw [← hw1, ← hq]; exact (Below.refl _ _).alloc (Nat.le_refl _) _
  obtain ⟨w2, hw2⟩ : ∃ x, w1.alloc (.cells #[.int .i64 bn, .bool bp, .bool bu] 24) = x := ⟨_, rfl⟩
  have hB2 : Whole w2 (q + 1) 24 #[.int .i64 bn, .bool bp, .bool bu] := by rw [← hw2, ← hs1]; exact Whole.new w1 _ _
  have hb12 : Below w1.heap.size w1 w2 := by rw [← hw2]; exact (Below.refl _ _).alloc (Nat.le_refl _) _
  have HB : Hid (Below q w w2) := hide (hb1.trans (hb12.mono (by omega)))
  have hA2 := hA1.below' hb12
  have a0 : w2.cell? ⟨q, 0, none⟩ = some (.int .i64 an) := hA2.cell 0
  have a1 : w2.cell? ⟨q, 1, none⟩ = some (.bool ap) := hA2.cell 1
  have a2 : w2.cell? ⟨q, 2, none⟩ = some (.bool au) := hA2.cell 2
  have b0 : w2.cell? ⟨q + 1, 0, none⟩ = some (.int .i64 bn) := hB2.cell 0
  have b1 : w2.cell? ⟨q + 1, 1, none⟩ = some (.bool bp) := hB2.cell 1
  have b2 : w2.cell? ⟨q + 1, 2, none⟩ = some (.bool bu) := hB2.cell 2
  obtain ⟨z, hz⟩ : ∃ z, (an == bn) = z := ⟨_, rfl⟩
  have HV : Hid (refL ⟨an, ap, au⟩ ⟨bn, bp, bu⟩ = ((z && ap == bp && au == bu) || bp || (bu && !ap))) := hide (by unfold refL; rw [hz])
  clear hA1 hb1 hB2 hb12 hA2
  cases ap <;> cases au <;> cases bp <;> cases bu <;> cases z
  all_goals
    go_enter Tryd.func46, Tryd.ntmps46
    go_wp2_with fail
    go_ret
    refine ⟨?_, by first | exact HB.out | (rw [hq]; exact HB.out)⟩
    rw [HV.out]
    (try rfl)
end Go.Proofs.YtojeaghljebbbaaDoor

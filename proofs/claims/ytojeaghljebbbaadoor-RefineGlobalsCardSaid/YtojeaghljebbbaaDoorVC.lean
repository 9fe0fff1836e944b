/-
  Layer 11 (value): blocks that hold a value.
-/
import Derived.Test.YtojeaghljebbbaaDoorVB
namespace Go.Proofs.YtojeaghljebbbaaDoor
open Go.RowKit

/-- The cells of a value. -/
def vc (t o : Int) (a b c d : LaneD) : Array Value := #[.int .i64 t, .int .i64 o, .int .i64 a.n, .bool a.p, .bool a.u, .int .i64 b.n, .bool b.p, .bool b.u, .int .i64 c.n, .bool c.p, .bool c.u, .int .i64 d.n, .bool d.p, .bool d.u]
def zL : LaneD := ⟨0, false, false⟩
theorem vc_put0 (t o : Int) (a b c d l : LaneD) : (((vc t o a b c d).setIfInBounds 2 (.int .i64 l.n)).setIfInBounds 3 (.bool l.p)).setIfInBounds 4 (.bool l.u) = vc t o l b c d := rfl
theorem vc_put1 (t o : Int) (a b c d l : LaneD) : (((vc t o a b c d).setIfInBounds 5 (.int .i64 l.n)).setIfInBounds 6 (.bool l.p)).setIfInBounds 7 (.bool l.u) = vc t o a l c d := rfl
theorem vc_put2 (t o : Int) (a b c d l : LaneD) : (((vc t o a b c d).setIfInBounds 8 (.int .i64 l.n)).setIfInBounds 9 (.bool l.p)).setIfInBounds 10 (.bool l.u) = vc t o a b l d := rfl
theorem vc_put3 (t o : Int) (a b c d l : LaneD) : (((vc t o a b c d).setIfInBounds 11 (.int .i64 l.n)).setIfInBounds 12 (.bool l.p)).setIfInBounds 13 (.bool l.u) = vc t o a b c l := rfl
section
variable {w : World} {g : Nat} {T : TypeId} {t o : Int} {a b c d : LaneD}
theorem vc_cells (h : Whole w g T (vc t o a b c d)) : w.cell? ⟨g, 0, none⟩ = some (.int .i64 t) ∧ w.cell? ⟨g, 1, none⟩ = some (.int .i64 o) ∧ w.cell? ⟨g, 2, none⟩ = some (.int .i64 a.n) ∧ w.cell? ⟨g, 3, none⟩ = some (.bool a.p) ∧ w.cell? ⟨g, 4, none⟩ = some (.bool a.u) ∧ w.cell? ⟨g, 5, none⟩ = some (.int .i64 b.n) ∧ w.cell? ⟨g, 6, none⟩ = some (.bool b.p) ∧ w.cell? ⟨g, 7, none⟩ = some (.bool b.u) ∧ w.cell? ⟨g, 8, none⟩ = some (.int .i64 c.n) ∧ w.cell? ⟨g, 9, none⟩ = some (.bool c.p) ∧ w.cell? ⟨g, 10, none⟩ = some (.bool c.u) ∧ w.cell? ⟨g, 11, none⟩ = some (.int .i64 d.n) ∧ w.cell? ⟨g, 12, none⟩ = some (.bool d.p) ∧ w.cell? ⟨g, 13, none⟩ = some (.bool d.u) :=
  ⟨h.cell 0, h.cell 1, h.cell 2, h.cell 3, h.cell 4, h.cell 5, h.cell 6, h.cell 7, h.cell 8, h.cell 9, h.cell 10, h.cell 11, h.cell 12, h.cell 13⟩
theorem vc_free (h : Whole w g T (vc t o a b c d)) : w.frozen? ⟨g, 0, none⟩ = false ∧ w.frozen? ⟨g, 1, none⟩ = false ∧ w.frozen? ⟨g, 2, none⟩ = false ∧ w.frozen? ⟨g, 3, none⟩ = false ∧ w.frozen? ⟨g, 4, none⟩ = false ∧ w.frozen? ⟨g, 5, none⟩ = false ∧ w.frozen? ⟨g, 6, none⟩ = false ∧ w.frozen? ⟨g, 7, none⟩ = false ∧ w.frozen? ⟨g, 8, none⟩ = false ∧ w.frozen? ⟨g, 9, none⟩ = false ∧ w.frozen? ⟨g, 10, none⟩ = false ∧ w.frozen? ⟨g, 11, none⟩ = false ∧ w.frozen? ⟨g, 12, none⟩ = false ∧ w.frozen? ⟨g, 13, none⟩ = false :=
  ⟨h.free 0, h.free 1, h.free 2, h.free 3, h.free 4, h.free 5, h.free 6, h.free 7, h.free 8, h.free 9, h.free 10, h.free 11, h.free 12, h.free 13⟩
theorem Whole.lane (h : Whole w g T (vc t o a b c d)) (i : Nat) (l : LaneD) : Whole (((w.setCell ⟨g, i, none⟩ (.int .i64 l.n)).setCell ⟨g, i + 1, none⟩ (.bool l.p)).setCell ⟨g, i + 1 + 1, none⟩ (.bool l.u)) g T ((((vc t o a b c d).setIfInBounds i (.int .i64 l.n)).setIfInBounds (i + 1) (.bool l.p)).setIfInBounds (i + 1 + 1) (.bool l.u)) :=
  ((h.set i _).set (i + 1) _).set (i + 1 + 1) _
end
end Go.Proofs.YtojeaghljebbbaaDoor

/-
  Layer 19 (refine): what the rows' list gives, and a world for the witnesses.
-/
import Derived.Test.YtojeaghljebbbaaDoorLeaf
import Derived.Test.YtojeaghljebbbaaDoorOpen
import Derived.Test.YtojeaghljebbbaaDoorCards
import Derived.Test.YtojeaghljebbbaaDoorTie
import Derived.Deep.DeepHandedRow
import Derived.Lib.LaidTab
namespace Go.Proofs.YtojeaghljebbbaaDoor
open Go.ChangeShapes Go.WideShapes Go.ChangeAt Go.RowKit

theorem own : ownKnob Tryd.prog.godebug = none := by kernel_rfl
theorem gTab : Tryd.prog.globalNamed "burnish/intn.widths" = some 0 := by kernel_rfl
theorem gTabType : (Tryd.prog.globals[0]?).map (·.type) = some 78 := by kernel_rfl
theorem cellsTab : Tryd.prog.cellsOf 78 = 5 := by kernel_rfl
theorem cellsInt : Tryd.prog.cellsOf 3 = 1 := by kernel_rfl
theorem rtab_of_laid {W : World} (h : laidMetH Tryd.prog Rows.refineValuesRow.laid W) : Tab W := by
  have h1 : laidMet Tryd.prog [("burnish/intn.widths", Rows.laid_burnish_intn_widths)] W := laidMetH.filter (fun x => x.1 == "burnish/intn.widths") h
  have ht : Lib.TabIs Tryd.prog W "burnish/intn.widths" .i64 [0, 1, 8, 32, 64] := Lib.tabIs_of_head (rest := []) gTab gTabType Tryd.underlying78 Tryd.underlying3 cellsInt cellsTab h1
  exact ⟨ht.cell gTab 0 (by decide), ht.cell gTab 1 (by decide), ht.cell gTab 2 (by decide), ht.cell gTab 3 (by decide), ht.cell gTab 4 (by decide)⟩
/-- The cells that a value of the list lays. -/
def cellsOfR : Nat → DataW Unit → List Value
  | 0, _ => []
  | _ + 1, .lit (.int k n) => [.int k n]
  | m + 1, .agg l => l.flatMap (cellsOfR m)
  | _ + 1, _ => []
def putR (g : Nat) (d : DataW Unit) (hp : Array Obj) : Array Obj := hp.modify g fun
  | .cells _ t frozen => .cells (cellsOfR 4 d).toArray t frozen
  | o => o
/-- A WORLD FOR THE WITNESS: the settled one, the table holding what its initialiser lays. -/
noncomputable def refWorld (os : Os) : World :=
  { World.holding Tryd.prog os ⟨#[], #[], []⟩ with heap := putR 0 Rows.laid_burnish_intn_widths (World.holding Tryd.prog os ⟨#[], #[], []⟩).heap }
end Go.Proofs.YtojeaghljebbbaaDoor

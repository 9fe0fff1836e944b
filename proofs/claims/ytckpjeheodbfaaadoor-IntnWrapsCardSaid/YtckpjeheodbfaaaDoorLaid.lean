/-
  What the row's list gives: the table of widths, and a world for the witnesses.
-/
import Derived.Test.YtckpjeheodbfaaaDoorLeaf
import Derived.Test.YtckpjeheodbfaaaDoorCards
import Derived.Test.YtckpjeheodbfaaaDoorTie
import Derived.Deep.DeepHandedRow
import Derived.Lib.LaidTab
namespace Go.Proofs.YtckpjeheodbfaaaDoor
open Go.ChangeShapes Go.WideShapes Go.ChangeAt Go.RowKit

theorem own : ownKnob Tryd.prog.godebug = none := by kernel_rfl
theorem gTab : Tryd.prog.globalNamed "burnish/intn.widths" = some 0 := by kernel_rfl
theorem gTabType : (Tryd.prog.globals[0]?).map (·.type) = some 38 := by kernel_rfl
theorem cellsTab : Tryd.prog.cellsOf 38 = 5 := by kernel_rfl
theorem cellsInt : Tryd.prog.cellsOf 3 = 1 := by kernel_rfl
theorem tab_of_laid {W : World} (h : laidMetH Tryd.prog [("burnish/intn.widths", Rows.laid_burnish_intn_widths)] W) : Tab W := by
  have ht : Lib.TabIs Tryd.prog W "burnish/intn.widths" .i64 [0, 1, 8, 32, 64] := Lib.tabIs_of_head (rest := []) gTab gTabType Tryd.underlying38 Tryd.underlying3 cellsInt cellsTab h
  exact ⟨ht.cell gTab 0 (by decide), ht.cell gTab 1 (by decide), ht.cell gTab 2 (by decide), ht.cell gTab 3 (by decide), ht.cell gTab 4 (by decide)⟩
/-- A WORLD FOR THE WITNESS: the settled one, the table (block 0) holding what its initialiser lays. -/
noncomputable def laidWorld (os : Os) : World :=
  { World.holding Tryd.prog os ⟨#[], #[], []⟩ with heap := (World.holding Tryd.prog os ⟨#[], #[], []⟩).heap.modify 0 fun
      | .cells _ t frozen => .cells #[.int .i64 0, .int .i64 1, .int .i64 8, .int .i64 32, .int .i64 64] t frozen
      | o => o }
end Go.Proofs.YtckpjeheodbfaaaDoor

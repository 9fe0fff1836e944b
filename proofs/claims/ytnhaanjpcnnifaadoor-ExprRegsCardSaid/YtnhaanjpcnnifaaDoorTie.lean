/-
  DERIVED. GIVEN WITH THE SEED: THE PROGRAM's TIES (one call each: nine closed facts by the kernel) AND EACH ROW's TIE, after the 31st guide's Derived/Test/Toyas{Tie, Card}.lean. No idea stands in it: it is a product of the set-up. Laid BY PROGRAM, IN A SANDBOX (cutbox-door.mjs). By AI agents, Wed Nov 11 2026. No macro, syntax, notation, axiom, sorry.
-/
import Derived.Test.YtnhaanjpcnnifaaDoorRows
import Derived.LaidByTextLater
import Derived.SevenTiedAt
import Derived.LaidSub
import Derived.LaidOnce
namespace Go.Proofs.YtnhaanjpcnnifaaDoor
open Go
set_option maxRecDepth 100000
theorem seatTie1 : Tryd.prog.laidByTextLater [("burnish/intn.widths", Rows.laid_burnish_intn_widths), ("burnish/opcode.names", Rows.laid_burnish_opcode_names), ("burnish/opcode.typeNames", Rows.laid_burnish_opcode_typeNames), ("burnish/opcode.rules", Rows.laid_burnish_opcode_rules), ("math/bits.deBruijn32tab", Rows.laid_math_bits_deBruijn32tab), ("math/bits.deBruijn64tab", Rows.laid_math_bits_deBruijn64tab), ("internal/strconv.uint64pow10", Rows.laid_internal_strconv_uint64pow10)] [.data, .data, .data, .wider, .data, .data, .data] true :=
  Program.laidByTextLater_by_one 104 8 205 (by kernel_rfl) (by kernel_rfl) (by kernel_rfl) (by kernel_rfl) (by kernel_rfl) (by kernel_rfl) (fun _ _ => by kernel_rfl)
theorem noOwnUnsafe : Tryd.pinned.checked.prog.headLifts.contains "ownunsafe" = false := by kernel_rfl
theorem tie : Tryd.prog.laidByTextLater [("burnish/intn.widths", Rows.laid_burnish_intn_widths), ("burnish/opcode.names", Rows.laid_burnish_opcode_names), ("burnish/opcode.typeNames", Rows.laid_burnish_opcode_typeNames), ("burnish/opcode.rules", Rows.laid_burnish_opcode_rules), ("math/bits.deBruijn32tab", Rows.laid_math_bits_deBruijn32tab), ("math/bits.deBruijn64tab", Rows.laid_math_bits_deBruijn64tab), ("internal/strconv.uint64pow10", Rows.laid_internal_strconv_uint64pow10)] [.data, .data, .data, .wider, .data, .data, .data] true :=
  Program.laidByTextLater.sub seatTie1 ["burnish/intn.widths", "burnish/opcode.names", "burnish/opcode.typeNames", "burnish/opcode.rules", "math/bits.deBruijn32tab", "math/bits.deBruijn64tab", "internal/strconv.uint64pow10"] (by kernel_rfl) (by kernel_rfl)
theorem exprCheck_row_tie : Rows.exprCheckRow.laidByTextAt .later Tryd.pinned [.data, .data, .data, .wider, .data, .data, .data] true :=
  OpenClaim.laidByTextAt_later rfl rfl tie noOwnUnsafe
theorem exprBuilds_row_tie : Rows.exprBuildsRow.laidByTextAt .later Tryd.pinned [.data, .data, .data, .wider, .data, .data, .data] true :=
  OpenClaim.laidByTextAt_later rfl rfl tie noOwnUnsafe
theorem exprRegs_row_tie : Rows.exprRegsRow.laidByTextAt .later Tryd.pinned [.data, .data, .data, .wider, .data, .data, .data] true :=
  OpenClaim.laidByTextAt_later rfl rfl tie noOwnUnsafe
theorem exprFormat_row_tie : Rows.exprFormatRow.laidByTextAt .later Tryd.pinned [.data, .data, .data, .wider, .data, .data, .data] true :=
  OpenClaim.laidByTextAt_later rfl rfl tie noOwnUnsafe
theorem exprExtends_row_tie : Rows.exprExtendsRow.laidByTextAt .later Tryd.pinned [.data, .data, .data, .wider, .data, .data, .data] true :=
  OpenClaim.laidByTextAt_later rfl rfl tie noOwnUnsafe
theorem exprCheckUpto_row_tie : Rows.exprCheckUptoRow.laidByTextAt .later Tryd.pinned [.data, .data, .data, .wider, .data, .data, .data] true :=
  OpenClaim.laidByTextAt_later rfl rfl tie noOwnUnsafe
theorem exprBuildsUpto_row_tie : Rows.exprBuildsUptoRow.laidByTextAt .later Tryd.pinned [.data, .data, .data, .wider, .data, .data, .data] true :=
  OpenClaim.laidByTextAt_later rfl rfl tie noOwnUnsafe
theorem exprRegsUpto_row_tie : Rows.exprRegsUptoRow.laidByTextAt .later Tryd.pinned [.data, .data, .data, .wider, .data, .data, .data] true :=
  OpenClaim.laidByTextAt_later rfl rfl tie noOwnUnsafe
theorem exprFormatUpto_row_tie : Rows.exprFormatUptoRow.laidByTextAt .later Tryd.pinned [.data, .data, .data, .wider, .data, .data, .data] true :=
  OpenClaim.laidByTextAt_later rfl rfl tie noOwnUnsafe
theorem exprExtendsUpto_row_tie : Rows.exprExtendsUptoRow.laidByTextAt .later Tryd.pinned [.data, .data, .data, .wider, .data, .data, .data] true :=
  OpenClaim.laidByTextAt_later rfl rfl tie noOwnUnsafe
end Go.Proofs.YtnhaanjpcnnifaaDoor

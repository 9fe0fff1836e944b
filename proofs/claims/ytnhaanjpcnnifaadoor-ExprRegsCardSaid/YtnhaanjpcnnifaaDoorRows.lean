/-
  NARROWER THAN 'FOR EVERY INPUT', by the rows' own cells (each row's printed sentence says how): ExprCheck: laid · ExprBuilds: laid · ExprRegs: laid · ExprFormat: laid · ExprExtends: laid.
  DERIVED. THE GIVEN ROWS OF THIS SEAT. 5 by the template 'for every input the law returns true; each argument reads behind the call as it read before'; 0 by the template 'total and deterministic' (their statements: YtnhaanjpcnnifaaDoorTotals.lean).
  GIVEN WITH THE SEED: the statements are not yours to turn. If you find one false, say at which input.
  Laid BY PROGRAM, IN A SANDBOX (cutbox-rows.mjs): the forced cells as the released guide's own fill.sh prints them over the translation 11a45ba31bf6ddb8… (all of the seat's roots in one cut). By AI agents, Wed Nov 11 2026. No macro, syntax, notation, axiom, sorry.
-/
import Derived.Test.YtnhaanjpcnnifaaDoorChecked
import GoSem.Claim
import GoSem.ClaimJoined
import GoSem.ClaimMapViews
import Derived.JoinedTies
import Derived.KernelRfl
namespace Go.Proofs.YtnhaanjpcnnifaaDoor
/- THE CELL 'sum', in the pinned program and in every row, IS THE sha256 OF THE DUMP (.gsa) THAT YtnhaanjpcnnifaaDoorProg.lean LOADS. Nothing in Lean hashes anything: it is a label: what it is worth is what the hold of that sum in a sandbox is worth. -/
noncomputable def Tryd.pinned : Pinned := { name := "ytnhaanjpcnnifaadoor", sum := "11a45ba31bf6ddb85135efd4a49251fec8e2e178e2dd228ff9bca4eb6462198a", checked := Tryd.checked }
namespace Rows
def none {H : Type} : Left H := { results := [], args := [] }

/- WHAT THE LISTED PACKAGE-LEVEL VARIABLES READ AS WHEN THE CALL BEGINS. Each datum BY PROGRAM (the guide's laid-datum.mjs) off the statement by which the dump's own 'gosem.cut.vars' lays the variable. In a bare row this is a premise. The card (YtnhaanjpcnnifaaDoorCards.lean) ties it to the program's text. -/
def laid_burnish_intn_widths {H : Type} : DataW H := .agg [.lit (.int .i64 0), .lit (.int .i64 1), .lit (.int .i64 8), .lit (.int .i64 32), .lit (.int .i64 64)]
def laid_burnish_opcode_names {H : Type} : DataW H := .agg [.lit (.string []), .lit (.string [99, 111, 110, 115, 116]), .lit (.string [112, 111, 105, 115, 111, 110]), .lit (.string [102, 114, 101, 101, 122, 101]), .lit (.string [99, 111, 112, 121]), .lit (.string [97, 100, 100]), .lit (.string [115, 117, 98]), .lit (.string [109, 117, 108]), .lit (.string [97, 110, 100]), .lit (.string [111, 114]), .lit (.string [120, 111, 114]), .lit (.string [115, 104, 108]), .lit (.string [108, 115, 104, 114]), .lit (.string [97, 115, 104, 114]), .lit (.string [115, 100, 105, 118]), .lit (.string [115, 114, 101, 109]), .lit (.string [101, 113]), .lit (.string [110, 101]), .lit (.string [115, 108, 116]), .lit (.string [115, 108, 101]), .lit (.string [117, 108, 116]), .lit (.string [115, 101, 108, 101, 99, 116]), .lit (.string [115, 101, 120, 116]), .lit (.string [122, 101, 120, 116]), .lit (.string [116, 114, 117, 110, 99]), .lit (.string [103, 108, 111, 98, 97, 108]), .lit (.string [97, 108, 108, 111, 99, 97]), .lit (.string [111, 102, 102, 115, 101, 116]), .lit (.string [108, 111, 97, 100]), .lit (.string [115, 116, 111, 114, 101]), .lit (.string [99, 97, 108, 108]), .lit (.string [111, 117, 116, 112, 117, 116]), .lit (.string [112, 97, 99, 107]), .lit (.string [108, 97, 110, 101])]
def laid_burnish_opcode_typeNames {H : Type} : DataW H := .agg [.lit (.string [118, 111, 105, 100]), .lit (.string [98, 111, 111, 108]), .lit (.string [105, 56]), .lit (.string [105, 51, 50]), .lit (.string [105, 54, 52]), .lit (.string [112, 116, 114]), .lit (.string [118, 50]), .lit (.string [118, 52])]
def laid_burnish_opcode_rules {H : Type} : DataW H := .agg [.agg [.lit (.int .u8 0), .agg [.lit (.int .u8 0), .lit (.int .u8 0), .lit (.int .u8 0), .lit (.int .u8 0)], .lit (.int .i64 0)], .agg [.lit (.int .u8 30), .agg [.lit (.int .u8 0), .lit (.int .u8 0), .lit (.int .u8 0), .lit (.int .u8 0)], .lit (.int .i64 0)], .agg [.lit (.int .u8 254), .agg [.lit (.int .u8 0), .lit (.int .u8 0), .lit (.int .u8 0), .lit (.int .u8 0)], .lit (.int .i64 0)], .agg [.lit (.int .u8 222), .agg [.lit (.int .u8 254), .lit (.int .u8 0), .lit (.int .u8 0), .lit (.int .u8 0)], .lit (.int .i64 2)], .agg [.lit (.int .u8 254), .agg [.lit (.int .u8 254), .lit (.int .u8 0), .lit (.int .u8 0), .lit (.int .u8 0)], .lit (.int .i64 2)], .agg [.lit (.int .u8 220), .agg [.lit (.int .u8 254), .lit (.int .u8 254), .lit (.int .u8 0), .lit (.int .u8 0)], .lit (.int .i64 2)], .agg [.lit (.int .u8 220), .agg [.lit (.int .u8 254), .lit (.int .u8 254), .lit (.int .u8 0), .lit (.int .u8 0)], .lit (.int .i64 2)], .agg [.lit (.int .u8 220), .agg [.lit (.int .u8 254), .lit (.int .u8 254), .lit (.int .u8 0), .lit (.int .u8 0)], .lit (.int .i64 2)], .agg [.lit (.int .u8 222), .agg [.lit (.int .u8 254), .lit (.int .u8 254), .lit (.int .u8 0), .lit (.int .u8 0)], .lit (.int .i64 2)], .agg [.lit (.int .u8 222), .agg [.lit (.int .u8 254), .lit (.int .u8 254), .lit (.int .u8 0), .lit (.int .u8 0)], .lit (.int .i64 2)], .agg [.lit (.int .u8 222), .agg [.lit (.int .u8 254), .lit (.int .u8 254), .lit (.int .u8 0), .lit (.int .u8 0)], .lit (.int .i64 2)], .agg [.lit (.int .u8 28), .agg [.lit (.int .u8 254), .lit (.int .u8 254), .lit (.int .u8 0), .lit (.int .u8 0)], .lit (.int .i64 2)], .agg [.lit (.int .u8 28), .agg [.lit (.int .u8 254), .lit (.int .u8 254), .lit (.int .u8 0), .lit (.int .u8 0)], .lit (.int .i64 2)], .agg [.lit (.int .u8 28), .agg [.lit (.int .u8 254), .lit (.int .u8 254), .lit (.int .u8 0), .lit (.int .u8 0)], .lit (.int .i64 2)], .agg [.lit (.int .u8 28), .agg [.lit (.int .u8 254), .lit (.int .u8 254), .lit (.int .u8 0), .lit (.int .u8 0)], .lit (.int .i64 2)], .agg [.lit (.int .u8 28), .agg [.lit (.int .u8 254), .lit (.int .u8 254), .lit (.int .u8 0), .lit (.int .u8 0)], .lit (.int .i64 2)], .agg [.lit (.int .u8 2), .agg [.lit (.int .u8 62), .lit (.int .u8 62), .lit (.int .u8 0), .lit (.int .u8 0)], .lit (.int .i64 1)], .agg [.lit (.int .u8 2), .agg [.lit (.int .u8 62), .lit (.int .u8 62), .lit (.int .u8 0), .lit (.int .u8 0)], .lit (.int .i64 1)], .agg [.lit (.int .u8 2), .agg [.lit (.int .u8 28), .lit (.int .u8 28), .lit (.int .u8 0), .lit (.int .u8 0)], .lit (.int .i64 1)], .agg [.lit (.int .u8 2), .agg [.lit (.int .u8 28), .lit (.int .u8 28), .lit (.int .u8 0), .lit (.int .u8 0)], .lit (.int .i64 1)], .agg [.lit (.int .u8 2), .agg [.lit (.int .u8 28), .lit (.int .u8 28), .lit (.int .u8 0), .lit (.int .u8 0)], .lit (.int .i64 1)], .agg [.lit (.int .u8 254), .agg [.lit (.int .u8 2), .lit (.int .u8 254), .lit (.int .u8 254), .lit (.int .u8 0)], .lit (.int .i64 3)], .agg [.lit (.int .u8 24), .agg [.lit (.int .u8 12), .lit (.int .u8 0), .lit (.int .u8 0), .lit (.int .u8 0)], .lit (.int .i64 4)], .agg [.lit (.int .u8 28), .agg [.lit (.int .u8 14), .lit (.int .u8 0), .lit (.int .u8 0), .lit (.int .u8 0)], .lit (.int .i64 4)], .agg [.lit (.int .u8 30), .agg [.lit (.int .u8 28), .lit (.int .u8 0), .lit (.int .u8 0), .lit (.int .u8 0)], .lit (.int .i64 5)], .agg [.lit (.int .u8 32), .agg [.lit (.int .u8 0), .lit (.int .u8 0), .lit (.int .u8 0), .lit (.int .u8 0)], .lit (.int .i64 0)], .agg [.lit (.int .u8 32), .agg [.lit (.int .u8 0), .lit (.int .u8 0), .lit (.int .u8 0), .lit (.int .u8 0)], .lit (.int .i64 0)], .agg [.lit (.int .u8 32), .agg [.lit (.int .u8 32), .lit (.int .u8 16), .lit (.int .u8 0), .lit (.int .u8 0)], .lit (.int .i64 0)], .agg [.lit (.int .u8 252), .agg [.lit (.int .u8 32), .lit (.int .u8 0), .lit (.int .u8 0), .lit (.int .u8 0)], .lit (.int .i64 0)], .agg [.lit (.int .u8 1), .agg [.lit (.int .u8 32), .lit (.int .u8 252), .lit (.int .u8 0), .lit (.int .u8 0)], .lit (.int .i64 0)], .agg [.lit (.int .u8 0), .agg [.lit (.int .u8 0), .lit (.int .u8 0), .lit (.int .u8 0), .lit (.int .u8 0)], .lit (.int .i64 0)], .agg [.lit (.int .u8 1), .agg [.lit (.int .u8 254), .lit (.int .u8 0), .lit (.int .u8 0), .lit (.int .u8 0)], .lit (.int .i64 0)], .agg [.lit (.int .u8 192), .agg [.lit (.int .u8 8), .lit (.int .u8 8), .lit (.int .u8 8), .lit (.int .u8 8)], .lit (.int .i64 6)], .agg [.lit (.int .u8 8), .agg [.lit (.int .u8 192), .lit (.int .u8 0), .lit (.int .u8 0), .lit (.int .u8 0)], .lit (.int .i64 0)]]
def laid_math_bits_deBruijn32tab {H : Type} : DataW H := .agg [.lit (.int .u8 0), .lit (.int .u8 1), .lit (.int .u8 28), .lit (.int .u8 2), .lit (.int .u8 29), .lit (.int .u8 14), .lit (.int .u8 24), .lit (.int .u8 3), .lit (.int .u8 30), .lit (.int .u8 22), .lit (.int .u8 20), .lit (.int .u8 15), .lit (.int .u8 25), .lit (.int .u8 17), .lit (.int .u8 4), .lit (.int .u8 8), .lit (.int .u8 31), .lit (.int .u8 27), .lit (.int .u8 13), .lit (.int .u8 23), .lit (.int .u8 21), .lit (.int .u8 19), .lit (.int .u8 16), .lit (.int .u8 7), .lit (.int .u8 26), .lit (.int .u8 12), .lit (.int .u8 18), .lit (.int .u8 6), .lit (.int .u8 11), .lit (.int .u8 5), .lit (.int .u8 10), .lit (.int .u8 9)]
def laid_math_bits_deBruijn64tab {H : Type} : DataW H := .agg [.lit (.int .u8 0), .lit (.int .u8 1), .lit (.int .u8 56), .lit (.int .u8 2), .lit (.int .u8 57), .lit (.int .u8 49), .lit (.int .u8 28), .lit (.int .u8 3), .lit (.int .u8 61), .lit (.int .u8 58), .lit (.int .u8 42), .lit (.int .u8 50), .lit (.int .u8 38), .lit (.int .u8 29), .lit (.int .u8 17), .lit (.int .u8 4), .lit (.int .u8 62), .lit (.int .u8 47), .lit (.int .u8 59), .lit (.int .u8 36), .lit (.int .u8 45), .lit (.int .u8 43), .lit (.int .u8 51), .lit (.int .u8 22), .lit (.int .u8 53), .lit (.int .u8 39), .lit (.int .u8 33), .lit (.int .u8 30), .lit (.int .u8 24), .lit (.int .u8 18), .lit (.int .u8 12), .lit (.int .u8 5), .lit (.int .u8 63), .lit (.int .u8 55), .lit (.int .u8 48), .lit (.int .u8 27), .lit (.int .u8 60), .lit (.int .u8 41), .lit (.int .u8 37), .lit (.int .u8 16), .lit (.int .u8 46), .lit (.int .u8 35), .lit (.int .u8 44), .lit (.int .u8 21), .lit (.int .u8 52), .lit (.int .u8 32), .lit (.int .u8 23), .lit (.int .u8 11), .lit (.int .u8 54), .lit (.int .u8 26), .lit (.int .u8 40), .lit (.int .u8 15), .lit (.int .u8 34), .lit (.int .u8 20), .lit (.int .u8 31), .lit (.int .u8 10), .lit (.int .u8 25), .lit (.int .u8 14), .lit (.int .u8 19), .lit (.int .u8 9), .lit (.int .u8 13), .lit (.int .u8 8), .lit (.int .u8 7), .lit (.int .u8 6)]
def laid_internal_strconv_uint64pow10 {H : Type} : DataW H := .agg [.lit (.int .u64 1), .lit (.int .u64 10), .lit (.int .u64 100), .lit (.int .u64 1000), .lit (.int .u64 10000), .lit (.int .u64 100000), .lit (.int .u64 1000000), .lit (.int .u64 10000000), .lit (.int .u64 100000000), .lit (.int .u64 1000000000), .lit (.int .u64 10000000000), .lit (.int .u64 100000000000), .lit (.int .u64 1000000000000), .lit (.int .u64 10000000000000), .lit (.int .u64 100000000000000), .lit (.int .u64 1000000000000000), .lit (.int .u64 10000000000000000), .lit (.int .u64 100000000000000000), .lit (.int .u64 1000000000000000000), .lit (.int .u64 10000000000000000000)]

/-- 'burnishlaw23.ExprCheck': WHATEVER THE INPUT: true; the input reads as it did. -/
def exprCheckSpec : ChangeSpec := { name := "exprCheck", fn := fun _ => fun
  | [d1, d2, d3] => { results := [.lit (.bool true)], args := [d1, d2, d3] }
  | _ => none }
def exprCheckRow : OpenClaim := { program := "ytnhaanjpcnnifaadoor", sum := "11a45ba31bf6ddb85135efd4a49251fec8e2e178e2dd228ff9bca4eb6462198a", func := "burnish/burnishlaw23.ExprCheck", spec := "exprCheck", inPlace := ["internal/abi.NoEscape"], unfollowed := true, recurses := true, named := ["burnish/opcode.rules", "burnish/intn.widths", "internal/strconv.uint64pow10", "math/bits.deBruijn32tab", "math/bits.deBruijn64tab", "burnish/opcode.names", "burnish/opcode.typeNames"], apart := false, laid := [("burnish/intn.widths", laid_burnish_intn_widths), ("burnish/opcode.names", laid_burnish_opcode_names), ("burnish/opcode.typeNames", laid_burnish_opcode_typeNames), ("burnish/opcode.rules", laid_burnish_opcode_rules), ("math/bits.deBruijn32tab", laid_math_bits_deBruijn32tab), ("math/bits.deBruijn64tab", laid_math_bits_deBruijn64tab), ("internal/strconv.uint64pow10", laid_internal_strconv_uint64pow10)] }
def ExprCheckSaid : Prop := exprCheckRow.holds Tryd.pinned (OpenSpec.ofChange exprCheckSpec)

/-- ITS FALSE NEIGHBOUR: 'it returns false'. Refute it at one input. -/
def exprCheckWrong : ChangeSpec := { name := "exprCheck", fn := fun _ => fun
  | [d1, d2, d3] => { results := [.lit (.bool false)], args := [d1, d2, d3] }
  | _ => none }
def ExprCheckWrongFalsely : Prop := exprCheckRow.holds Tryd.pinned (OpenSpec.ofChange exprCheckWrong)

/-- 'burnishlaw23.ExprBuilds': WHATEVER THE INPUT: true; the input reads as it did. -/
def exprBuildsSpec : ChangeSpec := { name := "exprBuilds", fn := fun _ => fun
  | [d1, d2, d3, d4, d5] => { results := [.lit (.bool true)], args := [d1, d2, d3, d4, d5] }
  | _ => none }
def exprBuildsRow : OpenClaim := { program := "ytnhaanjpcnnifaadoor", sum := "11a45ba31bf6ddb85135efd4a49251fec8e2e178e2dd228ff9bca4eb6462198a", func := "burnish/burnishlaw23.ExprBuilds", spec := "exprBuilds", inPlace := ["internal/abi.NoEscape"], unfollowed := true, recurses := true, named := ["burnish/opcode.rules", "burnish/intn.widths", "internal/strconv.uint64pow10", "math/bits.deBruijn32tab", "math/bits.deBruijn64tab", "burnish/opcode.names", "burnish/opcode.typeNames"], apart := false, laid := [("burnish/intn.widths", laid_burnish_intn_widths), ("burnish/opcode.names", laid_burnish_opcode_names), ("burnish/opcode.typeNames", laid_burnish_opcode_typeNames), ("burnish/opcode.rules", laid_burnish_opcode_rules), ("math/bits.deBruijn32tab", laid_math_bits_deBruijn32tab), ("math/bits.deBruijn64tab", laid_math_bits_deBruijn64tab), ("internal/strconv.uint64pow10", laid_internal_strconv_uint64pow10)] }
def ExprBuildsSaid : Prop := exprBuildsRow.holds Tryd.pinned (OpenSpec.ofChange exprBuildsSpec)

/-- ITS FALSE NEIGHBOUR: 'it returns false'. Refute it at one input. -/
def exprBuildsWrong : ChangeSpec := { name := "exprBuilds", fn := fun _ => fun
  | [d1, d2, d3, d4, d5] => { results := [.lit (.bool false)], args := [d1, d2, d3, d4, d5] }
  | _ => none }
def ExprBuildsWrongFalsely : Prop := exprBuildsRow.holds Tryd.pinned (OpenSpec.ofChange exprBuildsWrong)

/-- 'burnishlaw23.ExprRegs': WHATEVER THE INPUT: true; the input reads as it did. -/
def exprRegsSpec : ChangeSpec := { name := "exprRegs", fn := fun _ => fun
  | [d1, d2, d3] => { results := [.lit (.bool true)], args := [d1, d2, d3] }
  | _ => none }
def exprRegsRow : OpenClaim := { program := "ytnhaanjpcnnifaadoor", sum := "11a45ba31bf6ddb85135efd4a49251fec8e2e178e2dd228ff9bca4eb6462198a", func := "burnish/burnishlaw23.ExprRegs", spec := "exprRegs", inPlace := ["internal/abi.NoEscape"], unfollowed := true, recurses := true, named := ["burnish/opcode.rules", "burnish/intn.widths", "internal/strconv.uint64pow10", "math/bits.deBruijn32tab", "math/bits.deBruijn64tab", "burnish/opcode.names", "burnish/opcode.typeNames"], apart := false, laid := [("burnish/intn.widths", laid_burnish_intn_widths), ("burnish/opcode.names", laid_burnish_opcode_names), ("burnish/opcode.typeNames", laid_burnish_opcode_typeNames), ("burnish/opcode.rules", laid_burnish_opcode_rules), ("math/bits.deBruijn32tab", laid_math_bits_deBruijn32tab), ("math/bits.deBruijn64tab", laid_math_bits_deBruijn64tab), ("internal/strconv.uint64pow10", laid_internal_strconv_uint64pow10)] }
def ExprRegsSaid : Prop := exprRegsRow.holds Tryd.pinned (OpenSpec.ofChange exprRegsSpec)

/-- ITS FALSE NEIGHBOUR: 'it returns false'. Refute it at one input. -/
def exprRegsWrong : ChangeSpec := { name := "exprRegs", fn := fun _ => fun
  | [d1, d2, d3] => { results := [.lit (.bool false)], args := [d1, d2, d3] }
  | _ => none }
def ExprRegsWrongFalsely : Prop := exprRegsRow.holds Tryd.pinned (OpenSpec.ofChange exprRegsWrong)

/-- 'burnishlaw23.ExprFormat': WHATEVER THE INPUT: true; the input reads as it did. -/
def exprFormatSpec : ChangeSpec := { name := "exprFormat", fn := fun _ => fun
  | [d1, d2] => { results := [.lit (.bool true)], args := [d1, d2] }
  | _ => none }
def exprFormatRow : OpenClaim := { program := "ytnhaanjpcnnifaadoor", sum := "11a45ba31bf6ddb85135efd4a49251fec8e2e178e2dd228ff9bca4eb6462198a", func := "burnish/burnishlaw23.ExprFormat", spec := "exprFormat", inPlace := ["internal/abi.NoEscape"], unfollowed := true, recurses := true, named := ["burnish/opcode.rules", "burnish/intn.widths", "internal/strconv.uint64pow10", "math/bits.deBruijn32tab", "math/bits.deBruijn64tab", "burnish/opcode.names", "burnish/opcode.typeNames"], apart := false, laid := [("burnish/intn.widths", laid_burnish_intn_widths), ("burnish/opcode.names", laid_burnish_opcode_names), ("burnish/opcode.typeNames", laid_burnish_opcode_typeNames), ("burnish/opcode.rules", laid_burnish_opcode_rules), ("math/bits.deBruijn32tab", laid_math_bits_deBruijn32tab), ("math/bits.deBruijn64tab", laid_math_bits_deBruijn64tab), ("internal/strconv.uint64pow10", laid_internal_strconv_uint64pow10)] }
def ExprFormatSaid : Prop := exprFormatRow.holds Tryd.pinned (OpenSpec.ofChange exprFormatSpec)

/-- ITS FALSE NEIGHBOUR: 'it returns false'. Refute it at one input. -/
def exprFormatWrong : ChangeSpec := { name := "exprFormat", fn := fun _ => fun
  | [d1, d2] => { results := [.lit (.bool false)], args := [d1, d2] }
  | _ => none }
def ExprFormatWrongFalsely : Prop := exprFormatRow.holds Tryd.pinned (OpenSpec.ofChange exprFormatWrong)

/-- 'burnishlaw23.ExprExtends': WHATEVER THE INPUT: true; the input reads as it did. -/
def exprExtendsSpec : ChangeSpec := { name := "exprExtends", fn := fun _ => fun
  | [d1, d2, d3, d4] => { results := [.lit (.bool true)], args := [d1, d2, d3, d4] }
  | _ => none }
def exprExtendsRow : OpenClaim := { program := "ytnhaanjpcnnifaadoor", sum := "11a45ba31bf6ddb85135efd4a49251fec8e2e178e2dd228ff9bca4eb6462198a", func := "burnish/burnishlaw23.ExprExtends", spec := "exprExtends", inPlace := ["internal/abi.NoEscape"], unfollowed := true, recurses := true, named := ["burnish/opcode.rules", "burnish/intn.widths", "internal/strconv.uint64pow10", "math/bits.deBruijn32tab", "math/bits.deBruijn64tab", "burnish/opcode.names", "burnish/opcode.typeNames"], apart := false, laid := [("burnish/intn.widths", laid_burnish_intn_widths), ("burnish/opcode.names", laid_burnish_opcode_names), ("burnish/opcode.typeNames", laid_burnish_opcode_typeNames), ("burnish/opcode.rules", laid_burnish_opcode_rules), ("math/bits.deBruijn32tab", laid_math_bits_deBruijn32tab), ("math/bits.deBruijn64tab", laid_math_bits_deBruijn64tab), ("internal/strconv.uint64pow10", laid_internal_strconv_uint64pow10)] }
def ExprExtendsSaid : Prop := exprExtendsRow.holds Tryd.pinned (OpenSpec.ofChange exprExtendsSpec)

/-- ITS FALSE NEIGHBOUR: 'it returns false'. Refute it at one input. -/
def exprExtendsWrong : ChangeSpec := { name := "exprExtends", fn := fun _ => fun
  | [d1, d2, d3, d4] => { results := [.lit (.bool false)], args := [d1, d2, d3, d4] }
  | _ => none }
def ExprExtendsWrongFalsely : Prop := exprExtendsRow.holds Tryd.pinned (OpenSpec.ofChange exprExtendsWrong)

/- THE SECOND FORM. 'bulk': how many values and letters a reading holds, each counted each time it is reached (what is shared counts as often as it is met; a slice's spare places count too). A statement '..UptoSaid' is the law's where the arguments, and the package variables that the reading takes, are together of bulk at most 1048576: NARROWER than '..Said'. Prove '..Said' where nothing that the law and all that it calls make is longer than what came in: it says more and counts as full. Else prove '..UptoSaid'. A law counts once. -/
mutual
def uptoBulk {H : Type} : DataW H → Nat
  | .lit (.string bytes) => bytes.length + 1
  | .lit _ => 1
  | .nil => 1
  | .ptr d => uptoBulk d + 1
  | .slice elems spare => uptoBulkAll elems + uptoBulkAll spare + 1
  | .agg parts => uptoBulkAll parts + 1
  | .iface _ d => uptoBulk d + 1
  | .map entries => uptoBulkEntries entries + 1
  | .held _ => 1
def uptoBulkAll {H : Type} : List (DataW H) → Nat
  | [] => 0
  | d :: r => uptoBulk d + uptoBulkAll r
def uptoBulkEntries {H : Type} : List (Lit × DataW H) → Nat
  | [] => 0
  | x :: r => uptoBulkEntry x + uptoBulkEntries r
def uptoBulkEntry {H : Type} : Lit × DataW H → Nat
  | (.string bytes, d) => bytes.length + uptoBulk d + 1
  | (_, d) => uptoBulk d + 1
 end
def uptoSmall : (H : Type) → List (DataW H) → Bool := fun _ ds => decide (uptoBulkAll ds ≤ 1048576)
def OpenSpec.upto (s : _root_.Go.ChangeSpec) : _root_.Go.OpenSpec := { _root_.Go.OpenSpec.ofChange s with cond := some uptoSmall }

/-- 'burnishlaw23.ExprCheck', WHERE WHAT IT READS IS OF BULK AT MOST 1048576: true; the input reads as it did. -/
def exprCheckUptoRow : OpenClaim := { program := "ytnhaanjpcnnifaadoor", sum := "11a45ba31bf6ddb85135efd4a49251fec8e2e178e2dd228ff9bca4eb6462198a", func := "burnish/burnishlaw23.ExprCheck", spec := "exprCheck", inPlace := ["internal/abi.NoEscape"], unfollowed := true, recurses := true, named := ["burnish/opcode.rules", "burnish/intn.widths", "internal/strconv.uint64pow10", "math/bits.deBruijn32tab", "math/bits.deBruijn64tab", "burnish/opcode.names", "burnish/opcode.typeNames"], apart := false, laid := [("burnish/intn.widths", laid_burnish_intn_widths), ("burnish/opcode.names", laid_burnish_opcode_names), ("burnish/opcode.typeNames", laid_burnish_opcode_typeNames), ("burnish/opcode.rules", laid_burnish_opcode_rules), ("math/bits.deBruijn32tab", laid_math_bits_deBruijn32tab), ("math/bits.deBruijn64tab", laid_math_bits_deBruijn64tab), ("internal/strconv.uint64pow10", laid_internal_strconv_uint64pow10)], narrowed := true }
def ExprCheckUptoSaid : Prop := exprCheckUptoRow.holds Tryd.pinned (OpenSpec.upto exprCheckSpec)

/-- 'burnishlaw23.ExprBuilds', WHERE WHAT IT READS IS OF BULK AT MOST 1048576: true; the input reads as it did. -/
def exprBuildsUptoRow : OpenClaim := { program := "ytnhaanjpcnnifaadoor", sum := "11a45ba31bf6ddb85135efd4a49251fec8e2e178e2dd228ff9bca4eb6462198a", func := "burnish/burnishlaw23.ExprBuilds", spec := "exprBuilds", inPlace := ["internal/abi.NoEscape"], unfollowed := true, recurses := true, named := ["burnish/opcode.rules", "burnish/intn.widths", "internal/strconv.uint64pow10", "math/bits.deBruijn32tab", "math/bits.deBruijn64tab", "burnish/opcode.names", "burnish/opcode.typeNames"], apart := false, laid := [("burnish/intn.widths", laid_burnish_intn_widths), ("burnish/opcode.names", laid_burnish_opcode_names), ("burnish/opcode.typeNames", laid_burnish_opcode_typeNames), ("burnish/opcode.rules", laid_burnish_opcode_rules), ("math/bits.deBruijn32tab", laid_math_bits_deBruijn32tab), ("math/bits.deBruijn64tab", laid_math_bits_deBruijn64tab), ("internal/strconv.uint64pow10", laid_internal_strconv_uint64pow10)], narrowed := true }
def ExprBuildsUptoSaid : Prop := exprBuildsUptoRow.holds Tryd.pinned (OpenSpec.upto exprBuildsSpec)

/-- 'burnishlaw23.ExprRegs', WHERE WHAT IT READS IS OF BULK AT MOST 1048576: true; the input reads as it did. -/
def exprRegsUptoRow : OpenClaim := { program := "ytnhaanjpcnnifaadoor", sum := "11a45ba31bf6ddb85135efd4a49251fec8e2e178e2dd228ff9bca4eb6462198a", func := "burnish/burnishlaw23.ExprRegs", spec := "exprRegs", inPlace := ["internal/abi.NoEscape"], unfollowed := true, recurses := true, named := ["burnish/opcode.rules", "burnish/intn.widths", "internal/strconv.uint64pow10", "math/bits.deBruijn32tab", "math/bits.deBruijn64tab", "burnish/opcode.names", "burnish/opcode.typeNames"], apart := false, laid := [("burnish/intn.widths", laid_burnish_intn_widths), ("burnish/opcode.names", laid_burnish_opcode_names), ("burnish/opcode.typeNames", laid_burnish_opcode_typeNames), ("burnish/opcode.rules", laid_burnish_opcode_rules), ("math/bits.deBruijn32tab", laid_math_bits_deBruijn32tab), ("math/bits.deBruijn64tab", laid_math_bits_deBruijn64tab), ("internal/strconv.uint64pow10", laid_internal_strconv_uint64pow10)], narrowed := true }
def ExprRegsUptoSaid : Prop := exprRegsUptoRow.holds Tryd.pinned (OpenSpec.upto exprRegsSpec)

/-- 'burnishlaw23.ExprFormat', WHERE WHAT IT READS IS OF BULK AT MOST 1048576: true; the input reads as it did. -/
def exprFormatUptoRow : OpenClaim := { program := "ytnhaanjpcnnifaadoor", sum := "11a45ba31bf6ddb85135efd4a49251fec8e2e178e2dd228ff9bca4eb6462198a", func := "burnish/burnishlaw23.ExprFormat", spec := "exprFormat", inPlace := ["internal/abi.NoEscape"], unfollowed := true, recurses := true, named := ["burnish/opcode.rules", "burnish/intn.widths", "internal/strconv.uint64pow10", "math/bits.deBruijn32tab", "math/bits.deBruijn64tab", "burnish/opcode.names", "burnish/opcode.typeNames"], apart := false, laid := [("burnish/intn.widths", laid_burnish_intn_widths), ("burnish/opcode.names", laid_burnish_opcode_names), ("burnish/opcode.typeNames", laid_burnish_opcode_typeNames), ("burnish/opcode.rules", laid_burnish_opcode_rules), ("math/bits.deBruijn32tab", laid_math_bits_deBruijn32tab), ("math/bits.deBruijn64tab", laid_math_bits_deBruijn64tab), ("internal/strconv.uint64pow10", laid_internal_strconv_uint64pow10)], narrowed := true }
def ExprFormatUptoSaid : Prop := exprFormatUptoRow.holds Tryd.pinned (OpenSpec.upto exprFormatSpec)

/-- 'burnishlaw23.ExprExtends', WHERE WHAT IT READS IS OF BULK AT MOST 1048576: true; the input reads as it did. -/
def exprExtendsUptoRow : OpenClaim := { program := "ytnhaanjpcnnifaadoor", sum := "11a45ba31bf6ddb85135efd4a49251fec8e2e178e2dd228ff9bca4eb6462198a", func := "burnish/burnishlaw23.ExprExtends", spec := "exprExtends", inPlace := ["internal/abi.NoEscape"], unfollowed := true, recurses := true, named := ["burnish/opcode.rules", "burnish/intn.widths", "internal/strconv.uint64pow10", "math/bits.deBruijn32tab", "math/bits.deBruijn64tab", "burnish/opcode.names", "burnish/opcode.typeNames"], apart := false, laid := [("burnish/intn.widths", laid_burnish_intn_widths), ("burnish/opcode.names", laid_burnish_opcode_names), ("burnish/opcode.typeNames", laid_burnish_opcode_typeNames), ("burnish/opcode.rules", laid_burnish_opcode_rules), ("math/bits.deBruijn32tab", laid_math_bits_deBruijn32tab), ("math/bits.deBruijn64tab", laid_math_bits_deBruijn64tab), ("internal/strconv.uint64pow10", laid_internal_strconv_uint64pow10)], narrowed := true }
def ExprExtendsUptoSaid : Prop := exprExtendsUptoRow.holds Tryd.pinned (OpenSpec.upto exprExtendsSpec)

end Rows
end Go.Proofs.YtnhaanjpcnnifaaDoor

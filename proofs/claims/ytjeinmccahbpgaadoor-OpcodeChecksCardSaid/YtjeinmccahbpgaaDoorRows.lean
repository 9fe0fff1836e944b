/-
  NARROWER THAN 'FOR EVERY INPUT', by the rows' own cells (each row's printed sentence says how): ValueMakes: laid · ValueValid: laid · ValueIntegers: laid · ValueOrder: laid · ValueMonotone: laid · ValueFormat: laid · OpcodeTells: laid · OpcodeChecks: laid · OpcodeNames: laid · OpcodeOnce: laid.
  DERIVED. THE GIVEN ROWS OF THIS SEAT. 10 by the template 'for every input the law returns true; each argument reads behind the call as it read before'; 0 by the template 'total and deterministic' (their statements: YtjeinmccahbpgaaDoorTotals.lean).
  GIVEN WITH THE SEED: the statements are not yours to turn. If you find one false, say at which input.
  Laid BY PROGRAM, IN A SANDBOX (cutbox-rows.mjs): the forced cells as the released guide's own fill.sh prints them over the translation 5e06896882277a5d… (all of the seat's roots in one cut). By AI agents, Wed Nov 11 2026. No macro, syntax, notation, axiom, sorry.
-/
import Derived.Test.YtjeinmccahbpgaaDoorChecked
import GoSem.Claim
import GoSem.ClaimJoined
import GoSem.ClaimMapViews
import Derived.JoinedTies
import Derived.KernelRfl
namespace Go.Proofs.YtjeinmccahbpgaaDoor
/- THE CELL 'sum', in the pinned program and in every row, IS THE sha256 OF THE DUMP (.gsa) THAT YtjeinmccahbpgaaDoorProg.lean LOADS. Nothing in Lean hashes anything: it is a label: what it is worth is what the hold of that sum in a sandbox is worth. -/
noncomputable def Tryd.pinned : Pinned := { name := "ytjeinmccahbpgaadoor", sum := "5e06896882277a5d859ef758eb1e7eacf05c06473617083a1fd30d3d4a6f6b95", checked := Tryd.checked }
namespace Rows
def none {H : Type} : Left H := { results := [], args := [] }

/- WHAT THE LISTED PACKAGE-LEVEL VARIABLES READ AS WHEN THE CALL BEGINS. Each datum BY PROGRAM (the guide's laid-datum.mjs) off the statement by which the dump's own 'gosem.cut.vars' lays the variable. In a bare row this is a premise. The card (YtjeinmccahbpgaaDoorCards.lean) ties it to the program's text. -/
def laid_burnish_intn_widths {H : Type} : DataW H := .agg [.lit (.int .i64 0), .lit (.int .i64 1), .lit (.int .i64 8), .lit (.int .i64 32), .lit (.int .i64 64)]
def laid_math_bits_deBruijn32tab {H : Type} : DataW H := .agg [.lit (.int .u8 0), .lit (.int .u8 1), .lit (.int .u8 28), .lit (.int .u8 2), .lit (.int .u8 29), .lit (.int .u8 14), .lit (.int .u8 24), .lit (.int .u8 3), .lit (.int .u8 30), .lit (.int .u8 22), .lit (.int .u8 20), .lit (.int .u8 15), .lit (.int .u8 25), .lit (.int .u8 17), .lit (.int .u8 4), .lit (.int .u8 8), .lit (.int .u8 31), .lit (.int .u8 27), .lit (.int .u8 13), .lit (.int .u8 23), .lit (.int .u8 21), .lit (.int .u8 19), .lit (.int .u8 16), .lit (.int .u8 7), .lit (.int .u8 26), .lit (.int .u8 12), .lit (.int .u8 18), .lit (.int .u8 6), .lit (.int .u8 11), .lit (.int .u8 5), .lit (.int .u8 10), .lit (.int .u8 9)]
def laid_math_bits_deBruijn64tab {H : Type} : DataW H := .agg [.lit (.int .u8 0), .lit (.int .u8 1), .lit (.int .u8 56), .lit (.int .u8 2), .lit (.int .u8 57), .lit (.int .u8 49), .lit (.int .u8 28), .lit (.int .u8 3), .lit (.int .u8 61), .lit (.int .u8 58), .lit (.int .u8 42), .lit (.int .u8 50), .lit (.int .u8 38), .lit (.int .u8 29), .lit (.int .u8 17), .lit (.int .u8 4), .lit (.int .u8 62), .lit (.int .u8 47), .lit (.int .u8 59), .lit (.int .u8 36), .lit (.int .u8 45), .lit (.int .u8 43), .lit (.int .u8 51), .lit (.int .u8 22), .lit (.int .u8 53), .lit (.int .u8 39), .lit (.int .u8 33), .lit (.int .u8 30), .lit (.int .u8 24), .lit (.int .u8 18), .lit (.int .u8 12), .lit (.int .u8 5), .lit (.int .u8 63), .lit (.int .u8 55), .lit (.int .u8 48), .lit (.int .u8 27), .lit (.int .u8 60), .lit (.int .u8 41), .lit (.int .u8 37), .lit (.int .u8 16), .lit (.int .u8 46), .lit (.int .u8 35), .lit (.int .u8 44), .lit (.int .u8 21), .lit (.int .u8 52), .lit (.int .u8 32), .lit (.int .u8 23), .lit (.int .u8 11), .lit (.int .u8 54), .lit (.int .u8 26), .lit (.int .u8 40), .lit (.int .u8 15), .lit (.int .u8 34), .lit (.int .u8 20), .lit (.int .u8 31), .lit (.int .u8 10), .lit (.int .u8 25), .lit (.int .u8 14), .lit (.int .u8 19), .lit (.int .u8 9), .lit (.int .u8 13), .lit (.int .u8 8), .lit (.int .u8 7), .lit (.int .u8 6)]
def laid_internal_strconv_uint64pow10 {H : Type} : DataW H := .agg [.lit (.int .u64 1), .lit (.int .u64 10), .lit (.int .u64 100), .lit (.int .u64 1000), .lit (.int .u64 10000), .lit (.int .u64 100000), .lit (.int .u64 1000000), .lit (.int .u64 10000000), .lit (.int .u64 100000000), .lit (.int .u64 1000000000), .lit (.int .u64 10000000000), .lit (.int .u64 100000000000), .lit (.int .u64 1000000000000), .lit (.int .u64 10000000000000), .lit (.int .u64 100000000000000), .lit (.int .u64 1000000000000000), .lit (.int .u64 10000000000000000), .lit (.int .u64 100000000000000000), .lit (.int .u64 1000000000000000000), .lit (.int .u64 10000000000000000000)]
def laid_burnish_value_typeNames {H : Type} : DataW H := .agg [.lit (.string []), .lit (.string [98, 111, 111, 108]), .lit (.string [105, 56]), .lit (.string [105, 51, 50]), .lit (.string [105, 54, 52]), .lit (.string [112, 116, 114]), .lit (.string [118, 50]), .lit (.string [118, 52])]
def laid_burnish_opcode_names {H : Type} : DataW H := .agg [.lit (.string []), .lit (.string [99, 111, 110, 115, 116]), .lit (.string [112, 111, 105, 115, 111, 110]), .lit (.string [102, 114, 101, 101, 122, 101]), .lit (.string [99, 111, 112, 121]), .lit (.string [97, 100, 100]), .lit (.string [115, 117, 98]), .lit (.string [109, 117, 108]), .lit (.string [97, 110, 100]), .lit (.string [111, 114]), .lit (.string [120, 111, 114]), .lit (.string [115, 104, 108]), .lit (.string [108, 115, 104, 114]), .lit (.string [97, 115, 104, 114]), .lit (.string [115, 100, 105, 118]), .lit (.string [115, 114, 101, 109]), .lit (.string [101, 113]), .lit (.string [110, 101]), .lit (.string [115, 108, 116]), .lit (.string [115, 108, 101]), .lit (.string [117, 108, 116]), .lit (.string [115, 101, 108, 101, 99, 116]), .lit (.string [115, 101, 120, 116]), .lit (.string [122, 101, 120, 116]), .lit (.string [116, 114, 117, 110, 99]), .lit (.string [103, 108, 111, 98, 97, 108]), .lit (.string [97, 108, 108, 111, 99, 97]), .lit (.string [111, 102, 102, 115, 101, 116]), .lit (.string [108, 111, 97, 100]), .lit (.string [115, 116, 111, 114, 101]), .lit (.string [99, 97, 108, 108]), .lit (.string [111, 117, 116, 112, 117, 116]), .lit (.string [112, 97, 99, 107]), .lit (.string [108, 97, 110, 101])]
def laid_burnish_opcode_typeNames {H : Type} : DataW H := .agg [.lit (.string [118, 111, 105, 100]), .lit (.string [98, 111, 111, 108]), .lit (.string [105, 56]), .lit (.string [105, 51, 50]), .lit (.string [105, 54, 52]), .lit (.string [112, 116, 114]), .lit (.string [118, 50]), .lit (.string [118, 52])]
def laid_burnish_opcode_rules {H : Type} : DataW H := .agg [.agg [.lit (.int .u8 0), .agg [.lit (.int .u8 0), .lit (.int .u8 0), .lit (.int .u8 0), .lit (.int .u8 0)], .lit (.int .i64 0)], .agg [.lit (.int .u8 30), .agg [.lit (.int .u8 0), .lit (.int .u8 0), .lit (.int .u8 0), .lit (.int .u8 0)], .lit (.int .i64 0)], .agg [.lit (.int .u8 254), .agg [.lit (.int .u8 0), .lit (.int .u8 0), .lit (.int .u8 0), .lit (.int .u8 0)], .lit (.int .i64 0)], .agg [.lit (.int .u8 222), .agg [.lit (.int .u8 254), .lit (.int .u8 0), .lit (.int .u8 0), .lit (.int .u8 0)], .lit (.int .i64 2)], .agg [.lit (.int .u8 254), .agg [.lit (.int .u8 254), .lit (.int .u8 0), .lit (.int .u8 0), .lit (.int .u8 0)], .lit (.int .i64 2)], .agg [.lit (.int .u8 220), .agg [.lit (.int .u8 254), .lit (.int .u8 254), .lit (.int .u8 0), .lit (.int .u8 0)], .lit (.int .i64 2)], .agg [.lit (.int .u8 220), .agg [.lit (.int .u8 254), .lit (.int .u8 254), .lit (.int .u8 0), .lit (.int .u8 0)], .lit (.int .i64 2)], .agg [.lit (.int .u8 220), .agg [.lit (.int .u8 254), .lit (.int .u8 254), .lit (.int .u8 0), .lit (.int .u8 0)], .lit (.int .i64 2)], .agg [.lit (.int .u8 222), .agg [.lit (.int .u8 254), .lit (.int .u8 254), .lit (.int .u8 0), .lit (.int .u8 0)], .lit (.int .i64 2)], .agg [.lit (.int .u8 222), .agg [.lit (.int .u8 254), .lit (.int .u8 254), .lit (.int .u8 0), .lit (.int .u8 0)], .lit (.int .i64 2)], .agg [.lit (.int .u8 222), .agg [.lit (.int .u8 254), .lit (.int .u8 254), .lit (.int .u8 0), .lit (.int .u8 0)], .lit (.int .i64 2)], .agg [.lit (.int .u8 28), .agg [.lit (.int .u8 254), .lit (.int .u8 254), .lit (.int .u8 0), .lit (.int .u8 0)], .lit (.int .i64 2)], .agg [.lit (.int .u8 28), .agg [.lit (.int .u8 254), .lit (.int .u8 254), .lit (.int .u8 0), .lit (.int .u8 0)], .lit (.int .i64 2)], .agg [.lit (.int .u8 28), .agg [.lit (.int .u8 254), .lit (.int .u8 254), .lit (.int .u8 0), .lit (.int .u8 0)], .lit (.int .i64 2)], .agg [.lit (.int .u8 28), .agg [.lit (.int .u8 254), .lit (.int .u8 254), .lit (.int .u8 0), .lit (.int .u8 0)], .lit (.int .i64 2)], .agg [.lit (.int .u8 28), .agg [.lit (.int .u8 254), .lit (.int .u8 254), .lit (.int .u8 0), .lit (.int .u8 0)], .lit (.int .i64 2)], .agg [.lit (.int .u8 2), .agg [.lit (.int .u8 62), .lit (.int .u8 62), .lit (.int .u8 0), .lit (.int .u8 0)], .lit (.int .i64 1)], .agg [.lit (.int .u8 2), .agg [.lit (.int .u8 62), .lit (.int .u8 62), .lit (.int .u8 0), .lit (.int .u8 0)], .lit (.int .i64 1)], .agg [.lit (.int .u8 2), .agg [.lit (.int .u8 28), .lit (.int .u8 28), .lit (.int .u8 0), .lit (.int .u8 0)], .lit (.int .i64 1)], .agg [.lit (.int .u8 2), .agg [.lit (.int .u8 28), .lit (.int .u8 28), .lit (.int .u8 0), .lit (.int .u8 0)], .lit (.int .i64 1)], .agg [.lit (.int .u8 2), .agg [.lit (.int .u8 28), .lit (.int .u8 28), .lit (.int .u8 0), .lit (.int .u8 0)], .lit (.int .i64 1)], .agg [.lit (.int .u8 254), .agg [.lit (.int .u8 2), .lit (.int .u8 254), .lit (.int .u8 254), .lit (.int .u8 0)], .lit (.int .i64 3)], .agg [.lit (.int .u8 24), .agg [.lit (.int .u8 12), .lit (.int .u8 0), .lit (.int .u8 0), .lit (.int .u8 0)], .lit (.int .i64 4)], .agg [.lit (.int .u8 28), .agg [.lit (.int .u8 14), .lit (.int .u8 0), .lit (.int .u8 0), .lit (.int .u8 0)], .lit (.int .i64 4)], .agg [.lit (.int .u8 30), .agg [.lit (.int .u8 28), .lit (.int .u8 0), .lit (.int .u8 0), .lit (.int .u8 0)], .lit (.int .i64 5)], .agg [.lit (.int .u8 32), .agg [.lit (.int .u8 0), .lit (.int .u8 0), .lit (.int .u8 0), .lit (.int .u8 0)], .lit (.int .i64 0)], .agg [.lit (.int .u8 32), .agg [.lit (.int .u8 0), .lit (.int .u8 0), .lit (.int .u8 0), .lit (.int .u8 0)], .lit (.int .i64 0)], .agg [.lit (.int .u8 32), .agg [.lit (.int .u8 32), .lit (.int .u8 16), .lit (.int .u8 0), .lit (.int .u8 0)], .lit (.int .i64 0)], .agg [.lit (.int .u8 252), .agg [.lit (.int .u8 32), .lit (.int .u8 0), .lit (.int .u8 0), .lit (.int .u8 0)], .lit (.int .i64 0)], .agg [.lit (.int .u8 1), .agg [.lit (.int .u8 32), .lit (.int .u8 252), .lit (.int .u8 0), .lit (.int .u8 0)], .lit (.int .i64 0)], .agg [.lit (.int .u8 0), .agg [.lit (.int .u8 0), .lit (.int .u8 0), .lit (.int .u8 0), .lit (.int .u8 0)], .lit (.int .i64 0)], .agg [.lit (.int .u8 1), .agg [.lit (.int .u8 254), .lit (.int .u8 0), .lit (.int .u8 0), .lit (.int .u8 0)], .lit (.int .i64 0)], .agg [.lit (.int .u8 192), .agg [.lit (.int .u8 8), .lit (.int .u8 8), .lit (.int .u8 8), .lit (.int .u8 8)], .lit (.int .i64 6)], .agg [.lit (.int .u8 8), .agg [.lit (.int .u8 192), .lit (.int .u8 0), .lit (.int .u8 0), .lit (.int .u8 0)], .lit (.int .i64 0)]]

/-- 'burnishlaw11.ValueMakes': WHATEVER THE INPUT: true; the input reads as it did. -/
def valueMakesSpec : ChangeSpec := { name := "valueMakes", fn := fun _ => fun
  | [d1, d2, d3] => { results := [.lit (.bool true)], args := [d1, d2, d3] }
  | _ => none }
def valueMakesRow : OpenClaim := { program := "ytjeinmccahbpgaadoor", sum := "5e06896882277a5d859ef758eb1e7eacf05c06473617083a1fd30d3d4a6f6b95", func := "burnish/burnishlaw11.ValueMakes", spec := "valueMakes", unfollowed := true, recurses := true, named := ["burnish/intn.widths", "burnish/value.typeNames", "internal/strconv.uint64pow10", "math/bits.deBruijn32tab", "math/bits.deBruijn64tab"], apart := false, laid := [("burnish/intn.widths", laid_burnish_intn_widths), ("math/bits.deBruijn32tab", laid_math_bits_deBruijn32tab), ("math/bits.deBruijn64tab", laid_math_bits_deBruijn64tab), ("internal/strconv.uint64pow10", laid_internal_strconv_uint64pow10), ("burnish/value.typeNames", laid_burnish_value_typeNames)] }
def ValueMakesSaid : Prop := valueMakesRow.holds Tryd.pinned (OpenSpec.ofChange valueMakesSpec)

/-- ITS FALSE NEIGHBOUR: 'it returns false'. Refute it at one input. -/
def valueMakesWrong : ChangeSpec := { name := "valueMakes", fn := fun _ => fun
  | [d1, d2, d3] => { results := [.lit (.bool false)], args := [d1, d2, d3] }
  | _ => none }
def ValueMakesWrongFalsely : Prop := valueMakesRow.holds Tryd.pinned (OpenSpec.ofChange valueMakesWrong)

/-- 'burnishlaw11.ValueValid': WHATEVER THE INPUT: true; the input reads as it did. -/
def valueValidSpec : ChangeSpec := { name := "valueValid", fn := fun _ => fun
  | [d1, d2] => { results := [.lit (.bool true)], args := [d1, d2] }
  | _ => none }
def valueValidRow : OpenClaim := { program := "ytjeinmccahbpgaadoor", sum := "5e06896882277a5d859ef758eb1e7eacf05c06473617083a1fd30d3d4a6f6b95", func := "burnish/burnishlaw11.ValueValid", spec := "valueValid", unfollowed := true, recurses := true, named := ["burnish/intn.widths", "burnish/value.typeNames", "internal/strconv.uint64pow10", "math/bits.deBruijn32tab", "math/bits.deBruijn64tab"], apart := false, laid := [("burnish/intn.widths", laid_burnish_intn_widths), ("math/bits.deBruijn32tab", laid_math_bits_deBruijn32tab), ("math/bits.deBruijn64tab", laid_math_bits_deBruijn64tab), ("internal/strconv.uint64pow10", laid_internal_strconv_uint64pow10), ("burnish/value.typeNames", laid_burnish_value_typeNames)] }
def ValueValidSaid : Prop := valueValidRow.holds Tryd.pinned (OpenSpec.ofChange valueValidSpec)

/-- ITS FALSE NEIGHBOUR: 'it returns false'. Refute it at one input. -/
def valueValidWrong : ChangeSpec := { name := "valueValid", fn := fun _ => fun
  | [d1, d2] => { results := [.lit (.bool false)], args := [d1, d2] }
  | _ => none }
def ValueValidWrongFalsely : Prop := valueValidRow.holds Tryd.pinned (OpenSpec.ofChange valueValidWrong)

/-- 'burnishlaw11.ValueIntegers': WHATEVER THE INPUT: true; the input reads as it did. -/
def valueIntegersSpec : ChangeSpec := { name := "valueIntegers", fn := fun _ => fun
  | [d1, d2, d3] => { results := [.lit (.bool true)], args := [d1, d2, d3] }
  | _ => none }
def valueIntegersRow : OpenClaim := { program := "ytjeinmccahbpgaadoor", sum := "5e06896882277a5d859ef758eb1e7eacf05c06473617083a1fd30d3d4a6f6b95", func := "burnish/burnishlaw11.ValueIntegers", spec := "valueIntegers", unfollowed := true, recurses := true, named := ["burnish/intn.widths", "burnish/value.typeNames", "internal/strconv.uint64pow10", "math/bits.deBruijn32tab", "math/bits.deBruijn64tab"], apart := false, laid := [("burnish/intn.widths", laid_burnish_intn_widths), ("math/bits.deBruijn32tab", laid_math_bits_deBruijn32tab), ("math/bits.deBruijn64tab", laid_math_bits_deBruijn64tab), ("internal/strconv.uint64pow10", laid_internal_strconv_uint64pow10), ("burnish/value.typeNames", laid_burnish_value_typeNames)] }
def ValueIntegersSaid : Prop := valueIntegersRow.holds Tryd.pinned (OpenSpec.ofChange valueIntegersSpec)

/-- ITS FALSE NEIGHBOUR: 'it returns false'. Refute it at one input. -/
def valueIntegersWrong : ChangeSpec := { name := "valueIntegers", fn := fun _ => fun
  | [d1, d2, d3] => { results := [.lit (.bool false)], args := [d1, d2, d3] }
  | _ => none }
def ValueIntegersWrongFalsely : Prop := valueIntegersRow.holds Tryd.pinned (OpenSpec.ofChange valueIntegersWrong)

/-- 'burnishlaw11.ValueOrder': WHATEVER THE INPUT: true; the input reads as it did. -/
def valueOrderSpec : ChangeSpec := { name := "valueOrder", fn := fun _ => fun
  | [d1, d2, d3] => { results := [.lit (.bool true)], args := [d1, d2, d3] }
  | _ => none }
def valueOrderRow : OpenClaim := { program := "ytjeinmccahbpgaadoor", sum := "5e06896882277a5d859ef758eb1e7eacf05c06473617083a1fd30d3d4a6f6b95", func := "burnish/burnishlaw11.ValueOrder", spec := "valueOrder", unfollowed := true, recurses := true, named := ["burnish/intn.widths", "burnish/value.typeNames", "internal/strconv.uint64pow10", "math/bits.deBruijn32tab", "math/bits.deBruijn64tab"], apart := false, laid := [("burnish/intn.widths", laid_burnish_intn_widths), ("math/bits.deBruijn32tab", laid_math_bits_deBruijn32tab), ("math/bits.deBruijn64tab", laid_math_bits_deBruijn64tab), ("internal/strconv.uint64pow10", laid_internal_strconv_uint64pow10), ("burnish/value.typeNames", laid_burnish_value_typeNames)] }
def ValueOrderSaid : Prop := valueOrderRow.holds Tryd.pinned (OpenSpec.ofChange valueOrderSpec)

/-- ITS FALSE NEIGHBOUR: 'it returns false'. Refute it at one input. -/
def valueOrderWrong : ChangeSpec := { name := "valueOrder", fn := fun _ => fun
  | [d1, d2, d3] => { results := [.lit (.bool false)], args := [d1, d2, d3] }
  | _ => none }
def ValueOrderWrongFalsely : Prop := valueOrderRow.holds Tryd.pinned (OpenSpec.ofChange valueOrderWrong)

/-- 'burnishlaw11.ValueMonotone': WHATEVER THE INPUT: true; the input reads as it did. -/
def valueMonotoneSpec : ChangeSpec := { name := "valueMonotone", fn := fun _ => fun
  | [d1, d2, d3] => { results := [.lit (.bool true)], args := [d1, d2, d3] }
  | _ => none }
def valueMonotoneRow : OpenClaim := { program := "ytjeinmccahbpgaadoor", sum := "5e06896882277a5d859ef758eb1e7eacf05c06473617083a1fd30d3d4a6f6b95", func := "burnish/burnishlaw11.ValueMonotone", spec := "valueMonotone", unfollowed := true, recurses := true, named := ["burnish/intn.widths", "burnish/value.typeNames", "internal/strconv.uint64pow10", "math/bits.deBruijn32tab", "math/bits.deBruijn64tab"], apart := false, laid := [("burnish/intn.widths", laid_burnish_intn_widths), ("math/bits.deBruijn32tab", laid_math_bits_deBruijn32tab), ("math/bits.deBruijn64tab", laid_math_bits_deBruijn64tab), ("internal/strconv.uint64pow10", laid_internal_strconv_uint64pow10), ("burnish/value.typeNames", laid_burnish_value_typeNames)] }
def ValueMonotoneSaid : Prop := valueMonotoneRow.holds Tryd.pinned (OpenSpec.ofChange valueMonotoneSpec)

/-- ITS FALSE NEIGHBOUR: 'it returns false'. Refute it at one input. -/
def valueMonotoneWrong : ChangeSpec := { name := "valueMonotone", fn := fun _ => fun
  | [d1, d2, d3] => { results := [.lit (.bool false)], args := [d1, d2, d3] }
  | _ => none }
def ValueMonotoneWrongFalsely : Prop := valueMonotoneRow.holds Tryd.pinned (OpenSpec.ofChange valueMonotoneWrong)

/-- 'burnishlaw11.ValueFormat': WHATEVER THE INPUT: true; the input reads as it did. -/
def valueFormatSpec : ChangeSpec := { name := "valueFormat", fn := fun _ => fun
  | [d1, d2] => { results := [.lit (.bool true)], args := [d1, d2] }
  | _ => none }
def valueFormatRow : OpenClaim := { program := "ytjeinmccahbpgaadoor", sum := "5e06896882277a5d859ef758eb1e7eacf05c06473617083a1fd30d3d4a6f6b95", func := "burnish/burnishlaw11.ValueFormat", spec := "valueFormat", unfollowed := true, recurses := true, named := ["burnish/value.typeNames", "burnish/intn.widths", "internal/strconv.uint64pow10", "math/bits.deBruijn32tab", "math/bits.deBruijn64tab"], apart := false, laid := [("burnish/intn.widths", laid_burnish_intn_widths), ("math/bits.deBruijn32tab", laid_math_bits_deBruijn32tab), ("math/bits.deBruijn64tab", laid_math_bits_deBruijn64tab), ("internal/strconv.uint64pow10", laid_internal_strconv_uint64pow10), ("burnish/value.typeNames", laid_burnish_value_typeNames)] }
def ValueFormatSaid : Prop := valueFormatRow.holds Tryd.pinned (OpenSpec.ofChange valueFormatSpec)

/-- ITS FALSE NEIGHBOUR: 'it returns false'. Refute it at one input. -/
def valueFormatWrong : ChangeSpec := { name := "valueFormat", fn := fun _ => fun
  | [d1, d2] => { results := [.lit (.bool false)], args := [d1, d2] }
  | _ => none }
def ValueFormatWrongFalsely : Prop := valueFormatRow.holds Tryd.pinned (OpenSpec.ofChange valueFormatWrong)

/-- 'burnishlaw12.OpcodeTells': WHATEVER THE INPUT: true; the input reads as it did. -/
def opcodeTellsSpec : ChangeSpec := { name := "opcodeTells", fn := fun _ => fun
  | [d1, d2, d3] => { results := [.lit (.bool true)], args := [d1, d2, d3] }
  | _ => none }
def opcodeTellsRow : OpenClaim := { program := "ytjeinmccahbpgaadoor", sum := "5e06896882277a5d859ef758eb1e7eacf05c06473617083a1fd30d3d4a6f6b95", func := "burnish/burnishlaw12.OpcodeTells", spec := "opcodeTells", named := ["burnish/opcode.names", "burnish/opcode.typeNames", "burnish/opcode.rules", "burnish/intn.widths"], apart := false, laid := [("burnish/intn.widths", laid_burnish_intn_widths), ("burnish/opcode.names", laid_burnish_opcode_names), ("burnish/opcode.typeNames", laid_burnish_opcode_typeNames), ("burnish/opcode.rules", laid_burnish_opcode_rules)] }
def OpcodeTellsSaid : Prop := opcodeTellsRow.holds Tryd.pinned (OpenSpec.ofChange opcodeTellsSpec)

/-- ITS FALSE NEIGHBOUR: 'it returns false'. Refute it at one input. -/
def opcodeTellsWrong : ChangeSpec := { name := "opcodeTells", fn := fun _ => fun
  | [d1, d2, d3] => { results := [.lit (.bool false)], args := [d1, d2, d3] }
  | _ => none }
def OpcodeTellsWrongFalsely : Prop := opcodeTellsRow.holds Tryd.pinned (OpenSpec.ofChange opcodeTellsWrong)

/-- 'burnishlaw12.OpcodeChecks': WHATEVER THE INPUT: true; the input reads as it did. -/
def opcodeChecksSpec : ChangeSpec := { name := "opcodeChecks", fn := fun _ => fun
  | [d1, d2, d3] => { results := [.lit (.bool true)], args := [d1, d2, d3] }
  | _ => none }
def opcodeChecksRow : OpenClaim := { program := "ytjeinmccahbpgaadoor", sum := "5e06896882277a5d859ef758eb1e7eacf05c06473617083a1fd30d3d4a6f6b95", func := "burnish/burnishlaw12.OpcodeChecks", spec := "opcodeChecks", named := ["burnish/opcode.rules", "burnish/intn.widths", "burnish/opcode.names", "burnish/opcode.typeNames"], apart := false, laid := [("burnish/intn.widths", laid_burnish_intn_widths), ("burnish/opcode.names", laid_burnish_opcode_names), ("burnish/opcode.typeNames", laid_burnish_opcode_typeNames), ("burnish/opcode.rules", laid_burnish_opcode_rules)] }
def OpcodeChecksSaid : Prop := opcodeChecksRow.holds Tryd.pinned (OpenSpec.ofChange opcodeChecksSpec)

/-- ITS FALSE NEIGHBOUR: 'it returns false'. Refute it at one input. -/
def opcodeChecksWrong : ChangeSpec := { name := "opcodeChecks", fn := fun _ => fun
  | [d1, d2, d3] => { results := [.lit (.bool false)], args := [d1, d2, d3] }
  | _ => none }
def OpcodeChecksWrongFalsely : Prop := opcodeChecksRow.holds Tryd.pinned (OpenSpec.ofChange opcodeChecksWrong)

/-- 'burnishlaw12.OpcodeNames': WHATEVER THE INPUT: true; the input reads as it did. -/
def opcodeNamesSpec : ChangeSpec := { name := "opcodeNames", fn := fun _ => fun
  | [] => { results := [.lit (.bool true)], args := [] }
  | _ => none }
def opcodeNamesRow : OpenClaim := { program := "ytjeinmccahbpgaadoor", sum := "5e06896882277a5d859ef758eb1e7eacf05c06473617083a1fd30d3d4a6f6b95", func := "burnish/burnishlaw12.OpcodeNames", spec := "opcodeNames", named := ["burnish/opcode.rules", "burnish/intn.widths", "burnish/opcode.names", "burnish/opcode.typeNames"], apart := false, laid := [("burnish/intn.widths", laid_burnish_intn_widths), ("burnish/opcode.names", laid_burnish_opcode_names), ("burnish/opcode.typeNames", laid_burnish_opcode_typeNames), ("burnish/opcode.rules", laid_burnish_opcode_rules)] }
def OpcodeNamesSaid : Prop := opcodeNamesRow.holds Tryd.pinned (OpenSpec.ofChange opcodeNamesSpec)

/-- ITS FALSE NEIGHBOUR: 'it returns false'. Refute it at one input. -/
def opcodeNamesWrong : ChangeSpec := { name := "opcodeNames", fn := fun _ => fun
  | [] => { results := [.lit (.bool false)], args := [] }
  | _ => none }
def OpcodeNamesWrongFalsely : Prop := opcodeNamesRow.holds Tryd.pinned (OpenSpec.ofChange opcodeNamesWrong)

/-- 'burnishlaw12.OpcodeOnce': WHATEVER THE INPUT: true; the input reads as it did. -/
def opcodeOnceSpec : ChangeSpec := { name := "opcodeOnce", fn := fun _ => fun
  | [d1, d2, d3, d4] => { results := [.lit (.bool true)], args := [d1, d2, d3, d4] }
  | _ => none }
def opcodeOnceRow : OpenClaim := { program := "ytjeinmccahbpgaadoor", sum := "5e06896882277a5d859ef758eb1e7eacf05c06473617083a1fd30d3d4a6f6b95", func := "burnish/burnishlaw12.OpcodeOnce", spec := "opcodeOnce", named := ["burnish/opcode.rules", "burnish/intn.widths", "burnish/opcode.names", "burnish/opcode.typeNames"], apart := false, laid := [("burnish/intn.widths", laid_burnish_intn_widths), ("burnish/opcode.names", laid_burnish_opcode_names), ("burnish/opcode.typeNames", laid_burnish_opcode_typeNames), ("burnish/opcode.rules", laid_burnish_opcode_rules)] }
def OpcodeOnceSaid : Prop := opcodeOnceRow.holds Tryd.pinned (OpenSpec.ofChange opcodeOnceSpec)

/-- ITS FALSE NEIGHBOUR: 'it returns false'. Refute it at one input. -/
def opcodeOnceWrong : ChangeSpec := { name := "opcodeOnce", fn := fun _ => fun
  | [d1, d2, d3, d4] => { results := [.lit (.bool false)], args := [d1, d2, d3, d4] }
  | _ => none }
def OpcodeOnceWrongFalsely : Prop := opcodeOnceRow.holds Tryd.pinned (OpenSpec.ofChange opcodeOnceWrong)

/- THE SECOND FORM. 'bulk': how many values and letters a reading holds, each counted each time it is reached (what is shared counts as often as it is met; a slice's spare places count too). A statement '..UptoSaid' is the law's where the arguments, and the package variables that the reading takes, are together of bulk at most 1048576: NARROWER than '..Said'. Prove '..Said' where nothing that the law and all that it calls make is longer than what came in: it says more and counts as full. Else prove '..UptoSaid'. A law counts once. -/
mutual
def uptoBulk {H : Type} : DataW H → Nat
  | .lit (.string bytes) => bytes.length + 1
  | .lit _ => 1
  | .nil => 1
  | .ptr d => uptoBulk d + 1
  | .slice elems spare => uptoBulkAll elems + uptoBulkAll spare + 1
  | .agg parts => uptoBulkAll parts + 1
  | .iface _ d => uptoBulk d + 1
  | .map entries => uptoBulkEntries entries + 1
  | .held _ => 1
def uptoBulkAll {H : Type} : List (DataW H) → Nat
  | [] => 0
  | d :: r => uptoBulk d + uptoBulkAll r
def uptoBulkEntries {H : Type} : List (Lit × DataW H) → Nat
  | [] => 0
  | x :: r => uptoBulkEntry x + uptoBulkEntries r
def uptoBulkEntry {H : Type} : Lit × DataW H → Nat
  | (.string bytes, d) => bytes.length + uptoBulk d + 1
  | (_, d) => uptoBulk d + 1
 end
def uptoSmall : (H : Type) → List (DataW H) → Bool := fun _ ds => decide (uptoBulkAll ds ≤ 1048576)
def OpenSpec.upto (s : _root_.Go.ChangeSpec) : _root_.Go.OpenSpec := { _root_.Go.OpenSpec.ofChange s with cond := some uptoSmall }

/-- 'burnishlaw11.ValueMakes', WHERE WHAT IT READS IS OF BULK AT MOST 1048576: true; the input reads as it did. -/
def valueMakesUptoRow : OpenClaim := { program := "ytjeinmccahbpgaadoor", sum := "5e06896882277a5d859ef758eb1e7eacf05c06473617083a1fd30d3d4a6f6b95", func := "burnish/burnishlaw11.ValueMakes", spec := "valueMakes", unfollowed := true, recurses := true, named := ["burnish/intn.widths", "burnish/value.typeNames", "internal/strconv.uint64pow10", "math/bits.deBruijn32tab", "math/bits.deBruijn64tab"], apart := false, laid := [("burnish/intn.widths", laid_burnish_intn_widths), ("math/bits.deBruijn32tab", laid_math_bits_deBruijn32tab), ("math/bits.deBruijn64tab", laid_math_bits_deBruijn64tab), ("internal/strconv.uint64pow10", laid_internal_strconv_uint64pow10), ("burnish/value.typeNames", laid_burnish_value_typeNames)], narrowed := true }
def ValueMakesUptoSaid : Prop := valueMakesUptoRow.holds Tryd.pinned (OpenSpec.upto valueMakesSpec)

/-- 'burnishlaw11.ValueValid', WHERE WHAT IT READS IS OF BULK AT MOST 1048576: true; the input reads as it did. -/
def valueValidUptoRow : OpenClaim := { program := "ytjeinmccahbpgaadoor", sum := "5e06896882277a5d859ef758eb1e7eacf05c06473617083a1fd30d3d4a6f6b95", func := "burnish/burnishlaw11.ValueValid", spec := "valueValid", unfollowed := true, recurses := true, named := ["burnish/intn.widths", "burnish/value.typeNames", "internal/strconv.uint64pow10", "math/bits.deBruijn32tab", "math/bits.deBruijn64tab"], apart := false, laid := [("burnish/intn.widths", laid_burnish_intn_widths), ("math/bits.deBruijn32tab", laid_math_bits_deBruijn32tab), ("math/bits.deBruijn64tab", laid_math_bits_deBruijn64tab), ("internal/strconv.uint64pow10", laid_internal_strconv_uint64pow10), ("burnish/value.typeNames", laid_burnish_value_typeNames)], narrowed := true }
def ValueValidUptoSaid : Prop := valueValidUptoRow.holds Tryd.pinned (OpenSpec.upto valueValidSpec)

/-- 'burnishlaw11.ValueIntegers', WHERE WHAT IT READS IS OF BULK AT MOST 1048576: true; the input reads as it did. -/
def valueIntegersUptoRow : OpenClaim := { program := "ytjeinmccahbpgaadoor", sum := "5e06896882277a5d859ef758eb1e7eacf05c06473617083a1fd30d3d4a6f6b95", func := "burnish/burnishlaw11.ValueIntegers", spec := "valueIntegers", unfollowed := true, recurses := true, named := ["burnish/intn.widths", "burnish/value.typeNames", "internal/strconv.uint64pow10", "math/bits.deBruijn32tab", "math/bits.deBruijn64tab"], apart := false, laid := [("burnish/intn.widths", laid_burnish_intn_widths), ("math/bits.deBruijn32tab", laid_math_bits_deBruijn32tab), ("math/bits.deBruijn64tab", laid_math_bits_deBruijn64tab), ("internal/strconv.uint64pow10", laid_internal_strconv_uint64pow10), ("burnish/value.typeNames", laid_burnish_value_typeNames)], narrowed := true }
def ValueIntegersUptoSaid : Prop := valueIntegersUptoRow.holds Tryd.pinned (OpenSpec.upto valueIntegersSpec)

/-- 'burnishlaw11.ValueOrder', WHERE WHAT IT READS IS OF BULK AT MOST 1048576: true; the input reads as it did. -/
def valueOrderUptoRow : OpenClaim := { program := "ytjeinmccahbpgaadoor", sum := "5e06896882277a5d859ef758eb1e7eacf05c06473617083a1fd30d3d4a6f6b95", func := "burnish/burnishlaw11.ValueOrder", spec := "valueOrder", unfollowed := true, recurses := true, named := ["burnish/intn.widths", "burnish/value.typeNames", "internal/strconv.uint64pow10", "math/bits.deBruijn32tab", "math/bits.deBruijn64tab"], apart := false, laid := [("burnish/intn.widths", laid_burnish_intn_widths), ("math/bits.deBruijn32tab", laid_math_bits_deBruijn32tab), ("math/bits.deBruijn64tab", laid_math_bits_deBruijn64tab), ("internal/strconv.uint64pow10", laid_internal_strconv_uint64pow10), ("burnish/value.typeNames", laid_burnish_value_typeNames)], narrowed := true }
def ValueOrderUptoSaid : Prop := valueOrderUptoRow.holds Tryd.pinned (OpenSpec.upto valueOrderSpec)

/-- 'burnishlaw11.ValueMonotone', WHERE WHAT IT READS IS OF BULK AT MOST 1048576: true; the input reads as it did. -/
def valueMonotoneUptoRow : OpenClaim := { program := "ytjeinmccahbpgaadoor", sum := "5e06896882277a5d859ef758eb1e7eacf05c06473617083a1fd30d3d4a6f6b95", func := "burnish/burnishlaw11.ValueMonotone", spec := "valueMonotone", unfollowed := true, recurses := true, named := ["burnish/intn.widths", "burnish/value.typeNames", "internal/strconv.uint64pow10", "math/bits.deBruijn32tab", "math/bits.deBruijn64tab"], apart := false, laid := [("burnish/intn.widths", laid_burnish_intn_widths), ("math/bits.deBruijn32tab", laid_math_bits_deBruijn32tab), ("math/bits.deBruijn64tab", laid_math_bits_deBruijn64tab), ("internal/strconv.uint64pow10", laid_internal_strconv_uint64pow10), ("burnish/value.typeNames", laid_burnish_value_typeNames)], narrowed := true }
def ValueMonotoneUptoSaid : Prop := valueMonotoneUptoRow.holds Tryd.pinned (OpenSpec.upto valueMonotoneSpec)

/-- 'burnishlaw11.ValueFormat', WHERE WHAT IT READS IS OF BULK AT MOST 1048576: true; the input reads as it did. -/
def valueFormatUptoRow : OpenClaim := { program := "ytjeinmccahbpgaadoor", sum := "5e06896882277a5d859ef758eb1e7eacf05c06473617083a1fd30d3d4a6f6b95", func := "burnish/burnishlaw11.ValueFormat", spec := "valueFormat", unfollowed := true, recurses := true, named := ["burnish/value.typeNames", "burnish/intn.widths", "internal/strconv.uint64pow10", "math/bits.deBruijn32tab", "math/bits.deBruijn64tab"], apart := false, laid := [("burnish/intn.widths", laid_burnish_intn_widths), ("math/bits.deBruijn32tab", laid_math_bits_deBruijn32tab), ("math/bits.deBruijn64tab", laid_math_bits_deBruijn64tab), ("internal/strconv.uint64pow10", laid_internal_strconv_uint64pow10), ("burnish/value.typeNames", laid_burnish_value_typeNames)], narrowed := true }
def ValueFormatUptoSaid : Prop := valueFormatUptoRow.holds Tryd.pinned (OpenSpec.upto valueFormatSpec)

/-- 'burnishlaw12.OpcodeTells', WHERE WHAT IT READS IS OF BULK AT MOST 1048576: true; the input reads as it did. -/
def opcodeTellsUptoRow : OpenClaim := { program := "ytjeinmccahbpgaadoor", sum := "5e06896882277a5d859ef758eb1e7eacf05c06473617083a1fd30d3d4a6f6b95", func := "burnish/burnishlaw12.OpcodeTells", spec := "opcodeTells", named := ["burnish/opcode.names", "burnish/opcode.typeNames", "burnish/opcode.rules", "burnish/intn.widths"], apart := false, laid := [("burnish/intn.widths", laid_burnish_intn_widths), ("burnish/opcode.names", laid_burnish_opcode_names), ("burnish/opcode.typeNames", laid_burnish_opcode_typeNames), ("burnish/opcode.rules", laid_burnish_opcode_rules)], narrowed := true }
def OpcodeTellsUptoSaid : Prop := opcodeTellsUptoRow.holds Tryd.pinned (OpenSpec.upto opcodeTellsSpec)

/-- 'burnishlaw12.OpcodeChecks', WHERE WHAT IT READS IS OF BULK AT MOST 1048576: true; the input reads as it did. -/
def opcodeChecksUptoRow : OpenClaim := { program := "ytjeinmccahbpgaadoor", sum := "5e06896882277a5d859ef758eb1e7eacf05c06473617083a1fd30d3d4a6f6b95", func := "burnish/burnishlaw12.OpcodeChecks", spec := "opcodeChecks", named := ["burnish/opcode.rules", "burnish/intn.widths", "burnish/opcode.names", "burnish/opcode.typeNames"], apart := false, laid := [("burnish/intn.widths", laid_burnish_intn_widths), ("burnish/opcode.names", laid_burnish_opcode_names), ("burnish/opcode.typeNames", laid_burnish_opcode_typeNames), ("burnish/opcode.rules", laid_burnish_opcode_rules)], narrowed := true }
def OpcodeChecksUptoSaid : Prop := opcodeChecksUptoRow.holds Tryd.pinned (OpenSpec.upto opcodeChecksSpec)

/-- 'burnishlaw12.OpcodeNames', WHERE WHAT IT READS IS OF BULK AT MOST 1048576: true; the input reads as it did. -/
def opcodeNamesUptoRow : OpenClaim := { program := "ytjeinmccahbpgaadoor", sum := "5e06896882277a5d859ef758eb1e7eacf05c06473617083a1fd30d3d4a6f6b95", func := "burnish/burnishlaw12.OpcodeNames", spec := "opcodeNames", named := ["burnish/opcode.rules", "burnish/intn.widths", "burnish/opcode.names", "burnish/opcode.typeNames"], apart := false, laid := [("burnish/intn.widths", laid_burnish_intn_widths), ("burnish/opcode.names", laid_burnish_opcode_names), ("burnish/opcode.typeNames", laid_burnish_opcode_typeNames), ("burnish/opcode.rules", laid_burnish_opcode_rules)], narrowed := true }
def OpcodeNamesUptoSaid : Prop := opcodeNamesUptoRow.holds Tryd.pinned (OpenSpec.upto opcodeNamesSpec)

/-- 'burnishlaw12.OpcodeOnce', WHERE WHAT IT READS IS OF BULK AT MOST 1048576: true; the input reads as it did. -/
def opcodeOnceUptoRow : OpenClaim := { program := "ytjeinmccahbpgaadoor", sum := "5e06896882277a5d859ef758eb1e7eacf05c06473617083a1fd30d3d4a6f6b95", func := "burnish/burnishlaw12.OpcodeOnce", spec := "opcodeOnce", named := ["burnish/opcode.rules", "burnish/intn.widths", "burnish/opcode.names", "burnish/opcode.typeNames"], apart := false, laid := [("burnish/intn.widths", laid_burnish_intn_widths), ("burnish/opcode.names", laid_burnish_opcode_names), ("burnish/opcode.typeNames", laid_burnish_opcode_typeNames), ("burnish/opcode.rules", laid_burnish_opcode_rules)], narrowed := true }
def OpcodeOnceUptoSaid : Prop := opcodeOnceUptoRow.holds Tryd.pinned (OpenSpec.upto opcodeOnceSpec)

end Rows
end Go.Proofs.YtjeinmccahbpgaaDoor

/-
  NARROWER THAN 'FOR EVERY INPUT', by the rows' own cells (each row's printed sentence says how): VerifySize: laid · MemoryKeeps: laid · MemoryNumbers: laid · MemoryLimit: laid · MemoryOwn: laid.
  DERIVED. THE GIVEN ROWS OF THIS SEAT. 5 by the template 'for every input the law returns true; each argument reads behind the call as it read before'; 0 by the template 'total and deterministic' (their statements: YtjphechnadoblaaDoorTotals.lean).
  GIVEN WITH THE SEED: the statements are not yours to turn. If you find one false, say at which input.
  Laid BY PROGRAM, IN A SANDBOX (cutbox-rows.mjs): the forced cells as the released guide's own fill.sh prints them over the translation f37d190ae09c2cbb… (all of the seat's roots in one cut). By AI agents, Wed Nov 11 2026. No macro, syntax, notation, axiom, sorry.
-/
import Derived.Test.YtjphechnadoblaaDoorChecked
import GoSem.Claim
import GoSem.ClaimJoined
import GoSem.ClaimMapViews
import Derived.JoinedTies
import Derived.KernelRfl
namespace Go.Proofs.YtjphechnadoblaaDoor
/- THE CELL 'sum', in the pinned program and in every row, IS THE sha256 OF THE DUMP (.gsa) THAT YtjphechnadoblaaDoorProg.lean LOADS. Nothing in Lean hashes anything: it is a label: what it is worth is what the hold of that sum in a sandbox is worth. -/
noncomputable def Tryd.pinned : Pinned := { name := "ytjphechnadoblaadoor", sum := "f37d190ae09c2cbbd440c3bc66552bdaafe233331b0b5b9b4f4eb3de34d8b751", checked := Tryd.checked }
namespace Rows
def none {H : Type} : Left H := { results := [], args := [] }

/- WHAT THE LISTED PACKAGE-LEVEL VARIABLES READ AS WHEN THE CALL BEGINS. Each datum BY PROGRAM (the guide's laid-datum.mjs) off the statement by which the dump's own 'gosem.cut.vars' lays the variable. In a bare row this is a premise. The card (YtjphechnadoblaaDoorCards.lean) ties it to the program's text. -/
def laid_burnish_intn_widths {H : Type} : DataW H := .agg [.lit (.int .i64 0), .lit (.int .i64 1), .lit (.int .i64 8), .lit (.int .i64 32), .lit (.int .i64 64)]
def laid_burnish_opcode_typeNames {H : Type} : DataW H := .agg [.lit (.string [118, 111, 105, 100]), .lit (.string [98, 111, 111, 108]), .lit (.string [105, 56]), .lit (.string [105, 51, 50]), .lit (.string [105, 54, 52]), .lit (.string [112, 116, 114]), .lit (.string [118, 50]), .lit (.string [118, 52])]
def laid_burnish_opcode_rules {H : Type} : DataW H := .agg [.agg [.lit (.int .u8 0), .agg [.lit (.int .u8 0), .lit (.int .u8 0), .lit (.int .u8 0), .lit (.int .u8 0)], .lit (.int .i64 0)], .agg [.lit (.int .u8 30), .agg [.lit (.int .u8 0), .lit (.int .u8 0), .lit (.int .u8 0), .lit (.int .u8 0)], .lit (.int .i64 0)], .agg [.lit (.int .u8 254), .agg [.lit (.int .u8 0), .lit (.int .u8 0), .lit (.int .u8 0), .lit (.int .u8 0)], .lit (.int .i64 0)], .agg [.lit (.int .u8 222), .agg [.lit (.int .u8 254), .lit (.int .u8 0), .lit (.int .u8 0), .lit (.int .u8 0)], .lit (.int .i64 2)], .agg [.lit (.int .u8 254), .agg [.lit (.int .u8 254), .lit (.int .u8 0), .lit (.int .u8 0), .lit (.int .u8 0)], .lit (.int .i64 2)], .agg [.lit (.int .u8 220), .agg [.lit (.int .u8 254), .lit (.int .u8 254), .lit (.int .u8 0), .lit (.int .u8 0)], .lit (.int .i64 2)], .agg [.lit (.int .u8 220), .agg [.lit (.int .u8 254), .lit (.int .u8 254), .lit (.int .u8 0), .lit (.int .u8 0)], .lit (.int .i64 2)], .agg [.lit (.int .u8 220), .agg [.lit (.int .u8 254), .lit (.int .u8 254), .lit (.int .u8 0), .lit (.int .u8 0)], .lit (.int .i64 2)], .agg [.lit (.int .u8 222), .agg [.lit (.int .u8 254), .lit (.int .u8 254), .lit (.int .u8 0), .lit (.int .u8 0)], .lit (.int .i64 2)], .agg [.lit (.int .u8 222), .agg [.lit (.int .u8 254), .lit (.int .u8 254), .lit (.int .u8 0), .lit (.int .u8 0)], .lit (.int .i64 2)], .agg [.lit (.int .u8 222), .agg [.lit (.int .u8 254), .lit (.int .u8 254), .lit (.int .u8 0), .lit (.int .u8 0)], .lit (.int .i64 2)], .agg [.lit (.int .u8 28), .agg [.lit (.int .u8 254), .lit (.int .u8 254), .lit (.int .u8 0), .lit (.int .u8 0)], .lit (.int .i64 2)], .agg [.lit (.int .u8 28), .agg [.lit (.int .u8 254), .lit (.int .u8 254), .lit (.int .u8 0), .lit (.int .u8 0)], .lit (.int .i64 2)], .agg [.lit (.int .u8 28), .agg [.lit (.int .u8 254), .lit (.int .u8 254), .lit (.int .u8 0), .lit (.int .u8 0)], .lit (.int .i64 2)], .agg [.lit (.int .u8 28), .agg [.lit (.int .u8 254), .lit (.int .u8 254), .lit (.int .u8 0), .lit (.int .u8 0)], .lit (.int .i64 2)], .agg [.lit (.int .u8 28), .agg [.lit (.int .u8 254), .lit (.int .u8 254), .lit (.int .u8 0), .lit (.int .u8 0)], .lit (.int .i64 2)], .agg [.lit (.int .u8 2), .agg [.lit (.int .u8 62), .lit (.int .u8 62), .lit (.int .u8 0), .lit (.int .u8 0)], .lit (.int .i64 1)], .agg [.lit (.int .u8 2), .agg [.lit (.int .u8 62), .lit (.int .u8 62), .lit (.int .u8 0), .lit (.int .u8 0)], .lit (.int .i64 1)], .agg [.lit (.int .u8 2), .agg [.lit (.int .u8 28), .lit (.int .u8 28), .lit (.int .u8 0), .lit (.int .u8 0)], .lit (.int .i64 1)], .agg [.lit (.int .u8 2), .agg [.lit (.int .u8 28), .lit (.int .u8 28), .lit (.int .u8 0), .lit (.int .u8 0)], .lit (.int .i64 1)], .agg [.lit (.int .u8 2), .agg [.lit (.int .u8 28), .lit (.int .u8 28), .lit (.int .u8 0), .lit (.int .u8 0)], .lit (.int .i64 1)], .agg [.lit (.int .u8 254), .agg [.lit (.int .u8 2), .lit (.int .u8 254), .lit (.int .u8 254), .lit (.int .u8 0)], .lit (.int .i64 3)], .agg [.lit (.int .u8 24), .agg [.lit (.int .u8 12), .lit (.int .u8 0), .lit (.int .u8 0), .lit (.int .u8 0)], .lit (.int .i64 4)], .agg [.lit (.int .u8 28), .agg [.lit (.int .u8 14), .lit (.int .u8 0), .lit (.int .u8 0), .lit (.int .u8 0)], .lit (.int .i64 4)], .agg [.lit (.int .u8 30), .agg [.lit (.int .u8 28), .lit (.int .u8 0), .lit (.int .u8 0), .lit (.int .u8 0)], .lit (.int .i64 5)], .agg [.lit (.int .u8 32), .agg [.lit (.int .u8 0), .lit (.int .u8 0), .lit (.int .u8 0), .lit (.int .u8 0)], .lit (.int .i64 0)], .agg [.lit (.int .u8 32), .agg [.lit (.int .u8 0), .lit (.int .u8 0), .lit (.int .u8 0), .lit (.int .u8 0)], .lit (.int .i64 0)], .agg [.lit (.int .u8 32), .agg [.lit (.int .u8 32), .lit (.int .u8 16), .lit (.int .u8 0), .lit (.int .u8 0)], .lit (.int .i64 0)], .agg [.lit (.int .u8 252), .agg [.lit (.int .u8 32), .lit (.int .u8 0), .lit (.int .u8 0), .lit (.int .u8 0)], .lit (.int .i64 0)], .agg [.lit (.int .u8 1), .agg [.lit (.int .u8 32), .lit (.int .u8 252), .lit (.int .u8 0), .lit (.int .u8 0)], .lit (.int .i64 0)], .agg [.lit (.int .u8 0), .agg [.lit (.int .u8 0), .lit (.int .u8 0), .lit (.int .u8 0), .lit (.int .u8 0)], .lit (.int .i64 0)], .agg [.lit (.int .u8 1), .agg [.lit (.int .u8 254), .lit (.int .u8 0), .lit (.int .u8 0), .lit (.int .u8 0)], .lit (.int .i64 0)], .agg [.lit (.int .u8 192), .agg [.lit (.int .u8 8), .lit (.int .u8 8), .lit (.int .u8 8), .lit (.int .u8 8)], .lit (.int .i64 6)], .agg [.lit (.int .u8 8), .agg [.lit (.int .u8 192), .lit (.int .u8 0), .lit (.int .u8 0), .lit (.int .u8 0)], .lit (.int .i64 0)]]

/-- 'burnishlaw14.VerifySize': WHATEVER THE INPUT: true; the input reads as it did. -/
def verifySizeSpec : ChangeSpec := { name := "verifySize", fn := fun _ => fun
  | [d] => { results := [.lit (.bool true)], args := [d] }
  | _ => none }
def verifySizeRow : OpenClaim := { program := "ytjphechnadoblaadoor", sum := "f37d190ae09c2cbbd440c3bc66552bdaafe233331b0b5b9b4f4eb3de34d8b751", func := "burnish/burnishlaw14.VerifySize", spec := "verifySize", unfollowed := true, recurses := true, named := ["burnish/intn.widths", "burnish/opcode.typeNames", "burnish/opcode.rules"], apart := false, laid := [("burnish/intn.widths", laid_burnish_intn_widths), ("burnish/opcode.typeNames", laid_burnish_opcode_typeNames), ("burnish/opcode.rules", laid_burnish_opcode_rules)] }
def VerifySizeSaid : Prop := verifySizeRow.holds Tryd.pinned (OpenSpec.ofChange verifySizeSpec)

/-- ITS FALSE NEIGHBOUR: 'it returns false'. Refute it at one input. -/
def verifySizeWrong : ChangeSpec := { name := "verifySize", fn := fun _ => fun
  | [d] => { results := [.lit (.bool false)], args := [d] }
  | _ => none }
def VerifySizeWrongFalsely : Prop := verifySizeRow.holds Tryd.pinned (OpenSpec.ofChange verifySizeWrong)

/-- 'burnishlaw17.MemoryKeeps': WHATEVER THE INPUT: true; the input reads as it did. -/
def memoryKeepsSpec : ChangeSpec := { name := "memoryKeeps", fn := fun _ => fun
  | [d1, d2, d3, d4] => { results := [.lit (.bool true)], args := [d1, d2, d3, d4] }
  | _ => none }
def memoryKeepsRow : OpenClaim := { program := "ytjphechnadoblaadoor", sum := "f37d190ae09c2cbbd440c3bc66552bdaafe233331b0b5b9b4f4eb3de34d8b751", func := "burnish/burnishlaw17.MemoryKeeps", spec := "memoryKeeps", unfollowed := true, recurses := true, named := ["burnish/intn.widths", "burnish/opcode.typeNames", "burnish/opcode.rules"], apart := false, laid := [("burnish/intn.widths", laid_burnish_intn_widths), ("burnish/opcode.typeNames", laid_burnish_opcode_typeNames), ("burnish/opcode.rules", laid_burnish_opcode_rules)] }
def MemoryKeepsSaid : Prop := memoryKeepsRow.holds Tryd.pinned (OpenSpec.ofChange memoryKeepsSpec)

/-- ITS FALSE NEIGHBOUR: 'it returns false'. Refute it at one input. -/
def memoryKeepsWrong : ChangeSpec := { name := "memoryKeeps", fn := fun _ => fun
  | [d1, d2, d3, d4] => { results := [.lit (.bool false)], args := [d1, d2, d3, d4] }
  | _ => none }
def MemoryKeepsWrongFalsely : Prop := memoryKeepsRow.holds Tryd.pinned (OpenSpec.ofChange memoryKeepsWrong)

/-- 'burnishlaw17.MemoryNumbers': WHATEVER THE INPUT: true; the input reads as it did. -/
def memoryNumbersSpec : ChangeSpec := { name := "memoryNumbers", fn := fun _ => fun
  | [d] => { results := [.lit (.bool true)], args := [d] }
  | _ => none }
def memoryNumbersRow : OpenClaim := { program := "ytjphechnadoblaadoor", sum := "f37d190ae09c2cbbd440c3bc66552bdaafe233331b0b5b9b4f4eb3de34d8b751", func := "burnish/burnishlaw17.MemoryNumbers", spec := "memoryNumbers", unfollowed := true, recurses := true, named := ["burnish/intn.widths", "burnish/opcode.typeNames", "burnish/opcode.rules"], apart := false, laid := [("burnish/intn.widths", laid_burnish_intn_widths), ("burnish/opcode.typeNames", laid_burnish_opcode_typeNames), ("burnish/opcode.rules", laid_burnish_opcode_rules)] }
def MemoryNumbersSaid : Prop := memoryNumbersRow.holds Tryd.pinned (OpenSpec.ofChange memoryNumbersSpec)

/-- ITS FALSE NEIGHBOUR: 'it returns false'. Refute it at one input. -/
def memoryNumbersWrong : ChangeSpec := { name := "memoryNumbers", fn := fun _ => fun
  | [d] => { results := [.lit (.bool false)], args := [d] }
  | _ => none }
def MemoryNumbersWrongFalsely : Prop := memoryNumbersRow.holds Tryd.pinned (OpenSpec.ofChange memoryNumbersWrong)

/-- 'burnishlaw17.MemoryLimit': WHATEVER THE INPUT: true; the input reads as it did. -/
def memoryLimitSpec : ChangeSpec := { name := "memoryLimit", fn := fun _ => fun
  | [d1, d2] => { results := [.lit (.bool true)], args := [d1, d2] }
  | _ => none }
def memoryLimitRow : OpenClaim := { program := "ytjphechnadoblaadoor", sum := "f37d190ae09c2cbbd440c3bc66552bdaafe233331b0b5b9b4f4eb3de34d8b751", func := "burnish/burnishlaw17.MemoryLimit", spec := "memoryLimit", unfollowed := true, recurses := true, named := ["burnish/intn.widths", "burnish/opcode.typeNames", "burnish/opcode.rules"], apart := false, laid := [("burnish/intn.widths", laid_burnish_intn_widths), ("burnish/opcode.typeNames", laid_burnish_opcode_typeNames), ("burnish/opcode.rules", laid_burnish_opcode_rules)] }
def MemoryLimitSaid : Prop := memoryLimitRow.holds Tryd.pinned (OpenSpec.ofChange memoryLimitSpec)

/-- ITS FALSE NEIGHBOUR: 'it returns false'. Refute it at one input. -/
def memoryLimitWrong : ChangeSpec := { name := "memoryLimit", fn := fun _ => fun
  | [d1, d2] => { results := [.lit (.bool false)], args := [d1, d2] }
  | _ => none }
def MemoryLimitWrongFalsely : Prop := memoryLimitRow.holds Tryd.pinned (OpenSpec.ofChange memoryLimitWrong)

/-- 'burnishlaw17.MemoryOwn': WHATEVER THE INPUT: true; the input reads as it did. -/
def memoryOwnSpec : ChangeSpec := { name := "memoryOwn", fn := fun _ => fun
  | [d1, d2, d3] => { results := [.lit (.bool true)], args := [d1, d2, d3] }
  | _ => none }
def memoryOwnRow : OpenClaim := { program := "ytjphechnadoblaadoor", sum := "f37d190ae09c2cbbd440c3bc66552bdaafe233331b0b5b9b4f4eb3de34d8b751", func := "burnish/burnishlaw17.MemoryOwn", spec := "memoryOwn", unfollowed := true, recurses := true, named := ["burnish/intn.widths", "burnish/opcode.typeNames", "burnish/opcode.rules"], apart := false, laid := [("burnish/intn.widths", laid_burnish_intn_widths), ("burnish/opcode.typeNames", laid_burnish_opcode_typeNames), ("burnish/opcode.rules", laid_burnish_opcode_rules)] }
def MemoryOwnSaid : Prop := memoryOwnRow.holds Tryd.pinned (OpenSpec.ofChange memoryOwnSpec)

/-- ITS FALSE NEIGHBOUR: 'it returns false'. Refute it at one input. -/
def memoryOwnWrong : ChangeSpec := { name := "memoryOwn", fn := fun _ => fun
  | [d1, d2, d3] => { results := [.lit (.bool false)], args := [d1, d2, d3] }
  | _ => none }
def MemoryOwnWrongFalsely : Prop := memoryOwnRow.holds Tryd.pinned (OpenSpec.ofChange memoryOwnWrong)

/- THE SECOND FORM. 'bulk': how many values and letters a reading holds, each counted each time it is reached (what is shared counts as often as it is met; a slice's spare places count too). A statement '..UptoSaid' is the law's where the arguments, and the package variables that the reading takes, are together of bulk at most 1048576: NARROWER than '..Said'. Prove '..Said' where nothing that the law and all that it calls make is longer than what came in: it says more and counts as full. Else prove '..UptoSaid'. A law counts once. -/
mutual
def uptoBulk {H : Type} : DataW H → Nat
  | .lit (.string bytes) => bytes.length + 1
  | .lit _ => 1
  | .nil => 1
  | .ptr d => uptoBulk d + 1
  | .slice elems spare => uptoBulkAll elems + uptoBulkAll spare + 1
  | .agg parts => uptoBulkAll parts + 1
  | .iface _ d => uptoBulk d + 1
  | .map entries => uptoBulkEntries entries + 1
  | .held _ => 1
def uptoBulkAll {H : Type} : List (DataW H) → Nat
  | [] => 0
  | d :: r => uptoBulk d + uptoBulkAll r
def uptoBulkEntries {H : Type} : List (Lit × DataW H) → Nat
  | [] => 0
  | x :: r => uptoBulkEntry x + uptoBulkEntries r
def uptoBulkEntry {H : Type} : Lit × DataW H → Nat
  | (.string bytes, d) => bytes.length + uptoBulk d + 1
  | (_, d) => uptoBulk d + 1
 end
def uptoSmall : (H : Type) → List (DataW H) → Bool := fun _ ds => decide (uptoBulkAll ds ≤ 1048576)
def OpenSpec.upto (s : _root_.Go.ChangeSpec) : _root_.Go.OpenSpec := { _root_.Go.OpenSpec.ofChange s with cond := some uptoSmall }

/-- 'burnishlaw14.VerifySize', WHERE WHAT IT READS IS OF BULK AT MOST 1048576: true; the input reads as it did. -/
def verifySizeUptoRow : OpenClaim := { program := "ytjphechnadoblaadoor", sum := "f37d190ae09c2cbbd440c3bc66552bdaafe233331b0b5b9b4f4eb3de34d8b751", func := "burnish/burnishlaw14.VerifySize", spec := "verifySize", unfollowed := true, recurses := true, named := ["burnish/intn.widths", "burnish/opcode.typeNames", "burnish/opcode.rules"], apart := false, laid := [("burnish/intn.widths", laid_burnish_intn_widths), ("burnish/opcode.typeNames", laid_burnish_opcode_typeNames), ("burnish/opcode.rules", laid_burnish_opcode_rules)], narrowed := true }
def VerifySizeUptoSaid : Prop := verifySizeUptoRow.holds Tryd.pinned (OpenSpec.upto verifySizeSpec)

/-- 'burnishlaw17.MemoryKeeps', WHERE WHAT IT READS IS OF BULK AT MOST 1048576: true; the input reads as it did. -/
def memoryKeepsUptoRow : OpenClaim := { program := "ytjphechnadoblaadoor", sum := "f37d190ae09c2cbbd440c3bc66552bdaafe233331b0b5b9b4f4eb3de34d8b751", func := "burnish/burnishlaw17.MemoryKeeps", spec := "memoryKeeps", unfollowed := true, recurses := true, named := ["burnish/intn.widths", "burnish/opcode.typeNames", "burnish/opcode.rules"], apart := false, laid := [("burnish/intn.widths", laid_burnish_intn_widths), ("burnish/opcode.typeNames", laid_burnish_opcode_typeNames), ("burnish/opcode.rules", laid_burnish_opcode_rules)], narrowed := true }
def MemoryKeepsUptoSaid : Prop := memoryKeepsUptoRow.holds Tryd.pinned (OpenSpec.upto memoryKeepsSpec)

/-- 'burnishlaw17.MemoryNumbers', WHERE WHAT IT READS IS OF BULK AT MOST 1048576: true; the input reads as it did. -/
def memoryNumbersUptoRow : OpenClaim := { program := "ytjphechnadoblaadoor", sum := "f37d190ae09c2cbbd440c3bc66552bdaafe233331b0b5b9b4f4eb3de34d8b751", func := "burnish/burnishlaw17.MemoryNumbers", spec := "memoryNumbers", unfollowed := true, recurses := true, named := ["burnish/intn.widths", "burnish/opcode.typeNames", "burnish/opcode.rules"], apart := false, laid := [("burnish/intn.widths", laid_burnish_intn_widths), ("burnish/opcode.typeNames", laid_burnish_opcode_typeNames), ("burnish/opcode.rules", laid_burnish_opcode_rules)], narrowed := true }
def MemoryNumbersUptoSaid : Prop := memoryNumbersUptoRow.holds Tryd.pinned (OpenSpec.upto memoryNumbersSpec)

/-- 'burnishlaw17.MemoryLimit', WHERE WHAT IT READS IS OF BULK AT MOST 1048576: true; the input reads as it did. -/
def memoryLimitUptoRow : OpenClaim := { program := "ytjphechnadoblaadoor", sum := "f37d190ae09c2cbbd440c3bc66552bdaafe233331b0b5b9b4f4eb3de34d8b751", func := "burnish/burnishlaw17.MemoryLimit", spec := "memoryLimit", unfollowed := true, recurses := true, named := ["burnish/intn.widths", "burnish/opcode.typeNames", "burnish/opcode.rules"], apart := false, laid := [("burnish/intn.widths", laid_burnish_intn_widths), ("burnish/opcode.typeNames", laid_burnish_opcode_typeNames), ("burnish/opcode.rules", laid_burnish_opcode_rules)], narrowed := true }
def MemoryLimitUptoSaid : Prop := memoryLimitUptoRow.holds Tryd.pinned (OpenSpec.upto memoryLimitSpec)

/-- 'burnishlaw17.MemoryOwn', WHERE WHAT IT READS IS OF BULK AT MOST 1048576: true; the input reads as it did. -/
def memoryOwnUptoRow : OpenClaim := { program := "ytjphechnadoblaadoor", sum := "f37d190ae09c2cbbd440c3bc66552bdaafe233331b0b5b9b4f4eb3de34d8b751", func := "burnish/burnishlaw17.MemoryOwn", spec := "memoryOwn", unfollowed := true, recurses := true, named := ["burnish/intn.widths", "burnish/opcode.typeNames", "burnish/opcode.rules"], apart := false, laid := [("burnish/intn.widths", laid_burnish_intn_widths), ("burnish/opcode.typeNames", laid_burnish_opcode_typeNames), ("burnish/opcode.rules", laid_burnish_opcode_rules)], narrowed := true }
def MemoryOwnUptoSaid : Prop := memoryOwnUptoRow.holds Tryd.pinned (OpenSpec.upto memoryOwnSpec)

end Rows
end Go.Proofs.YtjphechnadoblaaDoor

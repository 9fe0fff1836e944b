/-
  DERIVED. GIVEN WITH THE SEED: THE CARDS: each row of YtjphechnadoblaaDoorRows.lean that lists a variable, with what it lists TIED to the program's text (the seventh form; the later family's looks); each row that meets fmt, with fmt's text TOLD by the authors' own Lean function (tested against real Go, not proved from fmt's source: count such statements apart). THE CARD IS WHAT COUNTS. Prove the row's statement (the work); the ties are given (YtjphechnadoblaaDoorTie.lean); close each card by the builder's one call (the guide's Derived/Test/ToyasCard.lean, 'card_holds'). Laid BY PROGRAM, IN A SANDBOX (cutbox-door.mjs). By AI agents, Wed Nov 11 2026. No macro, syntax, notation, axiom, sorry.
-/
import Derived.Test.YtjphechnadoblaaDoorRows
import GoSem.ClaimSeven
namespace Go.Proofs.YtjphechnadoblaaDoor
namespace Rows

/-- THE TIED CARD OF 'burnishlaw14.VerifySize'. -/
def verifySizeCard : Claim7 := { stood := { row := verifySizeRow, standIns := [], harness := (true, "74496a61a63f30297bda015ce08119d02da79a648f072a516113f5ee45655233"), looks := true }, kinds := [], alts := [], laidByText := true, laidKinds := [.data, .data, .wider], laidTests := true, laidLooks := .later }
def VerifySizeCardSaid : Prop := Claim7.holds Tryd.pinned (.plain (OpenSpec.ofChange verifySizeSpec)) verifySizeCard

/-- THE TIED CARD OF 'burnishlaw17.MemoryKeeps'. -/
def memoryKeepsCard : Claim7 := { stood := { row := memoryKeepsRow, standIns := [], harness := (true, "74496a61a63f30297bda015ce08119d02da79a648f072a516113f5ee45655233"), looks := true }, kinds := [], alts := [], laidByText := true, laidKinds := [.data, .data, .wider], laidTests := true, laidLooks := .later }
def MemoryKeepsCardSaid : Prop := Claim7.holds Tryd.pinned (.plain (OpenSpec.ofChange memoryKeepsSpec)) memoryKeepsCard

/-- THE TIED CARD OF 'burnishlaw17.MemoryNumbers'. -/
def memoryNumbersCard : Claim7 := { stood := { row := memoryNumbersRow, standIns := [], harness := (true, "74496a61a63f30297bda015ce08119d02da79a648f072a516113f5ee45655233"), looks := true }, kinds := [], alts := [], laidByText := true, laidKinds := [.data, .data, .wider], laidTests := true, laidLooks := .later }
def MemoryNumbersCardSaid : Prop := Claim7.holds Tryd.pinned (.plain (OpenSpec.ofChange memoryNumbersSpec)) memoryNumbersCard

/-- THE TIED CARD OF 'burnishlaw17.MemoryLimit'. -/
def memoryLimitCard : Claim7 := { stood := { row := memoryLimitRow, standIns := [], harness := (true, "74496a61a63f30297bda015ce08119d02da79a648f072a516113f5ee45655233"), looks := true }, kinds := [], alts := [], laidByText := true, laidKinds := [.data, .data, .wider], laidTests := true, laidLooks := .later }
def MemoryLimitCardSaid : Prop := Claim7.holds Tryd.pinned (.plain (OpenSpec.ofChange memoryLimitSpec)) memoryLimitCard

/-- THE TIED CARD OF 'burnishlaw17.MemoryOwn'. -/
def memoryOwnCard : Claim7 := { stood := { row := memoryOwnRow, standIns := [], harness := (true, "74496a61a63f30297bda015ce08119d02da79a648f072a516113f5ee45655233"), looks := true }, kinds := [], alts := [], laidByText := true, laidKinds := [.data, .data, .wider], laidTests := true, laidLooks := .later }
def MemoryOwnCardSaid : Prop := Claim7.holds Tryd.pinned (.plain (OpenSpec.ofChange memoryOwnSpec)) memoryOwnCard

/-- THE SECOND FORM's CARD OF 'burnishlaw14.VerifySize'. -/
def verifySizeUptoCard : Claim7 := { stood := { row := verifySizeUptoRow, standIns := [], harness := (true, "74496a61a63f30297bda015ce08119d02da79a648f072a516113f5ee45655233"), looks := true }, kinds := [], alts := [], laidByText := true, laidKinds := [.data, .data, .wider], laidTests := true, laidLooks := .later }
def VerifySizeUptoCardSaid : Prop := Claim7.holds Tryd.pinned (.plain (OpenSpec.upto verifySizeSpec)) verifySizeUptoCard

/-- THE SECOND FORM's CARD OF 'burnishlaw17.MemoryKeeps'. -/
def memoryKeepsUptoCard : Claim7 := { stood := { row := memoryKeepsUptoRow, standIns := [], harness := (true, "74496a61a63f30297bda015ce08119d02da79a648f072a516113f5ee45655233"), looks := true }, kinds := [], alts := [], laidByText := true, laidKinds := [.data, .data, .wider], laidTests := true, laidLooks := .later }
def MemoryKeepsUptoCardSaid : Prop := Claim7.holds Tryd.pinned (.plain (OpenSpec.upto memoryKeepsSpec)) memoryKeepsUptoCard

/-- THE SECOND FORM's CARD OF 'burnishlaw17.MemoryNumbers'. -/
def memoryNumbersUptoCard : Claim7 := { stood := { row := memoryNumbersUptoRow, standIns := [], harness := (true, "74496a61a63f30297bda015ce08119d02da79a648f072a516113f5ee45655233"), looks := true }, kinds := [], alts := [], laidByText := true, laidKinds := [.data, .data, .wider], laidTests := true, laidLooks := .later }
def MemoryNumbersUptoCardSaid : Prop := Claim7.holds Tryd.pinned (.plain (OpenSpec.upto memoryNumbersSpec)) memoryNumbersUptoCard

/-- THE SECOND FORM's CARD OF 'burnishlaw17.MemoryLimit'. -/
def memoryLimitUptoCard : Claim7 := { stood := { row := memoryLimitUptoRow, standIns := [], harness := (true, "74496a61a63f30297bda015ce08119d02da79a648f072a516113f5ee45655233"), looks := true }, kinds := [], alts := [], laidByText := true, laidKinds := [.data, .data, .wider], laidTests := true, laidLooks := .later }
def MemoryLimitUptoCardSaid : Prop := Claim7.holds Tryd.pinned (.plain (OpenSpec.upto memoryLimitSpec)) memoryLimitUptoCard

/-- THE SECOND FORM's CARD OF 'burnishlaw17.MemoryOwn'. -/
def memoryOwnUptoCard : Claim7 := { stood := { row := memoryOwnUptoRow, standIns := [], harness := (true, "74496a61a63f30297bda015ce08119d02da79a648f072a516113f5ee45655233"), looks := true }, kinds := [], alts := [], laidByText := true, laidKinds := [.data, .data, .wider], laidTests := true, laidLooks := .later }
def MemoryOwnUptoCardSaid : Prop := Claim7.holds Tryd.pinned (.plain (OpenSpec.upto memoryOwnSpec)) memoryOwnUptoCard
end Rows
end Go.Proofs.YtjphechnadoblaaDoor

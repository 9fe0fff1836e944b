/-
  Layer 12 (opcode): Lookup and TypeByName of both, for any name.
-/
import Derived.Deep.Strs
import Derived.Deep.MidRow
import Derived.Test.YtnhaanjpcnnifaaDoorOpA
namespace Go.Proofs.YtnhaanjpcnnifaaDoor
open Go.RowKit

/-- The first number from j on, of n, that p holds of. -/
def firstP (p : Nat → Bool) : Nat → Nat → Option Nat
  | 0, _ => none
  | n + 1, j => if p j then some j else firstP p n (j + 1)
def isNm (s : List UInt8) (j : Nat) : Bool := decide (0 < j) && decide (opNames[j]? = some s)
def isTn (s : List UInt8) (j : Nat) : Bool := decide (tyNames[j]? = some s)
def lookM (s : List UInt8) : Option Nat := firstP (isNm s) 34 0
def tlookM (s : List UInt8) : Option Nat := firstP (isTn s) 8 0
def numO : Option Nat → Int
  | some j => (j : Int)
  | none => 0
theorem firstP_step {p : Nat → Bool} {n k : Nat} (hk : k < n) (h : p k = false) : firstP p (n - k) k = firstP p (n - (k + 1)) (k + 1) := by
  obtain ⟨m, hm⟩ : ∃ m, n - k = m + 1 := ⟨n - k - 1, by omega⟩
  rw [hm, show n - (k + 1) = m by omega, firstP, h]; rfl
theorem firstP_hit {p : Nat → Bool} {n k : Nat} (hk : k < n) (h : p k = true) : firstP p (n - k) k = some k := by
  obtain ⟨m, hm⟩ : ∃ m, n - k = m + 1 := ⟨n - k - 1, by omega⟩
  rw [hm, firstP, h]; rfl

theorem run_index_str (t : TypeId) (n : Nat) (V : List Value) (i : Nat) (s : ByteArray) (hu : Tryd.prog.underlying t = some (.array n 9)) (hi : i < n) (hv : V[i]? = some (.string s)) (W : World) :
    Sem.run Tryd.prog (Instr.index t (.agg V.toArray) (.int .i64 (i : Int))) W = .ok (.string s) W := by
  have hs : ∀ W, (sizeOf 9).run Tryd.prog W = .ok 1 W := fun W => by kernel_rfl
  have ha : ∀ W, (isAgg 9).run Tryd.prog W = .ok false W := fun W => by kernel_rfl
  have hn : (0 : Int) ≤ (i : Int) ∧ (i : Int) < (n : Int) := by omega
  have hv' : V.toArray[i]? = some (.string s) := by simpa using hv
  simp [Instr.index, Sem.run_bind, run_underlying hu, asIntOf, hi, hs, part, ha, hv, go_sem]

end Go.Proofs.YtnhaanjpcnnifaaDoor

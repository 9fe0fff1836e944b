/-
  Layer 12 (opcode): the rules of the table, as data; what the code asks and what the reference asks is the same.
-/
import Derived.Test.YtnhaanjpcnnifaaDoorKit
namespace Go.Proofs.YtnhaanjpcnnifaaDoor

/-- Type t stands in the set s. -/
def hasB (s : Nat) (t : Int) : Bool := decide (0 ≤ t) && decide (t ≤ 7) && s.testBit t.toNat
/-- The row of operation op: the result, the operands, the relation. -/
def ruleM : Nat → Nat × (Nat × Nat × Nat × Nat) × Nat
  | 1 => (30, (0, 0, 0, 0), 0)
  | 2 => (254, (0, 0, 0, 0), 0)
  | 3 => (222, (254, 0, 0, 0), 2)
  | 4 => (254, (254, 0, 0, 0), 2)
  | 5 => (220, (254, 254, 0, 0), 2)
  | 6 => (220, (254, 254, 0, 0), 2)
  | 7 => (220, (254, 254, 0, 0), 2)
  | 8 => (222, (254, 254, 0, 0), 2)
  | 9 => (222, (254, 254, 0, 0), 2)
  | 10 => (222, (254, 254, 0, 0), 2)
  | 11 => (28, (254, 254, 0, 0), 2)
  | 12 => (28, (254, 254, 0, 0), 2)
  | 13 => (28, (254, 254, 0, 0), 2)
  | 14 => (28, (254, 254, 0, 0), 2)
  | 15 => (28, (254, 254, 0, 0), 2)
  | 16 => (2, (62, 62, 0, 0), 1)
  | 17 => (2, (62, 62, 0, 0), 1)
  | 18 => (2, (28, 28, 0, 0), 1)
  | 19 => (2, (28, 28, 0, 0), 1)
  | 20 => (2, (28, 28, 0, 0), 1)
  | 21 => (254, (2, 254, 254, 0), 3)
  | 22 => (24, (12, 0, 0, 0), 4)
  | 23 => (28, (14, 0, 0, 0), 4)
  | 24 => (30, (28, 0, 0, 0), 5)
  | 25 => (32, (0, 0, 0, 0), 0)
  | 26 => (32, (0, 0, 0, 0), 0)
  | 27 => (32, (32, 16, 0, 0), 0)
  | 28 => (252, (32, 0, 0, 0), 0)
  | 29 => (1, (32, 252, 0, 0), 0)
  | 31 => (1, (254, 0, 0, 0), 0)
  | 32 => (192, (8, 8, 8, 8), 6)
  | 33 => (8, (192, 0, 0, 0), 0)
  | _ => (0, (0, 0, 0, 0), 0)
/-- Bits of a type. -/
def bitsM (t : Int) : Int := if t = 1 then 1 else if t = 2 then 8 else if t = 3 then 32 else if t = 4 then 64 else 0
/-- The cells of an access: type and number. -/
def accT (t : Int) : Int := if t = 2 ∨ t = 3 ∨ t = 4 ∨ t = 5 then t else if t = 6 ∨ t = 7 then 3 else 0
def accN (t : Int) : Int := if t = 2 ∨ t = 3 ∨ t = 4 ∨ t = 5 then 1 else if t = 6 then 2 else if t = 7 then 4 else 0

theorem types8 (t : Int) : t = 0 ∨ t = 1 ∨ t = 2 ∨ t = 3 ∨ t = 4 ∨ t = 5 ∨ t = 6 ∨ t = 7 ∨ (t < 0 ∨ 7 < t) := by omega
theorem has_out {s : Nat} {t : Int} (h : t < 0 ∨ 7 < t) : hasB s t = false := by
  unfold hasB
  rcases h with h | h
  · rw [decide_eq_false (by omega)]; rfl
  · rw [decide_eq_false (p := t ≤ 7) (by omega), Bool.and_false]; rfl

/-- All of l are t. -/
def allB (l : List Int) (t : Int) : Bool := l.all (· == t)
/-- The relation, as the code asks it. -/
def relB (r : Nat) (res : Int) (l : List Int) : Bool :=
  if r = 1 then allB l (l.headD 0) else if r = 3 then allB l.tail res else if r = 2 then allB l res
  else if r = 4 then decide (bitsM (l.headD 0) < bitsM res) else if r = 5 then decide (bitsM res < bitsM (l.headD 0)) else if r = 6 then decide ((l.length : Int) = accN res) else true
/-- The operands stand in the sets. -/
def opsB : List Nat → List Int → Bool
  | s :: ss, t :: l => hasB s t && opsB ss l
  | _, [] => true
  | [], _ :: _ => false
def rowOps (op : Nat) : List Nat := [(ruleM op).2.1.1, (ruleM op).2.1.2.1, (ruleM op).2.1.2.2.1, (ruleM op).2.1.2.2.2]
/-- What the code asks of the types. -/
def acceptsB (op : Nat) (res : Int) (l : List Int) : Bool := opsB (rowOps op) l && hasB (ruleM op).1 res && relB (ruleM op).2.2 res l
/-- How many operands, but for a call and a pack. -/
def cntOf (op : Nat) : Nat := ((rowOps op).filter (· != 0)).length

/-- The reference: words, integers, any. -/
def wideB (t : Int) : Bool := decide (t = 2) || decide (t = 3) || decide (t = 4)
def intB (t : Int) : Bool := decide (t = 1) || wideB t
def anyB (t : Int) : Bool := decide (1 ≤ t) && decide (t ≤ 7)
theorem has_30 (t : Int) : hasB 30 t = intB t := by
  rcases types8 t with rfl | rfl | rfl | rfl | rfl | rfl | rfl | rfl | h
  iterate 8 rfl
  rw [has_out h]; simp [intB, wideB]; omega
theorem has_254 (t : Int) : hasB 254 t = anyB t := by
  rcases types8 t with rfl | rfl | rfl | rfl | rfl | rfl | rfl | rfl | h
  iterate 8 rfl
  rw [has_out h]; simp [anyB]; omega
theorem has_222 (t : Int) : hasB 222 t = (anyB t && !decide (t = 5)) := by
  rcases types8 t with rfl | rfl | rfl | rfl | rfl | rfl | rfl | rfl | h
  iterate 8 rfl
  rw [has_out h]; simp [anyB]; omega
theorem has_220 (t : Int) : hasB 220 t = (wideB t || decide (t = 6) || decide (t = 7)) := by
  rcases types8 t with rfl | rfl | rfl | rfl | rfl | rfl | rfl | rfl | h
  iterate 8 rfl
  rw [has_out h]; simp [wideB]; omega
theorem has_28 (t : Int) : hasB 28 t = wideB t := by
  rcases types8 t with rfl | rfl | rfl | rfl | rfl | rfl | rfl | rfl | h
  iterate 8 rfl
  rw [has_out h]; simp [wideB]; omega
theorem has_2 (t : Int) : hasB 2 t = decide (t = 1) := by
  rcases types8 t with rfl | rfl | rfl | rfl | rfl | rfl | rfl | rfl | h
  iterate 8 rfl
  rw [has_out h]; simp; omega
theorem has_62 (t : Int) : hasB 62 t = (intB t || decide (t = 5)) := by
  rcases types8 t with rfl | rfl | rfl | rfl | rfl | rfl | rfl | rfl | h
  iterate 8 rfl
  rw [has_out h]; simp [intB, wideB]; omega
theorem has_24 (t : Int) : hasB 24 t = (decide (t = 3) || decide (t = 4)) := by
  rcases types8 t with rfl | rfl | rfl | rfl | rfl | rfl | rfl | rfl | h
  iterate 8 rfl
  rw [has_out h]; simp; omega
theorem has_12 (t : Int) : hasB 12 t = (decide (t = 2) || decide (t = 3)) := by
  rcases types8 t with rfl | rfl | rfl | rfl | rfl | rfl | rfl | rfl | h
  iterate 8 rfl
  rw [has_out h]; simp; omega
theorem has_14 (t : Int) : hasB 14 t = (decide (t = 1) || decide (t = 2) || decide (t = 3)) := by
  rcases types8 t with rfl | rfl | rfl | rfl | rfl | rfl | rfl | rfl | h
  iterate 8 rfl
  rw [has_out h]; simp; omega
theorem has_32 (t : Int) : hasB 32 t = decide (t = 5) := by
  rcases types8 t with rfl | rfl | rfl | rfl | rfl | rfl | rfl | rfl | h
  iterate 8 rfl
  rw [has_out h]; simp; omega
theorem has_16 (t : Int) : hasB 16 t = decide (t = 4) := by
  rcases types8 t with rfl | rfl | rfl | rfl | rfl | rfl | rfl | rfl | h
  iterate 8 rfl
  rw [has_out h]; simp; omega
theorem has_252 (t : Int) : hasB 252 t = decide (0 < accN t) := by
  rcases types8 t with rfl | rfl | rfl | rfl | rfl | rfl | rfl | rfl | h
  iterate 8 rfl
  rw [has_out h]; unfold accN; rw [if_neg (by omega), if_neg (by omega), if_neg (by omega)]; rfl
theorem has_1 (t : Int) : hasB 1 t = decide (t = 0) := by
  rcases types8 t with rfl | rfl | rfl | rfl | rfl | rfl | rfl | rfl | h
  iterate 8 rfl
  rw [has_out h]; simp; omega
theorem has_192 (t : Int) : hasB 192 t = (decide (t = 6) || decide (t = 7)) := by
  rcases types8 t with rfl | rfl | rfl | rfl | rfl | rfl | rfl | rfl | h
  iterate 8 rfl
  rw [has_out h]; simp; omega
theorem has_8 (t : Int) : hasB 8 t = decide (t = 3) := by
  rcases types8 t with rfl | rfl | rfl | rfl | rfl | rfl | rfl | rfl | h
  iterate 8 rfl
  rw [has_out h]; simp; omega
theorem has_0 (t : Int) : hasB 0 t = false := by simp [hasB]
/-- The result type, as the reference asks it (no call). -/
def resR (op : Nat) (t : Int) (n : Nat) : Bool :=
  if op = 1 then intB t else if op = 2 ∨ op = 4 ∨ op = 21 then anyB t else if op = 3 then anyB t && !decide (t = 5)
  else if op = 5 ∨ op = 6 ∨ op = 7 then wideB t || decide (t = 6) || decide (t = 7)
  else if op = 8 ∨ op = 9 ∨ op = 10 then intB t || decide (t = 6) || decide (t = 7)
  else if 11 ≤ op ∧ op ≤ 15 then wideB t else if 16 ≤ op ∧ op ≤ 20 then decide (t = 1)
  else if op = 22 then decide (t = 3) || decide (t = 4) else if op = 23 then wideB t
  else if op = 24 then decide (t = 1) || decide (t = 2) || decide (t = 3)
  else if op = 25 ∨ op = 26 ∨ op = 27 then decide (t = 5) else if op = 28 then decide (0 < accN t)
  else if op = 29 ∨ op = 31 then decide (t = 0)
  else if op = 32 then decide (t = 6) && decide (n = 2) || decide (t = 7) && decide (n = 4) else decide (t = 3)
/-- The type a of operand k, as the reference asks it (no call). -/
def opR (op : Nat) (t : Int) (k : Nat) (a first : Int) : Bool :=
  if op = 16 ∨ op = 17 then decide (a = first) && (intB a || decide (a = 5))
  else if 18 ≤ op ∧ op ≤ 20 then decide (a = first) && wideB a
  else if op = 21 then decide (k = 0) && decide (a = 1) || decide (0 < k) && decide (a = t)
  else if op = 22 then (decide (a = 2) || decide (a = 3)) && decide (bitsM a < bitsM t)
  else if op = 23 then (decide (a = 1) || decide (a = 2) || decide (a = 3)) && decide (bitsM a < bitsM t)
  else if op = 24 then wideB a && decide (bitsM t < bitsM a)
  else if op = 27 then decide (k = 0) && decide (a = 5) || decide (k = 1) && decide (a = 4)
  else if op = 28 then decide (a = 5)
  else if op = 29 then decide (k = 0) && decide (a = 5) || decide (k = 1) && decide (0 < accN a)
  else if op = 31 then anyB a else if op = 32 then decide (a = 3) else if op = 33 then decide (a = 6) || decide (a = 7) else decide (a = t)
/-- All the operands of the reference. -/
def opsR (op : Nat) (t first : Int) : Nat → List Int → Bool
  | _, [] => true
  | k, a :: l => opR op t k a first && opsR op t first (k + 1) l


attribute [local simp] has_30 has_254 has_222 has_220 has_28 has_2 has_62 has_24 has_12 has_14 has_32 has_16 has_252 has_1 has_192 has_8 has_0 acceptsB rowOps ruleM opsB relB resR opsR opR allB anyB
theorem acc0 (op : Nat) (hop : op = 1 ∨ op = 2 ∨ op = 25 ∨ op = 26) (t : Int) : acceptsB op t [] = (resR op t 0 && opsR op t 0 0 []) := by
  rcases hop with rfl | rfl | rfl | rfl <;> simp
theorem acc1 (op : Nat) (hop : op = 3 ∨ op = 4 ∨ op = 28 ∨ op = 31 ∨ op = 33) (t a : Int) : acceptsB op t [a] = (resR op t 1 && opsR op t a 0 [a]) := by
  rw [Bool.eq_iff_iff]
  rcases hop with rfl | rfl | rfl | rfl | rfl <;> simp <;> omega
theorem accw (op : Nat) (hop : op = 22 ∨ op = 23 ∨ op = 24) (t a : Int) : acceptsB op t [a] = (resR op t 1 && opsR op t a 0 [a]) := by
  rcases hop with rfl | rfl | rfl <;> simp <;>
    rcases types8 t with rfl | rfl | rfl | rfl | rfl | rfl | rfl | rfl | h <;> simp [intB, wideB, bitsM] <;> (try rw [Bool.eq_iff_iff]) <;> (try simp) <;> (try split) <;> omega
theorem acc2 (op : Nat) (hop : (5 ≤ op ∧ op ≤ 20) ∨ op = 27 ∨ op = 29) (t a b : Int) : acceptsB op t [a, b] = (resR op t 2 && opsR op t a 0 [a, b]) := by
  have h : op = 5 ∨ op = 6 ∨ op = 7 ∨ op = 8 ∨ op = 9 ∨ op = 10 ∨ op = 11 ∨ op = 12 ∨ op = 13 ∨ op = 14 ∨ op = 15 ∨ op = 16 ∨ op = 17 ∨ op = 18 ∨ op = 19 ∨ op = 20 ∨ op = 27 ∨ op = 29 := by omega
  rw [Bool.eq_iff_iff]
  rcases h with rfl | rfl | rfl | rfl | rfl | rfl | rfl | rfl | rfl | rfl | rfl | rfl | rfl | rfl | rfl | rfl | rfl | rfl <;> simp [intB, wideB] <;> omega
theorem acc3 (t a b c : Int) : acceptsB 21 t [a, b, c] = (resR 21 t 3 && opsR 21 t a 0 [a, b, c]) := by
  rw [Bool.eq_iff_iff]
  simp
  omega
theorem accp2 (t a b : Int) : acceptsB 32 t [a, b] = (resR 32 t 2 && opsR 32 t a 0 [a, b]) := by
  rw [Bool.eq_iff_iff]
  rcases types8 t with rfl | rfl | rfl | rfl | rfl | rfl | rfl | rfl | h <;> simp [accN] <;> omega
theorem accp4 (t a b c d : Int) : acceptsB 32 t [a, b, c, d] = (resR 32 t 4 && opsR 32 t a 0 [a, b, c, d]) := by
  rw [Bool.eq_iff_iff]
  rcases types8 t with rfl | rfl | rfl | rfl | rfl | rfl | rfl | rfl | h <;> simp [accN] <;> omega

theorem accepts_eq (op : Nat) (h1 : 1 ≤ op) (h2 : op ≤ 33) (h3 : op ≠ 30) (t : Int) (l : List Int) (hl : if op = 32 then l.length = 2 ∨ l.length = 4 else l.length = cntOf op) :
    acceptsB op t l = (resR op t l.length && opsR op t (l.headD 0) 0 l) := by
  have h : (op = 1 ∨ op = 2 ∨ op = 25 ∨ op = 26) ∨ (op = 3 ∨ op = 4 ∨ op = 28 ∨ op = 31 ∨ op = 33) ∨ (op = 22 ∨ op = 23 ∨ op = 24) ∨ ((5 ≤ op ∧ op ≤ 20) ∨ op = 27 ∨ op = 29) ∨ op = 21 ∨ op = 32 := by omega
  rcases h with h | h | h | h | rfl | rfl
  · obtain rfl : l = [] := by
      rcases h with rfl | rfl | rfl | rfl <;> exact List.eq_nil_of_length_eq_zero hl
    exact acc0 op h t
  · match l, (show l.length = 1 by rcases h with rfl | rfl | rfl | rfl | rfl <;> exact hl) with
    | [a], _ => exact acc1 op h t a
  · match l, (show l.length = 1 by rcases h with rfl | rfl | rfl <;> exact hl) with
    | [a], _ => exact accw op h t a
  · have hc : l.length = 2 := by
      have h' : op = 5 ∨ op = 6 ∨ op = 7 ∨ op = 8 ∨ op = 9 ∨ op = 10 ∨ op = 11 ∨ op = 12 ∨ op = 13 ∨ op = 14 ∨ op = 15 ∨ op = 16 ∨ op = 17 ∨ op = 18 ∨ op = 19 ∨ op = 20 ∨ op = 27 ∨ op = 29 := by omega
      rcases h' with rfl | rfl | rfl | rfl | rfl | rfl | rfl | rfl | rfl | rfl | rfl | rfl | rfl | rfl | rfl | rfl | rfl | rfl <;> exact hl
    match l, hc with
    | [a, b], _ => exact acc2 op h t a b
  · match l, (show l.length = 3 from hl) with
    | [a, b, c], _ => exact acc3 t a b c
  · rcases (show l.length = 2 ∨ l.length = 4 from hl) with g | g
    · match l, g with
      | [a, b], _ => exact accp2 t a b
    · match l, g with
      | [a, b, c, d], _ => exact accp4 t a b c d
end Go.Proofs.YtnhaanjpcnnifaaDoor

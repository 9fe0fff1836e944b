/-
  Plain arithmetic for layer 1 (intn): wrapping to a type, and what the operations give. No program is named here.
-/
import Derived.WalkKit
import Derived.Laws.BitsLemmas
namespace Go.Proofs.YtnhaanjpcnnifaaDoor
open Go.RowKit

/-- The width of a type. -/
def bitsI (t : Int) : Int := if t = 1 then 1 else if t = 2 then 8 else if t = 3 then 32 else if t = 4 then 64 else 0
/-- Two to the width. -/
def modI (t : Int) : Int := if t = 1 then 2 else if t = 2 then 256 else if t = 3 then 4294967296 else if t = 4 then 18446744073709551616 else 1
/-- The distance of the least integer from 0. -/
def offI (t : Int) : Int := if t = 1 then 0 else if t = 2 then 128 else if t = 3 then 2147483648 else if t = 4 then 9223372036854775808 else 0
/-- The wrapped integer. -/
def wrapI (t n : Int) : Int := (n + offI t) % modI t - offI t
/-- The lowest bits. -/
def unsI (t n : Int) : Int := n % modI t
def minI (t : Int) : Int := - offI t
def maxI (t : Int) : Int := modI t - 1 - offI t

/-- A type is one of the four integer types, or none of them. -/
theorem kinds (t : Int) : t = 1 ∨ t = 2 ∨ t = 3 ∨ t = 4 ∨ (t ≠ 1 ∧ t ≠ 2 ∧ t ≠ 3 ∧ t ≠ 4) := by omega
theorem bitsI_none {t : Int} (h : t ≠ 1 ∧ t ≠ 2 ∧ t ≠ 3 ∧ t ≠ 4) : bitsI t = 0 := by
  unfold bitsI; rw [if_neg h.1, if_neg h.2.1, if_neg h.2.2.1, if_neg h.2.2.2]
theorem modI_none {t : Int} (h : t ≠ 1 ∧ t ≠ 2 ∧ t ≠ 3 ∧ t ≠ 4) : modI t = 1 := by
  unfold modI; rw [if_neg h.1, if_neg h.2.1, if_neg h.2.2.1, if_neg h.2.2.2]
theorem offI_none {t : Int} (h : t ≠ 1 ∧ t ≠ 2 ∧ t ≠ 3 ∧ t ≠ 4) : offI t = 0 := by
  unfold offI; rw [if_neg h.1, if_neg h.2.1, if_neg h.2.2.1, if_neg h.2.2.2]
theorem wrapI_none {t : Int} (h : t ≠ 1 ∧ t ≠ 2 ∧ t ≠ 3 ∧ t ≠ 4) (n : Int) : wrapI t n = 0 := by
  unfold wrapI; rw [modI_none h, offI_none h]; omega
theorem unsI_none {t : Int} (h : t ≠ 1 ∧ t ≠ 2 ∧ t ≠ 3 ∧ t ≠ 4) (n : Int) : unsI t n = 0 := by
  unfold unsI; rw [modI_none h]; omega
theorem wrapI_1 (n : Int) : wrapI 1 n = n % 2 := by unfold wrapI offI modI; simp
theorem wrapI_2 (n : Int) : wrapI 2 n = (n + 128) % 256 - 128 := rfl
theorem wrapI_3 (n : Int) : wrapI 3 n = (n + 2147483648) % 4294967296 - 2147483648 := rfl
theorem wrapI_4 (n : Int) : wrapI 4 n = wrap64 n := by unfold wrap64; rfl
theorem unsI_1 (n : Int) : unsI 1 n = n % 2 := rfl
theorem unsI_2 (n : Int) : unsI 2 n = n % 256 := rfl
theorem unsI_3 (n : Int) : unsI 3 n = n % 4294967296 := rfl
theorem unsI_4 (n : Int) : unsI 4 n = n % 18446744073709551616 := rfl

/-- The facts of one type: the modulus and the offset. -/
theorem shape (t : Int) : (modI t = 2 ∧ offI t = 0 ∧ bitsI t = 1) ∨ (modI t = 256 ∧ offI t = 128 ∧ bitsI t = 8) ∨ (modI t = 4294967296 ∧ offI t = 2147483648 ∧ bitsI t = 32) ∨ (modI t = 18446744073709551616 ∧ offI t = 9223372036854775808 ∧ bitsI t = 64) ∨ (modI t = 1 ∧ offI t = 0 ∧ bitsI t = 0) := by
  rcases kinds t with rfl | rfl | rfl | rfl | h
  · exact .inl ⟨rfl, rfl, rfl⟩
  · exact .inr (.inl ⟨rfl, rfl, rfl⟩)
  · exact .inr (.inr (.inl ⟨rfl, rfl, rfl⟩))
  · exact .inr (.inr (.inr (.inl ⟨rfl, rfl, rfl⟩)))
  · exact .inr (.inr (.inr (.inr ⟨modI_none h, offI_none h, bitsI_none h⟩)))

theorem mod_pos (t : Int) : 0 < modI t := by have := shape t; omega
theorem uns_nonneg (t n : Int) : 0 ≤ unsI t n := by
  unfold unsI; exact Int.emod_nonneg _ (by have := mod_pos t; omega)
theorem uns_lt (t n : Int) : unsI t n < modI t := by
  unfold unsI; exact Int.emod_lt_of_pos _ (mod_pos t)
theorem bits_range (t : Int) : 0 ≤ bitsI t ∧ bitsI t ≤ 64 := by have := shape t; omega
theorem wrap_range (t n : Int) : -9223372036854775808 ≤ wrapI t n ∧ wrapI t n ≤ 9223372036854775807 := by
  have h1 := Int.emod_nonneg (n + offI t) (b := modI t) (by have := mod_pos t; omega)
  have h2 := Int.emod_lt_of_pos (n + offI t) (mod_pos t)
  unfold wrapI
  rcases shape t with ⟨hm, ho, _⟩ | ⟨hm, ho, _⟩ | ⟨hm, ho, _⟩ | ⟨hm, ho, _⟩ | ⟨hm, ho, _⟩ <;> rw [hm, ho] at * <;> omega
theorem uns_range (t n : Int) : 0 ≤ unsI t n ∧ unsI t n ≤ 18446744073709551615 := by
  have h1 := uns_nonneg t n
  have h2 := uns_lt t n
  rcases shape t with ⟨hm, _⟩ | ⟨hm, _⟩ | ⟨hm, _⟩ | ⟨hm, _⟩ | ⟨hm, _⟩ <;> rw [hm] at h2 <;> omega

/-- A wrapped integer is an integer of the type. -/
theorem wrap_in (t n : Int) : minI t ≤ wrapI t n ∧ wrapI t n ≤ maxI t := by
  have h1 := Int.emod_nonneg (n + offI t) (b := modI t) (by have := mod_pos t; omega)
  have h2 := Int.emod_lt_of_pos (n + offI t) (mod_pos t)
  unfold wrapI minI maxI
  omega
theorem wrap_id {t n : Int} (h : minI t ≤ n ∧ n ≤ maxI t) : wrapI t n = n := by
  unfold minI maxI at h
  unfold wrapI
  rw [Int.emod_eq_of_lt (by omega) (by omega)]
  omega
theorem wrap_iff (t n : Int) : wrapI t n = n ↔ minI t ≤ n ∧ n ≤ maxI t :=
  ⟨fun h => by rw [← h]; exact wrap_in t n, wrap_id⟩
theorem wrap_wrap64 (t n : Int) : wrapI t (wrap64 n) = wrapI t n := by
  unfold wrapI wrap64
  rcases shape t with ⟨hm, ho, _⟩ | ⟨hm, ho, _⟩ | ⟨hm, ho, _⟩ | ⟨hm, ho, _⟩ | ⟨hm, ho, _⟩ <;> rw [hm, ho] <;> omega
theorem minmax_range (t : Int) : (-9223372036854775808 ≤ minI t ∧ minI t ≤ 9223372036854775807) ∧ (-9223372036854775808 ≤ maxI t ∧ maxI t ≤ 9223372036854775807) := by
  unfold minI maxI; have := shape t; omega
/-- The wrapped sum, and whether the exact sum is not an integer of the type. -/
def addS (t a b : Int) : Int := wrapI t (wrapI t a + wrapI t b)
def outI (t n : Int) : Bool := decide (n < minI t) || decide (maxI t < n)
def addO (t a b : Int) : Bool := outI t (wrapI t a + wrapI t b)
def subS (t a b : Int) : Int := wrapI t (wrapI t a - wrapI t b)
def subO (t a b : Int) : Bool := outI t (wrapI t a - wrapI t b)
def mulS (t a b : Int) : Int := wrapI t (wrapI t a * wrapI t b)
def mulO (t a b : Int) : Bool := outI t (wrapI t a * wrapI t b)
theorem outI_true {t n : Int} (h : n < minI t ∨ maxI t < n) : outI t n = true := by
  unfold outI; simpa using h
theorem outI_false {t n : Int} (h : minI t ≤ n ∧ n ≤ maxI t) : outI t n = false := by
  unfold outI; simpa using h

theorem add_over (t x y : Int) (hx : minI t ≤ x ∧ x ≤ maxI t) (hy : minI t ≤ y ∧ y ≤ maxI t) :
    (wrapI t (wrap64 (x + y)) = wrap64 (x + y) ∧ ((x < 0 ↔ y < 0) → (wrap64 (x + y) < 0 ↔ x < 0))) ↔ minI t ≤ x + y ∧ x + y ≤ maxI t := by
  rw [wrap_iff]
  unfold minI maxI wrap64 at *
  rcases shape t with ⟨hm, ho, _⟩ | ⟨hm, ho, _⟩ | ⟨hm, ho, _⟩ | ⟨hm, ho, _⟩ | ⟨hm, ho, _⟩ <;> omega
theorem sub_over (t x y : Int) (hx : minI t ≤ x ∧ x ≤ maxI t) (hy : minI t ≤ y ∧ y ≤ maxI t) :
    (wrapI t (wrap64 (x - y)) = wrap64 (x - y) ∧ (¬ (x < 0 ↔ y < 0) → (wrap64 (x - y) < 0 ↔ x < 0))) ↔ minI t ≤ x - y ∧ x - y ≤ maxI t := by
  rw [wrap_iff]
  unfold minI maxI wrap64 at *
  rcases shape t with ⟨hm, ho, _⟩ | ⟨hm, ho, _⟩ | ⟨hm, ho, _⟩ | ⟨hm, ho, _⟩ | ⟨hm, ho, _⟩ <;> omega

/-- The lowest bit. -/
theorem and_one_i64 (n : Int) : bits .and .i64 n 1 = n % 2 := by
  have h1 : (BitVec.ofInt 64 1).toNat = 2 ^ 1 - 1 := by decide
  have key : (BitVec.ofInt 64 n &&& BitVec.ofInt 64 1).toNat = (n % ((2 ^ 64 : Nat) : Int)).toNat % 2 ^ 1 := by
    rw [BitVec.toNat_and, BitVec.toNat_ofInt, h1, Nat.and_two_pow_sub_one_eq_mod]
  show IntKind.i64.wrap ((BitVec.ofInt 64 n &&& BitVec.ofInt 64 1).toNat : Nat) = n % 2
  rw [key, IntKind.wrap_i64]
  omega

end Go.Proofs.YtnhaanjpcnnifaaDoor

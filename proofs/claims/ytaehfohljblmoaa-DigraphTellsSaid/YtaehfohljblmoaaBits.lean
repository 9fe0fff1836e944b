/-
  Words of 64 bits as a set of small numbers, layer 3 (bitset). No program is named here.
-/
import Derived.Test.YtaehfohljblmoaaVals
import Derived.Laws.BitsAllLaws
import Derived.Lib.TrailingZeros
namespace Go.Proofs.Ytaehfohljblmoaa
open Go.RowKit

/-- A word of 64 bits. -/
def Wd (x : Nat) : Prop := x < 18446744073709551616
theorem wd_pow {x : Nat} (h : Wd x) : x < 2 ^ 64 := h
theorem wd_of {x : Nat} (h : x < 2 ^ 64) : Wd x := h
/-- Bit i of the words. -/
def bit (ws : List Nat) (i : Nat) : Bool := (ws.getD (i / 64) 0).testBit (i % 64)
/-- The words of a set of capacity n. -/
structure Words (n : Nat) (ws : List Nat) : Prop where
  len : ws.length = (n + 63) / 64
  lt : ∀ x ∈ ws, Wd x
  top : ∀ i, n ≤ i → bit ws i = false

theorem bit_nil (i : Nat) : bit [] i = false := by simp [bit]
theorem bit_zeros (m i : Nat) : bit (List.replicate m 0) i = false := by
  unfold bit
  rw [List.getD_eq_getElem?_getD, List.getElem?_replicate]
  split <;> simp
theorem Words.zeros (n : Nat) : Words n (List.replicate ((n + 63) / 64) 0) :=
  ⟨by simp, fun x hx => by rw [List.mem_replicate] at hx; rw [hx.2]; exact Nat.zero_lt_succ _, fun i _ => bit_zeros _ i⟩
theorem pow_wd {k : Nat} (h : k < 64) : Wd (2 ^ k) := Nat.pow_lt_pow_right (by omega) h
theorem wrap_pow {k : Nat} (h : k < 64) : IntKind.u64.wrap ((2 : Int) ^ k) = ((2 ^ k : Nat) : Int) := by
  have h2 : (2 : Int) ^ k = ((2 ^ k : Nat) : Int) := by rw [Int.natCast_pow]; rfl
  have h3 : ((18446744073709551616 : Nat) : Int) = 18446744073709551616 := rfl
  have h4 : ((2 ^ k : Nat) : Int) < ((18446744073709551616 : Nat) : Int) := Int.ofNat_lt.2 (pow_wd h)
  rw [h3] at h4
  rw [h2, IntKind.wrap_u64, Int.emod_eq_of_lt (Int.natCast_nonneg _) h4]
theorem Words.idx {n : Nat} {ws : List Nat} (h : Words n ws) {i : Nat} (hi : i < n) : i / 64 < ws.length := by rw [h.len]; omega
theorem Words.get {n : Nat} {ws : List Nat} (h : Words n ws) {i : Nat} (hi : i < n) : ∃ x, ws[i / 64]? = some x ∧ Wd x ∧ bit ws i = x.testBit (i % 64) := by
  have hl := h.idx hi
  refine ⟨ws[i / 64], List.getElem?_eq_getElem hl, h.lt _ (List.getElem_mem hl), ?_⟩
  unfold bit
  rw [List.getD_eq_getElem?_getD, List.getElem?_eq_getElem hl]
  rfl
/-- One word turned. -/
theorem bit_set {ws : List Nat} {k : Nat} (hk : k < ws.length) (x i : Nat) : bit (ws.set k x) i = if i / 64 = k then x.testBit (i % 64) else bit ws i := by
  unfold bit
  rw [List.getD_eq_getElem?_getD, List.getElem?_set]
  by_cases e : k = i / 64
  · rw [if_pos e, if_pos hk, if_pos e.symm]; rfl
  · rw [if_neg e, if_neg (fun h => e h.symm), List.getD_eq_getElem?_getD]

theorem and_pow (x k : Nat) : x &&& 2 ^ k = (x.testBit k).toNat * 2 ^ k := by
  refine Nat.eq_of_testBit_eq fun j => ?_
  rw [Nat.testBit_and, Nat.testBit_two_pow]
  cases h : x.testBit k with
  | false =>
    by_cases e : k = j
    · subst e; simp [h]
    · simp [e]
  | true =>
    rw [Bool.toNat_true, Nat.one_mul, Nat.testBit_two_pow]
    by_cases e : k = j
    · subst e; simp [h]
    · simp [e]
/-- In the model's words: 'x & bit', '!= 0', '== 0', 'x | bit', 'x &^ bit'. -/
theorem and_bit {x k : Nat} (hx : Wd x) (hk : k < 64) : bits .and .u64 (x : Int) ((2 ^ k : Nat) : Int) = (((x.testBit k).toNat * 2 ^ k : Nat) : Int) := by
  rw [u64_and_nat _ _ hx (pow_wd hk), and_pow]
theorem and_ne {x k : Nat} (hx : Wd x) (hk : k < 64) : (bits .and .u64 (x : Int) ((2 ^ k : Nat) : Int) != 0) = x.testBit k := by
  rw [and_bit hx hk]
  cases h : x.testBit k with
  | false => simp
  | true =>
    have : 0 < 2 ^ k := Nat.pow_pos (by omega)
    simp only [Bool.toNat_true, Nat.one_mul, bne_iff_ne, ne_eq]
    omega
theorem and_eq {x k : Nat} (hx : Wd x) (hk : k < 64) : (bits .and .u64 (x : Int) ((2 ^ k : Nat) : Int) == 0) = !x.testBit k := by
  rw [← and_ne hx hk]
  simp [bne]
theorem or_bit {x k : Nat} (hx : Wd x) (hk : k < 64) : bits .or .u64 (x : Int) ((2 ^ k : Nat) : Int) = ((x ||| 2 ^ k : Nat) : Int) := u64_or_nat _ _ hx (pow_wd hk)
/-- All bits but those of b. -/
def off (b : Nat) : Nat := 18446744073709551615 - b
theorem testBit_off {b : Nat} (hb : Wd b) (j : Nat) : (off b).testBit j = (decide (j < 64) && !b.testBit j) := by
  have e : off b = 2 ^ 64 - (b + 1) := by unfold off; omega
  rw [e, Nat.testBit_two_pow_sub_succ hb]
theorem andNot_w {x b : Nat} (hx : Wd x) (hb : Wd b) : bits .andNot .u64 (x : Int) (b : Int) = ((x &&& off b : Nat) : Int) := u64_andNot_nat _ _ hx hb
theorem or_wd {x y : Nat} (hx : Wd x) (hy : Wd y) : Wd (x ||| y) := wd_of (Nat.or_lt_two_pow (wd_pow hx) (wd_pow hy))
theorem and_wd {x : Nat} (y : Nat) (hx : Wd x) : Wd (x &&& y) := Nat.lt_of_le_of_lt Nat.and_le_left hx

/-- One element more. -/
theorem Words.add {n : Nat} {ws : List Nat} (h : Words n ws) {i x : Nat} (hi : i < n) (hx : ws[i / 64]? = some x) : Words n (ws.set (i / 64) (x ||| 2 ^ (i % 64))) ∧ ∀ j, bit (ws.set (i / 64) (x ||| 2 ^ (i % 64))) j = (decide (j = i) || bit ws j) := by
  have hl := h.idx hi
  have hxw : Wd x := h.lt x (List.mem_of_getElem? hx)
  have key : ∀ j, bit (ws.set (i / 64) (x ||| 2 ^ (i % 64))) j = (decide (j = i) || bit ws j) := fun j => by
    rw [bit_set hl]
    by_cases e : j / 64 = i / 64
    · rw [if_pos e, Nat.testBit_or, Nat.testBit_two_pow]
      have e2 : bit ws j = x.testBit (j % 64) := by unfold bit; rw [e, List.getD_eq_getElem?_getD, hx]; rfl
      rw [e2, Bool.or_comm]
      congr 1
      exact decide_eq_decide.2 (by omega)
    · rw [if_neg e, decide_eq_false (by rintro rfl; exact e rfl), Bool.false_or]
  refine ⟨⟨by rw [List.length_set]; exact h.len, fun y hy => ?_, fun j hj => ?_⟩, key⟩
  · rcases List.mem_or_eq_of_mem_set hy with h1 | h1
    · exact h.lt y h1
    · rw [h1]; exact or_wd hxw (pow_wd (by omega))
  · rw [key, h.top j hj, decide_eq_false (by omega)]; rfl
/-- One element less. -/
theorem Words.del {n : Nat} {ws : List Nat} (h : Words n ws) {i x : Nat} (hi : i < n) (hx : ws[i / 64]? = some x) : Words n (ws.set (i / 64) (x &&& off (2 ^ (i % 64)))) ∧ ∀ j, bit (ws.set (i / 64) (x &&& off (2 ^ (i % 64)))) j = (!decide (j = i) && bit ws j) := by
  have hl := h.idx hi
  have hxw : Wd x := h.lt x (List.mem_of_getElem? hx)
  have key : ∀ j, bit (ws.set (i / 64) (x &&& off (2 ^ (i % 64)))) j = (!decide (j = i) && bit ws j) := fun j => by
    rw [bit_set hl]
    by_cases e : j / 64 = i / 64
    · rw [if_pos e, Nat.testBit_and, testBit_off (pow_wd (by omega)), Nat.testBit_two_pow]
      have e2 : bit ws j = x.testBit (j % 64) := by unfold bit; rw [e, List.getD_eq_getElem?_getD, hx]; rfl
      rw [e2, decide_eq_true (by omega : j % 64 < 64), Bool.true_and, Bool.and_comm]
      congr 2
      exact decide_eq_decide.2 (by omega)
    · rw [if_neg e, decide_eq_false (by rintro rfl; exact e rfl)]; rfl
  refine ⟨⟨by rw [List.length_set]; exact h.len, fun y hy => ?_, fun j hj => ?_⟩, key⟩
  · rcases List.mem_or_eq_of_mem_set hy with h1 | h1
    · exact h.lt y h1
    · rw [h1]; exact and_wd _ hxw
  · rw [key, h.top j hj]; simp
/-- The bits say all. -/
theorem Words.ext {n : Nat} {ws vs : List Nat} (h : Words n ws) (k : Words n vs) (e : ∀ i, i < n → bit ws i = bit vs i) : ws = vs := by
  have e' : ∀ i, bit ws i = bit vs i := fun i => by
    rcases Nat.lt_or_ge i n with h1 | h1
    · exact e i h1
    · rw [h.top i h1, k.top i h1]
  refine List.ext_getElem (by rw [h.len, k.len]) fun q h1 h2 => Nat.eq_of_testBit_eq fun j => ?_
  rcases Nat.lt_or_ge j 64 with hj | hj
  · have := e' (q * 64 + j)
    unfold bit at this
    have a1 : (q * 64 + j) / 64 = q := by omega
    have a2 : (q * 64 + j) % 64 = j := by omega
    rw [a1, a2, List.getD_eq_getElem?_getD, List.getD_eq_getElem?_getD, List.getElem?_eq_getElem h1, List.getElem?_eq_getElem h2] at this
    exact this
  · have b1 : (ws[q]).testBit j = false := Nat.testBit_lt_two_pow (Nat.lt_of_lt_of_le (wd_pow (h.lt _ (List.getElem_mem h1))) (Nat.pow_le_pow_right (by omega) hj))
    have b2 : (vs[q]).testBit j = false := Nat.testBit_lt_two_pow (Nat.lt_of_lt_of_le (wd_pow (k.lt _ (List.getElem_mem h2))) (Nat.pow_le_pow_right (by omega) hj))
    rw [b1, b2]
end Go.Proofs.Ytaehfohljblmoaa

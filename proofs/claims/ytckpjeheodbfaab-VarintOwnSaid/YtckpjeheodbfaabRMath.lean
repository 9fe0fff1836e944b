/-
  Plain arithmetic for layer 2 (varint), reading: how many bytes the integer at the start takes, which integer it is, and the state that reads lead to. No program is named here.
-/
import Derived.Test.YtckpjeheodbfaabMath
import Derived.Laws.Bits64b
import Derived.WalkSmall
namespace Go.Proofs.Ytckpjeheodbfaab
open Go.RowKit

/-- How many of the first f bytes are followed by more. -/
def lead : Nat → List Int → Nat
  | 0, _ => 0
  | _ + 1, [] => 0
  | f + 1, x :: l => if 128 ≤ x then lead f l + 1 else 0
/-- The number of bytes of the integer at the start, and the error. -/
def dsize (l : List Int) : Nat × Int :=
  if lead 10 l = 10 then (0, 3)
  else match l[lead 10 l]? with
    | none => (0, 4)
    | some x => if (0 < lead 10 l ∧ x = 0) ∨ (lead 10 l = 9 ∧ x ≠ 1) then (0, 3) else (lead 10 l + 1, 0)
/-- The number that groups of seven bits make. -/
def gval : List Int → Nat
  | [] => 0
  | x :: l => (x % 128).toNat + 128 * gval l

theorem lead_le : ∀ f l, lead f l ≤ f ∧ lead f l ≤ l.length
  | 0, l => by simp [lead]
  | f + 1, [] => by simp [lead]
  | f + 1, x :: l => by
    unfold lead
    have := lead_le f l
    split <;> simp <;> omega
theorem lead_more : ∀ (f : Nat) (l : List Int) (k : Nat) (x : Int), k ≤ lead f l → k < f → l[k]? = some x → 128 ≤ x → k + 1 ≤ lead f l
  | f + 1, y :: l, 0, x, _, _, hx, h => by
    simp at hx; subst hx; unfold lead; rw [if_pos h]; omega
  | f + 1, y :: l, k + 1, x, hk, hf, hx, h => by
    unfold lead at hk ⊢
    split at hk
    · rename_i hy; rw [if_pos hy]
      have := lead_more f l k x (by omega) (by omega) (by simpa using hx) h
      omega
    · omega
  | 0, _, _, _, _, hf, _, _ => by omega
  | _ + 1, [], _, _, _, _, hx, _ => by simp at hx
theorem lead_stop : ∀ (f : Nat) (l : List Int) (k : Nat) (x : Int), k ≤ lead f l → l[k]? = some x → x < 128 → lead f l = k
  | 0, _, k, _, hk, _, _ => by simp [lead] at hk ⊢; omega
  | f + 1, y :: l, 0, x, _, hx, h => by
    simp at hx; subst hx; unfold lead; rw [if_neg (by omega)]
  | f + 1, y :: l, k + 1, x, hk, hx, h => by
    unfold lead at hk ⊢
    split at hk
    · rename_i hy; rw [if_pos hy, lead_stop f l k x (by omega) (by simpa using hx) h]
    · omega
  | _ + 1, [], _, _, _, hx, _ => by simp at hx
theorem lead_at : ∀ (f : Nat) (l : List Int) (k : Nat) (x : Int), k < lead f l → l[k]? = some x → 128 ≤ x
  | f + 1, y :: l, 0, x, hk, hx => by
    simp at hx; subst hx; unfold lead at hk; split at hk <;> omega
  | f + 1, y :: l, k + 1, x, hk, hx => by
    unfold lead at hk
    split at hk
    · exact lead_at f l k x (by omega) (by simpa using hx)
    · omega
  | 0, _, _, _, hk, _ => by simp [lead] at hk
  | _ + 1, [], _, _, _, hx => by simp at hx

theorem dsize_ten {l : List Int} (h : lead 10 l = 10) : dsize l = (0, 3) := by unfold dsize; rw [if_pos h]
theorem dsize_short {l : List Int} (h : lead 10 l = l.length) (h10 : l.length < 10) : dsize l = (0, 4) := by
  unfold dsize; rw [if_neg (by omega), h, List.getElem?_eq_none (Nat.le_refl _)]
theorem dsize_bad {l : List Int} {x : Int} (h : lead 10 l < 10) (hx : l[lead 10 l]? = some x) (hb : (0 < lead 10 l ∧ x = 0) ∨ (lead 10 l = 9 ∧ x ≠ 1)) : dsize l = (0, 3) := by
  unfold dsize; rw [if_neg (by omega), hx]; simp only []; rw [if_pos hb]
theorem dsize_ok {l : List Int} {x : Int} (h : lead 10 l < 10) (hx : l[lead 10 l]? = some x) (hb : ¬ ((0 < lead 10 l ∧ x = 0) ∨ (lead 10 l = 9 ∧ x ≠ 1))) : dsize l = (lead 10 l + 1, 0) := by
  unfold dsize; rw [if_neg (by omega), hx]; simp only []; rw [if_neg hb]
/-- What an accepted size says. -/
theorem dsize_inv {l : List Int} (h : (dsize l).2 = 0) : ∃ n x, dsize l = (n + 1, 0) ∧ n < 10 ∧ n + 1 ≤ l.length ∧ l[n]? = some x ∧ (∀ j y, j < n → l[j]? = some y → 128 ≤ y) ∧ ¬ ((0 < n ∧ x = 0) ∨ (n = 9 ∧ x ≠ 1)) ∧ lead 10 l = n := by
  have hle := lead_le 10 l
  by_cases h10 : lead 10 l = 10
  · rw [dsize_ten h10] at h; simp at h
  · cases hx : l[lead 10 l]? with
    | none => unfold dsize at h; rw [if_neg h10, hx] at h; simp at h
    | some x =>
      have hlt : lead 10 l < l.length := by
        rcases Nat.lt_or_ge (lead 10 l) l.length with g | g
        · exact g
        · rw [List.getElem?_eq_none g] at hx; cases hx
      by_cases hb : (0 < lead 10 l ∧ x = 0) ∨ (lead 10 l = 9 ∧ x ≠ 1)
      · rw [dsize_bad (by omega) hx hb] at h; simp at h
      · exact ⟨lead 10 l, x, dsize_ok (by omega) hx hb, by omega, by omega, hx, fun j y hj hy => lead_at 10 l j y hj hy, hb, rfl⟩
theorem dsize_pos (l : List Int) (h : (dsize l).2 = 0) : 1 ≤ (dsize l).1 ∧ (dsize l).1 ≤ 10 ∧ (dsize l).1 ≤ l.length := by
  obtain ⟨n, x, e, h1, h2, _⟩ := dsize_inv h
  rw [e]; exact ⟨by simp, by simp; omega, h2⟩
theorem dsize_err (l : List Int) : (dsize l).2 = 0 ∨ (dsize l).2 = 3 ∨ (dsize l).2 = 4 := by
  unfold dsize
  split
  · simp
  · split
    · simp
    · split <;> simp

theorem gval_append : ∀ l m : List Int, gval (l ++ m) = gval l + 128 ^ l.length * gval m
  | [], m => by simp [gval]
  | x :: l, m => by
    show (x % 128).toNat + 128 * gval (l ++ m) = ((x % 128).toNat + 128 * gval l) + 128 ^ (l.length + 1) * gval m
    rw [gval_append l m, Nat.pow_succ, Nat.mul_add, ← Nat.mul_assoc, Nat.mul_comm 128 (128 ^ l.length)]
    omega
theorem gval_lt : ∀ l : List Int, gval l < 128 ^ l.length
  | [] => by simp [gval]
  | x :: l => by
    have h := gval_lt l
    have hx : (x % 128).toNat < 128 := by omega
    show (x % 128).toNat + 128 * gval l < 128 ^ (l.length + 1)
    rw [Nat.pow_succ]
    omega
theorem gval_snoc (l : List Int) (x : Int) : gval (l ++ [x]) = gval l + 128 ^ l.length * (x % 128).toNat := by
  rw [gval_append]; simp [gval]

/-- An accepted integer fits 64 bits. -/
theorem gval_word {l : List Int} (h : (dsize l).2 = 0) : gval (l.take (dsize l).1) < 18446744073709551616 := by
  obtain ⟨n, x, e, h1, h2, hx, _, hb, _⟩ := dsize_inv h
  rw [e]
  show gval (l.take (n + 1)) < _
  rw [List.take_add_one, hx]
  show gval (l.take n ++ [x]) < _
  rw [gval_snoc, List.length_take, Nat.min_eq_left (by omega)]
  have hlt := gval_lt (l.take n)
  rw [List.length_take, Nat.min_eq_left (by omega)] at hlt
  by_cases h9 : n = 9
  · subst h9
    have hx1 : x = 1 := by omega
    subst hx1
    have : (128 : Nat) ^ 9 = 9223372036854775808 := by decide
    rw [this] at hlt ⊢
    have : ((1 : Int) % 128).toNat = 1 := by decide
    rw [this]; omega
  · have hx7 : (x % 128).toNat ≤ 127 := by omega
    have hp : (128 : Nat) ^ n ≤ 128 ^ 8 := Nat.pow_le_pow_right (by omega) (by omega)
    have h8 : (128 : Nat) ^ 8 = 72057594037927936 := by decide
    rw [h8] at hp
    have := Nat.mul_le_mul hp hx7
    omega
theorem and_one {z : Nat} (h : InWord z) : bits .and .u64 (z : Int) 1 = ((z % 2 : Nat) : Int) := by
  unfold InWord at h; rw [and_one_u64 _ (by omega) (by omega)]; omega
theorem unzz_odd {z : Nat} (h : InWord z) (ho : z % 2 = 1) : wrap64 (bits .xor .u64 IntKind.u64.max ((z : Int) / 2)) = unzz z := by
  unfold InWord at h
  have e : (z : Int) / 2 = ((z / 2 : Nat) : Int) := by omega
  rw [e, not_u64 _ (by omega)]
  unfold unzz wrap64; rw [if_neg (by omega)]; omega
theorem unzz_even {z : Nat} (h : InWord z) (ho : z % 2 = 0) : wrap64 ((z : Int) / 2) = unzz z := by
  unfold InWord at h
  unfold unzz wrap64; rw [if_pos ho]; omega
/-- A list of bytes. -/
def Bytes (l : List Int) : Prop := ∀ x ∈ l, 0 ≤ x ∧ x ≤ 255
theorem Bytes.take {l : List Int} (h : Bytes l) (n : Nat) : Bytes (l.take n) := fun x hx => h x (List.mem_of_mem_take hx)
theorem Bytes.drop {l : List Int} (h : Bytes l) (n : Nat) : Bytes (l.drop n) := fun x hx => h x (List.mem_of_mem_drop hx)
theorem Bytes.nil : Bytes [] := fun x hx => by cases hx
theorem pow_128 (k : Nat) : (128 : Nat) ^ k = 2 ^ (7 * k) := by rw [Nat.pow_mul]
theorem gval_mono (l : List Int) {j k : Nat} (h : j ≤ k) : gval (l.take j) ≤ gval (l.take k) := by
  have e : l.take k = l.take j ++ (l.take k).drop j := by
    have := List.take_append_drop j (l.take k)
    rw [List.take_take, Nat.min_eq_left h] at this
    exact this.symm
  rw [e, gval_append]; omega
theorem gval_take_succ {l : List Int} {k : Nat} {x : Int} (hx : l[k]? = some x) : gval (l.take (k + 1)) = gval (l.take k) + 128 ^ k * (x % 128).toNat := by
  have hk : k < l.length := by
    rcases Nat.lt_or_ge k l.length with g | g
    · exact g
    · rw [List.getElem?_eq_none g] at hx; cases hx
  rw [List.take_add_one, hx]
  show gval (l.take k ++ [x]) = _
  rw [gval_snoc, List.length_take, Nat.min_eq_left (by omega)]
/-- The code's next group. -/
theorem or_group {l : List Int} {k : Nat} {x : Int} (hx : l[k]? = some x) (hb : 0 ≤ x ∧ x ≤ 255) (hw : InWord (gval (l.take (k + 1)))) :
    bits .or .u64 ((gval (l.take k) : Nat) : Int) (IntKind.u64.wrap (IntKind.u64.wrap (x.tmod 128) * 2 ^ (7 * k))) = ((gval (l.take (k + 1)) : Nat) : Int) := by
  unfold InWord at hw
  have hs := gval_take_succ hx
  have hlt : gval (l.take k) < 2 ^ (7 * k) := by
    rw [← pow_128]
    refine Nat.lt_of_lt_of_le (gval_lt _) ?_
    exact Nat.pow_le_pow_right (by omega) (List.length_take_le _ _)
  rw [pow_128] at hs
  obtain ⟨y, hy⟩ : ∃ y : Nat, (x % 128).toNat = y := ⟨_, rfl⟩
  rw [hy] at hs
  have e1 : IntKind.u64.wrap (x.tmod 128) = (y : Int) := by
    rw [Int.tmod_eq_emod_of_nonneg hb.1, IntKind.wrap_u64]; omega
  have e2 : IntKind.u64.wrap ((y : Int) * 2 ^ (7 * k)) = ((2 ^ (7 * k) * y : Nat) : Int) := by
    have e3 : (y : Int) * 2 ^ (7 * k) = ((2 ^ (7 * k) * y : Nat) : Int) := by
      rw [Int.natCast_mul, Int.mul_comm]; congr 1
    rw [e3]
    exact IntWalk.u64_in _ (by omega)
  rw [e1, e2, u64_or_nat _ _ (by omega) (by omega), hs]
  have := Nat.two_pow_add_eq_or_of_lt hlt y
  rw [Nat.or_comm, ← this, Nat.add_comm]
end Go.Proofs.Ytckpjeheodbfaab

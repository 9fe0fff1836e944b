/-
  Plain arithmetic for layer 2 (varint): the encoding of an integer as a list of bytes, and what is read back. No program is named here.
-/
import Derived.WalkKit
import Derived.Laws.BitsAllLaws
import Derived.Lib.Zigzag
namespace Go.Proofs.Ytckpjeheodbfaab
open Go.RowKit

/-- 2n, or -2n - 1. -/
def zz (n : Int) : Nat := if n < 0 then (-2 * n - 1).toNat else (2 * n).toNat
def unzz (z : Nat) : Int := if z % 2 = 0 then (z / 2 : Nat) else -((z / 2 : Nat) : Int) - 1
/-- The groups of seven bits of z, the lowest first; f + 1 of them at the most. -/
def groups : Nat → Nat → List Int
  | 0, z => [(z : Int)]
  | f + 1, z => if z < 128 then [(z : Int)] else ((z % 128 + 128 : Nat) : Int) :: groups f (z / 128)
/-- It fits 64 bits; it has no more than f + 1 groups. -/
def InWord (z : Nat) : Prop := z < 18446744073709551616
def InGroups (f z : Nat) : Prop := z < 128 ^ (f + 1)
/-- The encoding of an integer. -/
def enc (n : Int) : List Int := groups 9 (zz n)
/-- The encodings of the integers of a list, one behind the other. -/
def encs : List Int → List Int
  | [] => []
  | n :: l => enc n ++ encs l
def encInts (l : List Int) : List Int := enc l.length ++ encs l
def encStr (s : List Int) : List Int := enc s.length ++ s

theorem groups_len : ∀ f z, 1 ≤ (groups f z).length ∧ (groups f z).length ≤ f + 1
  | 0, z => by simp [groups]
  | f + 1, z => by
    unfold groups
    split
    · simp
    · have := groups_len f (z / 128)
      simp; omega
theorem enc_len (n : Int) : 1 ≤ (enc n).length ∧ (enc n).length ≤ 10 := groups_len 9 _
theorem groups_range : ∀ f z, z < 128 ^ (f + 1) → ∀ x ∈ groups f z, 0 ≤ x ∧ x ≤ 255
  | 0, z, h, x, hx => by
    simp [groups] at hx; subst hx; simp at h; omega
  | f + 1, z, h, x, hx => by
    unfold groups at hx
    split at hx
    · simp at hx; subst hx; omega
    · simp only [List.mem_cons] at hx
      rcases hx with rfl | hx
      · omega
      · exact groups_range f (z / 128) (by rw [Nat.pow_succ] at h; omega) x hx
theorem zz_lt {n : Int} (h : -9223372036854775808 ≤ n ∧ n ≤ 9223372036854775807) : zz n < 18446744073709551616 := by unfold zz; split <;> omega
theorem zz_small {n : Int} (h : -9223372036854775808 ≤ n ∧ n ≤ 9223372036854775807) : zz n < 128 ^ (9 + 1) := by have := zz_lt h; omega
theorem unzz_zz (n : Int) : unzz (zz n) = n := by unfold unzz zz; split <;> split <;> omega
theorem zz_unzz (z : Nat) : zz (unzz z) = z := by unfold unzz zz; split <;> split <;> omega
theorem unzz_range {z : Nat} (h : z < 18446744073709551616) : -9223372036854775808 ≤ unzz z ∧ unzz z ≤ 9223372036854775807 := by unfold unzz; split <;> omega

/-- The code's and the document's byte that is followed by more. -/
theorem or_128 : ∀ x : Fin 256, (x.1 ||| 128) = x.1 % 128 + 128 := by decide +kernel
theorem byte_more (z : Nat) : bits .or .u8 (IntKind.u8.wrap (z : Int)) 128 = ((z % 128 + 128 : Nat) : Int) := by
  have e : IntKind.u8.wrap (z : Int) = ((z % 256 : Nat) : Int) := by rw [IntKind.wrap_u8]; omega
  rw [e]
  have h := u8_or_nat (z % 256) 128 (by omega) (by omega)
  have g := or_128 ⟨z % 256, by omega⟩
  simp only at g
  rw [show ((128 : Nat) : Int) = (128 : Int) from rfl] at h
  rw [h, g]
  omega
theorem byte_more2 (z : Nat) : bits .or .u8 ((z : Int) % 256) 128 = ((z % 128 + 128 : Nat) : Int) := by
  rw [← byte_more, IntKind.wrap_u8]
theorem byte_last {z : Nat} (h : z < 128) : IntKind.u8.wrap (z : Int) = (z : Int) := by rw [IntKind.wrap_u8]; omega
theorem not_u64 (b : Nat) (hb : b < 18446744073709551616) : bits .xor .u64 IntKind.u64.max (b : Int) = ((18446744073709551615 - b : Nat) : Int) := by
  have h := u64_xor_nat 18446744073709551615 b (by omega) hb
  have g := Lib.xor_ones64 b hb
  have e : (2 ^ 64 - 1 : Nat) = 18446744073709551615 := rfl
  rw [e] at g
  rw [g] at h
  exact h
theorem zz_neg {n : Int} (h : -9223372036854775808 ≤ n ∧ n ≤ 9223372036854775807) (hn : n < 0) : bits .xor .u64 IntKind.u64.max (IntKind.u64.wrap (IntKind.u64.wrap n * 2)) = ((zz n : Nat) : Int) := by
  have e : IntKind.u64.wrap (IntKind.u64.wrap n * 2) = ((2 * n + 18446744073709551616).toNat : Int) := by
    simp only [IntKind.wrap_u64]; omega
  rw [e, not_u64 _ (by omega)]
  unfold zz; rw [if_pos hn]; omega
theorem zz_pos {n : Int} (h : -9223372036854775808 ≤ n ∧ n ≤ 9223372036854775807) (hn : ¬ n < 0) : IntKind.u64.wrap (IntKind.u64.wrap n * 2) = ((zz n : Nat) : Int) := by
  unfold zz; rw [if_neg hn]; simp only [IntKind.wrap_u64]; omega
theorem quo_128 {z : Nat} (h : InWord z) : IntKind.u64.wrap ((z : Int) / 128) = ((z / 128 : Nat) : Int) := by
  unfold InWord at h; rw [IntKind.wrap_u64]; omega
theorem groups_step {f z : Nat} (h : z < 128 ^ (f + 1)) (hz : 128 ≤ z) : ∃ g, groups f z = ((z % 128 + 128 : Nat) : Int) :: groups g (z / 128) ∧ z / 128 < 128 ^ (g + 1) := by
  cases f with
  | zero => simp at h; omega
  | succ f =>
    refine ⟨f, ?_, by rw [Nat.pow_succ] at h; omega⟩
    show (if z < 128 then _ else _) = _
    rw [if_neg (by omega)]
theorem groups_last {f z : Nat} (hz : z < 128) : groups f z = [(z : Int)] := by
  cases f with
  | zero => rfl
  | succ f => show (if z < 128 then _ else _) = _; rw [if_pos hz]
theorem encs_append : ∀ l m : List Int, encs (l ++ m) = encs l ++ encs m
  | [], _ => rfl
  | n :: l, m => by
    show enc n ++ encs (l ++ m) = (enc n ++ encs l) ++ encs m
    rw [encs_append l m, List.append_assoc]
theorem encs_snoc (l : List Int) (n : Int) : encs (l ++ [n]) = encs l ++ enc n := by
  rw [encs_append]; show encs l ++ (enc n ++ []) = _; rw [List.append_nil]
theorem encs_len : ∀ l : List Int, l.length ≤ (encs l).length ∧ (encs l).length ≤ 10 * l.length
  | [] => by simp [encs]
  | n :: l => by
    have h1 := enc_len n
    have h2 := encs_len l
    show _ ≤ (enc n ++ encs l).length ∧ (enc n ++ encs l).length ≤ _
    rw [List.length_append, List.length_cons]; omega
theorem encs_take (l : List Int) (k : Nat) (x : Int) (h : l[k]? = some x) : encs (l.take (k + 1)) = encs (l.take k) ++ enc x := by
  rw [List.take_add_one, h]; exact encs_snoc _ _
end Go.Proofs.Ytckpjeheodbfaab

/-
  The hash of layer 4 (intern), as a function of bytes: no two byte strings that differ in one byte have one hash. No program is named here.
-/
import Derived.Test.YtcenbpjkndhlgaaDict
import Derived.Laws.Bits64
namespace Go.Proofs.Ytcenbpjkndhlgaa
open Go.RowKit

/-- A word of 64 bits. -/
def W64 (h : Int) : Prop := 0 ≤ h ∧ h < 18446744073709551616
def fstep (h b : Int) : Int := ((h.toNat ^^^ b.toNat : Nat) : Int) * 1099511628211 % 18446744073709551616
def fnv (l : List Int) : Int := l.foldl fstep 14695981039346656037
theorem fstep_lt (h b : Int) : W64 (fstep h b) := by unfold W64 fstep; omega
theorem fold_lt (l : List Int) : ∀ h, W64 h → W64 (l.foldl fstep h) := by
  induction l with
  | nil => exact fun h hh => hh
  | cons b r ih => exact fun h _ => ih _ (fstep_lt h b)
theorem basis_lt : W64 14695981039346656037 := by unfold W64; omega
theorem fnv_lt (l : List Int) : W64 (fnv l) := fold_lt l _ basis_lt
theorem fnv_snoc (l : List Int) (b : Int) : fnv (l ++ [b]) = fstep (fnv l) b := by unfold fnv; rw [List.foldl_append]; rfl
theorem times_back (x : Int) : x * 1099511628211 % 18446744073709551616 * 14886173955864302971 % 18446744073709551616 = x % 18446744073709551616 := by
  rw [Int.mul_emod, Int.emod_emod_of_dvd _ (Int.dvd_refl _), ← Int.mul_emod]
  have e : x * 1099511628211 * 14886173955864302971 = x + 18446744073709551616 * (887285111055 * x) := by
    rw [Int.mul_assoc, ← Int.mul_assoc 18446744073709551616]
    have e1 : (1099511628211 : Int) * 14886173955864302971 = 1 + 18446744073709551616 * 887285111055 := by decide
    rw [e1, Int.mul_add, Int.mul_one, Int.mul_comm x]
  rw [e, Int.add_mul_emod_self_left]
theorem times_inj {x y : Int} (hx : W64 x) (hy : W64 y) (h : x * 1099511628211 % 18446744073709551616 = y * 1099511628211 % 18446744073709551616) : x = y := by
  have h1 := times_back x
  rw [h, times_back y, Int.emod_eq_of_lt hx.1 hx.2, Int.emod_eq_of_lt hy.1 hy.2] at h1
  exact h1.symm
theorem w64_nat {n : Nat} (h : n < 2 ^ 64) : W64 (n : Int) := by
  have h1 : (n : Int) < ((2 ^ 64 : Nat) : Int) := Int.ofNat_lt.2 h
  have h2 : ((2 ^ 64 : Nat) : Int) = 18446744073709551616 := by decide
  rw [h2] at h1
  exact ⟨Int.natCast_nonneg _, h1⟩
theorem nat_w64 {h : Int} (hh : W64 h) : h.toNat < 2 ^ 64 := by
  obtain ⟨h0, h1⟩ := hh
  have h2 : ((2 ^ 64 : Nat) : Int) = 18446744073709551616 := by decide
  refine Int.ofNat_lt.1 ?_
  rw [h2, Int.toNat_of_nonneg h0]; exact h1
theorem byte_w {b : Int} (h : 0 ≤ b ∧ b ≤ 255) : W64 b := by unfold W64; omega
theorem xor_w {h b : Int} (hh : W64 h) (hb : 0 ≤ b ∧ b ≤ 255) : W64 ((h.toNat ^^^ b.toNat : Nat) : Int) := w64_nat (Nat.xor_lt_two_pow (nat_w64 hh) (nat_w64 (byte_w hb)))
theorem xor_right {a b c : Nat} (h : a ^^^ b = c ^^^ b) : a = c := by
  have h1 := congrArg (· ^^^ b) h
  simpa [Nat.xor_assoc] using h1
theorem xor_left {a b c : Nat} (h : a ^^^ b = a ^^^ c) : b = c := xor_right (by rw [Nat.xor_comm b a, h, Nat.xor_comm])
theorem fstep_state {h h' b : Int} (hh : W64 h) (hh' : W64 h') (hb : 0 ≤ b ∧ b ≤ 255) (e : fstep h b = fstep h' b) : h = h' := by
  have h1 := times_inj (xor_w hh hb) (xor_w hh' hb) e
  have h2 := xor_right (Int.ofNat_inj.1 h1)
  rw [← Int.toNat_of_nonneg hh.1, h2, Int.toNat_of_nonneg hh'.1]
theorem fstep_byte {h b b' : Int} (hh : W64 h) (hb : 0 ≤ b ∧ b ≤ 255) (hb' : 0 ≤ b' ∧ b' ≤ 255) (e : fstep h b = fstep h b') : b = b' := by
  have h1 := times_inj (xor_w hh hb) (xor_w hh hb') e
  have h2 := xor_left (Int.ofNat_inj.1 h1)
  omega
theorem fold_state : ∀ (l : List Int) (h h' : Int), Byt l → W64 h → W64 h' → l.foldl fstep h = l.foldl fstep h' → h = h'
  | [], _, _, _, _, _, e => e
  | b :: r, h, h', hl, hh, hh', e => fstep_state hh hh' (hl b (by simp)) (fold_state r _ _ (fun z hz => hl z (by simp [hz])) (fstep_lt _ _) (fstep_lt _ _) e)
/-- One byte turned turns the hash. -/
theorem fnv_set {l : List Int} {i : Nat} {x y : Int} (hl : Byt l) (hx : l[i]? = some x) (hy : 0 ≤ y ∧ y ≤ 255) (hne : y ≠ x) : fnv (l.set i y) ≠ fnv l := by
  intro e
  obtain ⟨hi, hxi⟩ := List.getElem?_eq_some_iff.1 hx
  have e1 : l = l.take i ++ x :: l.drop (i + 1) := by rw [← hxi, ← List.drop_eq_getElem_cons hi, List.take_append_drop]
  have e2 : l.set i y = l.take i ++ y :: l.drop (i + 1) := by
    rw [List.set_eq_take_append_cons_drop, if_pos hi]
  rw [e2] at e
  conv at e => rhs; rw [e1]
  unfold fnv at e
  rw [List.foldl_append, List.foldl_append, List.foldl_cons, List.foldl_cons] at e
  have h1 := fold_state _ _ _ (fun z hz => hl z (List.mem_of_mem_drop hz)) (fstep_lt _ _) (fstep_lt _ _) e
  have hxb : 0 ≤ x ∧ x ≤ 255 := hl x (by rw [← hxi]; exact List.getElem_mem hi)
  exact hne (fstep_byte (fold_lt _ _ basis_lt) hy hxb h1)
/-- In the model's words. -/
theorem fstep_model (h : Int) (hh : W64 h) (b : Int) (hb : 0 ≤ b ∧ b ≤ 255) : IntKind.u64.wrap (bits BinOp.xor IntKind.u64 h (IntKind.u64.wrap b) * 1099511628211) = fstep h b := by
  have e : IntKind.u64.wrap b = ((b.toNat : Nat) : Int) := by rw [IntKind.wrap_u64]; omega
  have e2 : h = ((h.toNat : Nat) : Int) := (Int.toNat_of_nonneg hh.1).symm
  have h1 : h.toNat < 18446744073709551616 := nat_w64 hh
  have h2 : b.toNat < 18446744073709551616 := nat_w64 (byte_w hb)
  rw [e]
  conv => lhs; rw [e2]
  rw [bits_xor_u64_nat _ _ h1 h2, IntKind.wrap_u64]
  rfl
theorem fnv_a : fnv [97] = 12638187200555641996 := by decide
end Go.Proofs.Ytcenbpjkndhlgaa

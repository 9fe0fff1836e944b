/-
  What reads lead to, layer 2 (varint): integers, lengths, lists and strings, one after the other. No program is named here.
-/
import Derived.Test.YtckpjeheodbfaabRMath
namespace Go.Proofs.Ytckpjeheodbfaab
open Go.RowKit

/-- What reading an integer gives: the integer, whether it was read, what is left, and the error. -/
def rI (l : List Int) (e : Int) : Int × Bool × List Int × Int :=
  if e ≠ 0 then (0, false, l, e) else if (dsize l).2 ≠ 0 then (0, false, [], (dsize l).2) else (unzz (gval (l.take (dsize l).1)), true, l.drop (dsize l).1, 0)
/-- What reading a length gives. -/
def rL (l : List Int) (e : Int) : Int × Bool × List Int × Int :=
  if (rI l e).2.1 = false then (0, false, (rI l e).2.2.1, (rI l e).2.2.2)
  else if (rI l e).1 < 0 then (0, false, [], 3)
  else if ((rI l e).2.2.1.length : Int) < (rI l e).1 then (0, false, [], 4)
  else ((rI l e).1, true, (rI l e).2.2.1, 0)
/-- What reading n integers gives: their list, unless one fails. -/
def rN : Nat → List Int → Int → Option (List Int) × List Int × Int
  | 0, l, e => (some [], l, e)
  | n + 1, l, e =>
    if (rI l e).2.1 = false then (none, (rI l e).2.2.1, (rI l e).2.2.2)
    else ((rN n (rI l e).2.2.1 (rI l e).2.2.2).1.map ((rI l e).1 :: ·), (rN n (rI l e).2.2.1 (rI l e).2.2.2).2)
/-- What reading a list gives. -/
def rLi (l : List Int) (e : Int) : List Int × List Int × Int :=
  if (rL l e).2.1 = false then ([], (rL l e).2.2.1, (rL l e).2.2.2)
  else ((rN (rL l e).1.toNat (rL l e).2.2.1 (rL l e).2.2.2).1.getD [], (rN (rL l e).1.toNat (rL l e).2.2.1 (rL l e).2.2.2).2)
/-- What reading a string gives. -/
def rS (l : List Int) (e : Int) : List Int × List Int × Int :=
  if (rL l e).2.1 = false then ([], (rL l e).2.2.1, (rL l e).2.2.2)
  else ((rL l e).2.2.1.take (rL l e).1.toNat, (rL l e).2.2.1.drop (rL l e).1.toNat, 0)

/-- What has been read, ahead of what is read further on. -/
def ahead (m : List Int) (r : Option (List Int) × List Int × Int) : Option (List Int) × List Int × Int := (r.1.map (m ++ ·), r.2)
theorem ahead_nil (r : Option (List Int) × List Int × Int) : ahead [] r = r := by
  obtain ⟨a, b⟩ := r; cases a <;> rfl
theorem rN_fail {n : Nat} {l : List Int} {e : Int} (h : (rI l e).2.1 = false) : rN (n + 1) l e = (none, (rI l e).2.2.1, (rI l e).2.2.2) := by
  show (if _ then _ else _) = _; rw [if_pos h]
theorem rN_go {n : Nat} {l : List Int} {e : Int} (h : (rI l e).2.1 = true) (m : List Int) : ahead m (rN (n + 1) l e) = ahead (m ++ [(rI l e).1]) (rN n (rI l e).2.2.1 (rI l e).2.2.2) := by
  have h1 : rN (n + 1) l e = ((rN n (rI l e).2.2.1 (rI l e).2.2.2).1.map ((rI l e).1 :: ·), (rN n (rI l e).2.2.1 (rI l e).2.2.2).2) := by
    show (if _ then _ else _) = _; rw [if_neg (by rw [h]; simp)]
  rw [h1]
  unfold ahead
  cases (rN n (rI l e).2.2.1 (rI l e).2.2.2).1 <;> simp

theorem rI_ok {l : List Int} {e : Int} (h : (rI l e).2.1 = true) : (rI l e).2.2.2 = 0 := by
  unfold rI at h ⊢
  split at h <;> rename_i h1
  · simp at h
  · rw [if_neg h1]
    split at h <;> rename_i h2
    · simp at h
    · rw [if_neg h2]
theorem rI_bytes {l : List Int} {e : Int} (h : Bytes l) : Bytes (rI l e).2.2.1 := by
  unfold rI
  split
  · exact h
  · split
    · exact Bytes.nil
    · exact h.drop _
theorem rI_word (l : List Int) (e : Int) : -9223372036854775808 ≤ (rI l e).1 ∧ (rI l e).1 ≤ 9223372036854775807 := by
  unfold rI
  split
  · simp
  · split
    · simp
    · rename_i h
      exact unzz_range (gval_word (by simpa using h))
theorem rL_bytes {l : List Int} {e : Int} (h : Bytes l) : Bytes (rL l e).2.2.1 := by
  unfold rL
  split
  · exact rI_bytes h
  · split
    · exact Bytes.nil
    · split
      · exact Bytes.nil
      · exact rI_bytes h
/-- An accepted length is at most the number of bytes left, and there is no error. -/
theorem rL_ok {l : List Int} {e : Int} (h : (rL l e).2.1 = true) : 0 ≤ (rL l e).1 ∧ (rL l e).1 ≤ (rL l e).2.2.1.length ∧ (rL l e).2.2.2 = 0 := by
  unfold rL at h ⊢
  by_cases h1 : (rI l e).2.1 = false
  · rw [if_pos h1] at h; simp at h
  · rw [if_neg h1] at h ⊢
    by_cases h2 : (rI l e).1 < 0
    · rw [if_pos h2] at h; simp at h
    · rw [if_neg h2] at h ⊢
      by_cases h3 : ((rI l e).2.2.1.length : Int) < (rI l e).1
      · rw [if_pos h3] at h; simp at h
      · rw [if_neg h3]; exact ⟨by simp; omega, by simp; omega, rfl⟩
theorem rI_len (l : List Int) (e : Int) : (rI l e).2.2.1.length ≤ l.length := by
  unfold rI
  split
  · simp
  · split
    · simp
    · simp
theorem rL_len (l : List Int) (e : Int) : (rL l e).2.2.1.length ≤ l.length := by
  have := rI_len l e
  unfold rL
  split
  · exact this
  · split
    · simp
    · split
      · simp
      · exact this
/-- An integer was read if and only if there is no error. -/
theorem rI_iff (l : List Int) (e : Int) : (rI l e).2.1 = true ↔ (rI l e).2.2.2 = 0 := by
  unfold rI
  split
  · rename_i h; simpa using h
  · split
    · rename_i h; simpa using h
    · simp
theorem rI_none {l : List Int} {e : Int} (h : (rI l e).2.1 = false) : (rI l e).1 = 0 := by
  unfold rI at h ⊢
  split at h <;> rename_i h1
  · rw [if_pos h1]
  · rw [if_neg h1]
    split at h <;> rename_i h2
    · rw [if_pos h2]
    · simp at h
/-- The document's reading, from the last group to the first. -/
theorem gval_drop {l : List Int} {m j : Nat} {x : Int} (hx : l[j]? = some x) (hj : j < m) : gval ((l.take m).drop j) = (x % 128).toNat + 128 * gval ((l.take m).drop (j + 1)) := by
  have hl : j < l.length := by
    rcases Nat.lt_or_ge j l.length with g | g
    · exact g
    · rw [List.getElem?_eq_none g] at hx; cases hx
  have hlen : j < (l.take m).length := by rw [List.length_take]; omega
  rw [List.drop_eq_getElem_cons hlen]
  have e : (l.take m)[j] = x := by
    rw [List.getElem_take]
    rw [List.getElem?_eq_getElem hl] at hx
    exact Option.some.inj hx
  rw [e]; rfl
theorem gval_drop_le (l : List Int) (j : Nat) : gval (l.drop j) ≤ gval l := by
  induction j generalizing l with
  | zero => simp
  | succ j ih =>
    cases l with
    | nil => simp
    | cons x l =>
      show gval (l.drop j) ≤ (x % 128).toNat + 128 * gval l
      have := ih l; omega
theorem mul_group {l : List Int} {m j : Nat} {x : Int} (hx : l[j]? = some x) (hb : 0 ≤ x ∧ x ≤ 255) (hj : j < m) (hw : InWord (gval (l.take m))) :
    IntKind.u64.wrap (IntKind.u64.wrap (((gval ((l.take m).drop (j + 1)) : Nat) : Int) * 128) + IntKind.u64.wrap (x.tmod 128)) = ((gval ((l.take m).drop j) : Nat) : Int) := by
  unfold InWord at hw
  have h1 := gval_drop hx hj
  have h2 := gval_drop_le (l.take m) j
  have e1 : IntKind.u64.wrap (x.tmod 128) = ((x % 128).toNat : Int) := by
    rw [Int.tmod_eq_emod_of_nonneg hb.1, IntKind.wrap_u64]; omega
  rw [e1]
  generalize gval ((l.take m).drop (j + 1)) = q at *
  generalize gval ((l.take m).drop j) = r at *
  simp only [IntKind.wrap_u64]; omega
theorem rL_iff (l : List Int) (e : Int) : (rL l e).2.1 = true ↔ (rL l e).2.2.2 = 0 := by
  unfold rL
  split
  · rename_i h
    have := rI_iff l e
    simp only [h] at this
    simpa using this
  · split
    · simp
    · split <;> simp
theorem rL_none {l : List Int} {e : Int} (h : (rL l e).2.1 = false) : (rL l e).1 = 0 := by
  unfold rL at h ⊢
  split at h <;> rename_i h1
  · rw [if_pos h1]
  · rw [if_neg h1]
    split at h <;> rename_i h2
    · rw [if_pos h2]
    · rw [if_neg h2]
      split at h <;> rename_i h3
      · rw [if_pos h3]
      · simp at h
end Go.Proofs.Ytckpjeheodbfaab

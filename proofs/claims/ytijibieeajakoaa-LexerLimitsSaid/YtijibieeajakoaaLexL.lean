/-
  Layer 13 (lexer): the scan of a repeated piece. No program is named here.
-/
import Derived.Test.YtijibieeajakoaaLexU
namespace Go.Proofs.Ytijibieeajakoaa
open Go.RowKit

theorem scan_fuel : ∀ (n m : Nat) (L : List UInt8) (i k : Nat), L.length ≤ n → L.length ≤ m → scan n L i k = scan m L i k
  | n, m, [], i, k, _, _ => by rw [scan_nil, scan_nil]
  | 0, _, c :: r, _, _, h, _ => by simp at h
  | _ + 1, 0, c :: r, _, _, _, h => by simp at h
  | n + 1, m + 1, c :: r, i, k, h1, h2 => by
    unfold scan
    split
    · exact scan_fuel n m r _ _ (by simpa using h1) (by simpa using h2)
    · split
      · rfl
      · split
        · rename_i he
          have hp := tokLen_pos he
          have hl := tokLen_le (l := c :: r) (by simp)
          rw [scan_fuel n m ((c :: r).drop (tokLen (c :: r))) _ _ (by rw [List.length_drop]; simp at h1 ⊢; omega) (by rw [List.length_drop]; simp at h2 ⊢; omega)]
        · rfl
/-- Blanks alone. -/
theorem scan_piece0 : ∀ (n : Nat) (P : List UInt8) (i0 k0 : Nat), P.length ≤ n → (scan n P i0 k0).1 = [] → (scan n P i0 k0).2.2 = 0 → ∀ m R i k, P.length + 1 + R.length ≤ m → scan m (P ++ 32 :: R) i k = scan R.length R (i + P.length + 1) k
  | n, [], i0, k0, _, _, _, m, R, i, k, hm => by
    obtain ⟨m', rfl⟩ : ∃ m', m = m' + 1 := ⟨m - 1, by simp at hm; omega⟩
    have hbl : isBl 32 = true := rfl
    rw [List.nil_append, scan, if_pos hbl]
    exact scan_fuel _ _ R _ _ (by simp at hm; omega) (Nat.le_refl _)
  | 0, c :: r, _, _, h, _, _, _, _, _, _, _ => by simp at h
  | n + 1, c :: r, i0, k0, hn, h1, h2, m, R, i, k, hm => by
    obtain ⟨m', rfl⟩ : ∃ m', m = m' + 1 := ⟨m - 1, by simp at hm; omega⟩
    by_cases hb : isBl c = true
    · rw [scan, if_pos hb] at h1 h2
      rw [List.cons_append, scan, if_pos hb, scan_piece0 n r _ _ (by simpa using hn) h1 h2 m' R (i + 1) k (by simp at hm; omega)]
      congr 1; simp; omega
    · exfalso
      rw [scan, if_neg hb] at h1 h2
      split at h2
      · simp at h2
      · rename_i hk
        rw [if_neg hk] at h1
        split at h2
        · rename_i he
          rw [if_pos he] at h1
          dsimp only at h1 h2
          split at h2
          · rename_i h0; rw [if_pos h0] at h1; simp at h1
          · rename_i h0; exact h0 h2
        · rename_i he; exact he h2
def consT (t : Tok) (x : List Tok × Nat × Int) : List Tok × Nat × Int := if x.2.2 = 0 then (t :: x.1, x.2) else ([], x.2)
/-- One token and blanks. -/
theorem scan_piece1 : ∀ (n : Nat) (P : List UInt8) (i0 k0 : Nat) (t : Tok), P.length ≤ n → (scan n P i0 k0).1 = [t] → (scan n P i0 k0).2.2 = 0 → ∀ m R i k, P.length + 1 + R.length ≤ m →
    scan m (P ++ 32 :: R) i k = if k = 20000 then ([], i + (t.off - i0), 11) else consT ⟨t.kind, i + (t.off - i0), t.n, t.text⟩ (scan R.length R (i + P.length + 1) (k + 1))
  | n, [], i0, k0, t, _, h1, _, m, R, i, k, hm => by rw [scan_nil] at h1; cases h1
  | 0, c :: r, _, _, _, h, _, _, _, _, _, _, _ => by simp at h
  | n + 1, c :: r, i0, k0, t, hn, h1, h2, m, R, i, k, hm => by
    obtain ⟨m', rfl⟩ : ∃ m', m = m' + 1 := ⟨m - 1, by simp at hm; omega⟩
    by_cases hb : isBl c = true
    · rw [scan, if_pos hb] at h1 h2
      have hinc := scan_inc n r (i0 + 1) k0
      rw [h1] at hinc
      have hoff : i0 + 1 ≤ t.off := hinc.1
      rw [List.cons_append, scan, if_pos hb, scan_piece1 n r _ _ t (by simpa using hn) h1 h2 m' R (i + 1) k (by simp at hm; omega)]
      rw [show i + 1 + (t.off - (i0 + 1)) = i + (t.off - i0) by omega, show i + 1 + r.length + 1 = i + (c :: r).length + 1 by simp; omega]
    · rw [scan, if_neg hb] at h1 h2
      have hk : ¬ k0 = 20000 := by intro hk; rw [if_pos hk] at h2; simp at h2
      rw [if_neg hk] at h1 h2
      have he : tokE (c :: r) = 0 := by
        by_cases he : tokE (c :: r) = 0
        · exact he
        · rw [if_neg he] at h2; exact absurd h2 he
      rw [if_pos he] at h1 h2
      dsimp only at h1 h2
      obtain ⟨X, hX⟩ : ∃ X, scan n ((c :: r).drop (tokLen (c :: r))) (i0 + tokLen (c :: r)) (k0 + 1) = X := ⟨_, rfl⟩
      rw [hX] at h1 h2
      have hx0 : X.2.2 = 0 := by
        split at h2
        · assumption
        · exact h2
      rw [if_pos hx0] at h1
      injection h1 with h1 h3
      subst h1
      have hl := tokLen_le (l := c :: r) (by simp)
      have hp := tokLen_pos he
      have P0 := scan_piece0 n ((c :: r).drop (tokLen (c :: r))) (i0 + tokLen (c :: r)) (k0 + 1) (by rw [List.length_drop]; simp at hn hl ⊢; omega) (by rw [hX]; exact h3) (by rw [hX]; exact hx0)
      have hst := tok_ext (L := c :: r) (by simp) R
      have e1 : tokE (c :: (r ++ 32 :: R)) = 0 := hst.e.trans he
      have e2 : tokLen (c :: (r ++ 32 :: R)) = tokLen (c :: r) := hst.l
      have e3 : (c :: (r ++ 32 :: R)).drop (tokLen (c :: r)) = (c :: r).drop (tokLen (c :: r)) ++ 32 :: R := by
        rw [← List.cons_append, List.drop_append_of_le_length hl]
      rw [List.cons_append, scan, if_neg hb]
      split
      · simp [tokAt]
      · try rw [if_pos e1]
        simp only [e2, e3]
        rw [P0 m' R _ (k + 1) (by rw [List.length_drop]; simp at hm hl ⊢; omega)]
        rw [show i + tokLen (c :: r) + ((c :: r).drop (tokLen (c :: r))).length + 1 = i + (c :: r).length + 1 by rw [List.length_drop]; omega]
        unfold consT tokAt
        simp only [Nat.sub_self, Nat.add_zero]
        have k1 : tokK (c :: (r ++ 32 :: R)) = tokK (c :: r) := hst.k
        have k2 : tokN (c :: (r ++ 32 :: R)) = tokN (c :: r) := hst.n
        have k3 : tokT (c :: (r ++ 32 :: R)) = tokT (c :: r) := hst.t
        rw [k1, k2, k3]
theorem scan_offs : ∀ (n : Nat) (L : List UInt8) (i k : Nat) (t : Tok), t ∈ (scan n L i k).1 → t.off ≤ i + L.length
  | 0, _, _, _, t, h => by cases h
  | _ + 1, [], _, _, t, h => by cases h
  | n + 1, c :: r, i, k, t, h => by
    unfold scan at h
    split at h
    · have := scan_offs n r _ _ t h
      simp; omega
    · split at h
      · cases h
      · split at h
        · dsimp only at h
          split at h
          · rcases List.mem_cons.1 h with rfl | h
            · show i ≤ _; omega
            · have hl := tokLen_le (l := c :: r) (by simp)
              have := scan_offs n _ _ _ t h
              rw [List.length_drop] at this
              omega
          · cases h
        · cases h
def reps (P : List UInt8) : Nat → List UInt8
  | 0 => []
  | n + 1 => P ++ 32 :: reps P n
theorem reps_snoc (P : List UInt8) : ∀ n, reps P (n + 1) = (reps P n ++ P) ++ [32]
  | 0 => by simp [reps]
  | n + 1 => by
    have := reps_snoc P n
    rw [show reps P (n + 1 + 1) = P ++ 32 :: reps P (n + 1) from rfl]
    conv => lhs; rw [this]
    simp [reps]
theorem reps_len (P : List UInt8) : ∀ n, (reps P n).length = n * (P.length + 1)
  | 0 => by simp [reps]
  | n + 1 => by rw [reps, List.length_append, List.length_cons, reps_len P n, Nat.succ_mul]; omega
theorem scan_reps_ok {P : List UInt8} {t : Tok} (h1 : (scan P.length P 0 0).1 = [t]) (h2 : (scan P.length P 0 0).2.2 = 0) : ∀ n i k, k + n ≤ 20000 →
    (scan (reps P n).length (reps P n) i k).1.length = n ∧ (scan (reps P n).length (reps P n) i k).2.2 = 0
  | 0, i, k, _ => by simp [reps, scan]
  | n + 1, i, k, h => by
    have e := scan_piece1 P.length P 0 0 t (Nat.le_refl _) h1 h2 (reps P (n + 1)).length (reps P n) i k (by rw [reps]; simp; omega)
    rw [if_neg (by omega)] at e
    obtain ⟨i1, i2⟩ := scan_reps_ok h1 h2 n (i + P.length + 1) (k + 1) (by omega)
    rw [show reps P (n + 1) = P ++ 32 :: reps P n from rfl] at e ⊢
    rw [e]
    unfold consT
    rw [if_pos i2]
    exact ⟨by simp [i1], i2⟩
theorem scan_reps_full {P : List UInt8} {t : Tok} (h1 : (scan P.length P 0 0).1 = [t]) (h2 : (scan P.length P 0 0).2.2 = 0) : ∀ n i k, k ≤ 20000 → 20000 < k + n →
    scan (reps P n).length (reps P n) i k = ([], i + (20000 - k) * (P.length + 1) + t.off, 11)
  | 0, i, k, h, h' => by omega
  | n + 1, i, k, h, h' => by
    have e := scan_piece1 P.length P 0 0 t (Nat.le_refl _) h1 h2 (reps P (n + 1)).length (reps P n) i k (by rw [reps]; simp; omega)
    rw [show reps P (n + 1) = P ++ 32 :: reps P n from rfl] at e ⊢
    rw [e]
    split
    · rename_i hk; subst hk; simp
    · have ih := scan_reps_full h1 h2 n (i + P.length + 1) (k + 1) (by omega) (by omega)
      rw [ih]
      unfold consT
      rw [if_neg (by simp)]
      have e1 : 20000 - k = 20000 - (k + 1) + 1 := by omega
      rw [e1, Nat.succ_mul]
      have e2 : 20000 - (k + 1) + 1 - 1 = 20000 - (k + 1) := by omega
      generalize (20000 - (k + 1)) * (P.length + 1) = M
      refine Prod.ext rfl (Prod.ext ?_ rfl)
      show _ + _ = _ + _
      omega
end Go.Proofs.Ytijibieeajakoaa

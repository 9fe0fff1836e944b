/-
  Layer 13 (lexer): decimal representations; a token alone and ahead of a blank. No program is named here.
-/
import Derived.Test.YtijibieeajakoaaLexS
namespace Go.Proofs.Ytijibieeajakoaa
open Go.RowKit

def dg (u : Nat) : UInt8 := UInt8.ofNat (48 + u)
theorem dg_nat {u : Nat} (h : u < 10) : (dg u).toNat = 48 + u := by unfold dg; rw [UInt8.toNat_ofNat']; omega
/-- The digits of a number. -/
def digsW (u : Nat) : List UInt8 := if u < 10 then [dg u] else digsW (u / 10) ++ [dg (u % 10)]
termination_by u
decreasing_by omega
theorem digsW_small {u : Nat} (h : u < 10) : digsW u = [dg u] := by rw [digsW, if_pos h]
theorem digsW_big {u : Nat} (h : 10 ≤ u) : digsW u = digsW (u / 10) ++ [dg (u % 10)] := by rw [digsW, if_neg (by omega)]
theorem digsW_ne (u : Nat) : digsW u ≠ [] := by
  rw [digsW]; split <;> simp
theorem digsW_len : ∀ (n u : Nat), u < 10 ^ (n + 1) → (digsW u).length ≤ n + 1
  | 0, u, h => by rw [digsW_small (by simpa using h)]; simp
  | n + 1, u, h => by
    by_cases h0 : u < 10
    · rw [digsW_small h0]; simp
    · rw [digsW_big (by omega)]
      have := digsW_len n (u / 10) (by rw [Nat.pow_succ] at h; omega)
      simp; omega
/-- The decimal representation of an integer. -/
def fmtZ (z : Int) : List UInt8 := if z < 0 then 45 :: digsW z.natAbs else digsW z.natAbs
/-- The state of a loop that gathers the digits of u0 from the back: u is left, D gathered. -/
def Gath (u0 u : Nat) (D : List UInt8) : Prop := (D = [] ∧ u = u0) ∨ (D ≠ [] ∧ if u = 0 then digsW u0 = D else digsW u0 = digsW u ++ D)
theorem Gath.start (u : Nat) : Gath u u [] := .inl ⟨rfl, rfl⟩
theorem Gath.step {u0 u : Nat} {D : List UInt8} (h : Gath u0 u D) (hc : 0 < u ∨ D = []) : Gath u0 (u / 10) (dg (u % 10) :: D) := by
  refine .inr ⟨by simp, ?_⟩
  have key : digsW u0 = digsW u ++ D := by
    rcases h with ⟨rfl, rfl⟩ | ⟨h1, h2⟩
    · simp
    · rcases hc with hc | hc
      · rw [if_neg (by omega)] at h2; exact h2
      · exact absurd hc h1
  by_cases h10 : u < 10
  · rw [if_pos (by omega), key, digsW_small h10, show u % 10 = u by omega]; rfl
  · rw [if_neg (by omega), key, digsW_big (by omega)]; simp
theorem Gath.done {u0 : Nat} {D : List UInt8} (h : Gath u0 0 D) (hD : D ≠ []) : digsW u0 = D := by
  rcases h with ⟨h1, _⟩ | ⟨_, h2⟩
  · exact absurd h1 hD
  · simpa using h2
theorem Gath.room {u0 u : Nat} {D : List UInt8} (h : Gath u0 u D) (hc : 0 < u ∨ D = []) (h0 : u0 < 10000000000000000000) : D.length ≤ 18 := by
  have hl := digsW_len 18 u0 (by have : (10 : Nat) ^ 19 = 10000000000000000000 := rfl
                                 omega)
  rcases h with ⟨rfl, _⟩ | ⟨h1, h2⟩
  · simp
  · rcases hc with hc | hc
    · rw [if_neg (by omega)] at h2
      rw [h2, List.length_append] at hl
      have := List.length_pos_iff.2 (digsW_ne u)
      omega
    · exact absurd hc h1
theorem Gath.le {u0 u : Nat} {D : List UInt8} (h : Gath u0 u D) : u ≤ u0 ∨ D ≠ [] := by
  rcases h with ⟨_, rfl⟩ | ⟨h1, _⟩
  · exact .inl (Nat.le_refl _)
  · exact .inr h1

/-- A number's digits are those that represent it. -/
theorem digsW_num : ∀ (n : Nat) (d : List UInt8), d.length = n → d ≠ [] → (∀ c ∈ d, isDig c = true) → (headIs (fun c => decide ((c.toNat : Int) = 48)) d = false ∨ d.length = 1) → digsW (num d) = d ∧ (headIs (fun c => decide ((c.toNat : Int) = 48)) d = false → 0 < num d)
  | 0, d, hn, hne, _, _ => absurd (List.eq_nil_of_length_eq_zero hn) hne
  | n + 1, d, hn, hne, hd, hz => by
    rcases List.eq_nil_or_concat d with rfl | ⟨e, c, rfl⟩
    · exact absurd rfl hne
    · rw [List.concat_eq_append] at hn hd hz ⊢
      have hc := dig_num (hd c (by simp))
      have hcd : dg (c.toNat - 48) = c := UInt8.toNat_inj.1 (by rw [dg_nat (by omega)]; omega)
      rw [num_snoc]
      by_cases he : e = []
      · subst he
        simp only [num, List.foldl_nil, List.nil_append]
        refine ⟨by rw [digsW_small (by omega)]; simp [hcd], fun h => ?_⟩
        have : ¬ (c.toNat : Int) = 48 := by simpa [headIs] using h
        omega
      · obtain ⟨x, r, rfl⟩ : ∃ x r, e = x :: r := by
          cases e with
          | nil => exact absurd rfl he
          | cons x r => exact ⟨x, r, rfl⟩
        have hz2 : headIs (fun c => decide ((c.toNat : Int) = 48)) (x :: r) = false := by
          rcases hz with h | h
          · exact h
          · simp at h
        obtain ⟨i1, i2⟩ := digsW_num n (x :: r) (by simpa using hn) he (fun c hc => hd c (by simp at hc ⊢; rcases hc with h | h; exact .inl h; exact .inr (.inl h))) (.inl hz2)
        have h0 := i2 hz2
        refine ⟨?_, fun _ => by omega⟩
        rw [digsW_big (by omega)]
        rw [show (10 * num (x :: r) + (c.toNat - 48)) / 10 = num (x :: r) by omega, show (10 * num (x :: r) + (c.toNat - 48)) % 10 = c.toNat - 48 by omega, i1, hcd]
/-- What is read as an integer is its representation. -/
theorem fmt_parse {t : List UInt8} (h : parseOk t = true) : fmtZ (parseI t) = t := by
  have hval : parseI t = if minus t then -(num (cut t) : Int) else (num (cut t) : Int) := by unfold parseI; rw [if_pos h]
  unfold parseOk at h
  simp only [Bool.and_eq_true, decide_eq_true_eq, ne_eq] at h
  obtain ⟨⟨⟨⟨h1, h2⟩, h3⟩, h4⟩, h5⟩ := h
  obtain ⟨hne, hdg⟩ := int_digits h1 h2
  unfold canon at h3
  simp only [Bool.or_eq_true, Bool.not_eq_true', decide_eq_true_eq] at h3
  cases hm : minus t with
  | true =>
    obtain ⟨d, rfl⟩ : ∃ d, t = 45 :: d := by
      cases t with
      | nil => exact absurd rfl (minus_ne hm)
      | cons c d =>
        have : (c.toNat : Int) = 45 := by simpa [minus, headIs] using hm
        have h2 : c = 45 := UInt8.toNat_inj.1 (by show c.toNat = 45; omega)
        exact ⟨d, by rw [h2]⟩
    have hc : cut (45 :: d) = d := rfl
    rw [hc] at hne hdg h3 hval
    have hz : headIs (fun c => decide ((c.toNat : Int) = 48)) d = false := by
      rcases h3 with h | h
      · exact h
      · exfalso; injection h with h _; revert h; decide
    obtain ⟨i1, i2⟩ := digsW_num _ d rfl hne hdg (.inl hz)
    have := i2 hz
    rw [hval, if_pos hm]
    unfold fmtZ
    rw [if_pos (by omega), show (-(num d : Int)).natAbs = num d by omega, i1]
  | false =>
    have hc : cut t = t := by unfold cut; rw [hm]; rfl
    rw [hc] at hne hdg h3 hval
    obtain ⟨i1, _⟩ := digsW_num _ t rfl hne hdg (by rcases h3 with h | h; exact .inl h; exact .inr (by rw [h]; rfl))
    rw [hval, hm]
    unfold fmtZ
    simp only [Bool.false_eq_true, if_false]
    rw [if_neg (by omega), show ((num t : Int)).natAbs = num t by omega, i1]
end Go.Proofs.Ytijibieeajakoaa

/-
  Layer 13 (lexer): the reference's ParseInt of any text.
-/
import Derived.Test.YtijibieeajakoaaLexGpFy
import Derived.Test.YtijibieeajakoaaLexGpFn
import Derived.Test.YtijibieeajakoaaLexGmFy
import Derived.Test.YtijibieeajakoaaLexGmFn
namespace Go.Proofs.Ytijibieeajakoaa
open Go.RowKit

theorem ok_m (d : List UInt8) : parseOk (45 :: d) = true ↔ d ≠ [] ∧ digLen d = d.length ∧ headIs (fun c => decide ((c.toNat : Int) = 48)) d = false ∧ d.length ≤ 19 ∧ num d ≤ 9223372036854775808 := by
  have h1 : minus (45 :: d) = true := rfl
  have h2 : cut (45 :: d) = d := rfl
  have h3 := span_le isDig d
  unfold parseOk intLen canon
  rw [h1, h2]
  have h4 : ¬ (45 : UInt8) :: d = [48] := by intro h; injection h with h _; revert h; decide
  simp only [h4, decide_false, Bool.or_false, Bool.and_true, List.length_cons, limitN, if_true]
  unfold digLen
  cases d with
  | nil => simp [span]
  | cons x r =>
    simp only [Bool.and_eq_true, decide_eq_true_eq, Bool.not_eq_true', ne_eq, reduceCtorEq, not_false_eq_true, true_and, List.length_cons] at *
    constructor
    · rintro ⟨⟨⟨⟨a1, a2⟩, a3⟩, a4⟩, a5⟩
      refine ⟨?_, a3, a4, a5⟩
      split at a2 <;> omega
    · rintro ⟨a1, a2, a3, a4⟩
      have : 0 < span isDig (x :: r) := by omega
      rw [if_pos this]
      exact ⟨⟨⟨⟨by omega, by omega⟩, a2⟩, a3⟩, a4⟩
theorem ok_p (d : List UInt8) (hmi : minus d = false) : parseOk d = true ↔ d ≠ [] ∧ digLen d = d.length ∧ (headIs (fun c => decide ((c.toNat : Int) = 48)) d = false ∨ d = [48]) ∧ d.length ≤ 19 ∧ num d ≤ 9223372036854775807 := by
  have h2 : cut d = d := by unfold cut; rw [hmi]; rfl
  have h3 := span_le isDig d
  unfold parseOk intLen canon
  rw [hmi, h2]
  simp only [Bool.and_false, if_false, Bool.false_eq_true, limitN]
  unfold digLen
  cases d with
  | nil => simp [span]
  | cons x r =>
    simp only [Bool.and_eq_true, decide_eq_true_eq, Bool.not_eq_true', ne_eq, reduceCtorEq, not_false_eq_true, true_and, List.length_cons, Bool.or_eq_true] at *
    constructor
    · rintro ⟨⟨⟨⟨a1, a2⟩, a3⟩, a4⟩, a5⟩
      exact ⟨a2, a3, a4, a5⟩
    · rintro ⟨a1, a2, a3, a4⟩
      exact ⟨⟨⟨⟨by omega, a1⟩, a2⟩, a3⟩, a4⟩
theorem pI_no {l : List UInt8} (h : ¬ parseOk l = true) : parseI l = 0 ∧ parseOk l = false := by
  have h1 : parseOk l = false := by simpa using h
  exact ⟨by unfold parseI; rw [h1]; rfl, h1⟩

theorem rparse_any (l : List UInt8) (hm : l.length ≤ 900000) (w : World) : Calls Try.prog 33 #[.string (Bs l)] w fun e w' =>
    e = .returned (.tuple #[.int .i64 (parseI l), .bool (parseOk l)]) ∧ w' = w := by
  have no : ∀ {w : World}, ¬ parseOk l = true → Calls Try.prog 33 #[.string (Bs l)] w (fun e w' => e = .returned (.tuple #[.int .i64 0, .bool false]) ∧ w' = w) →
      Calls Try.prog 33 #[.string (Bs l)] w fun e w' => e = .returned (.tuple #[.int .i64 (parseI l), .bool (parseOk l)]) ∧ w' = w := fun h hc => by
    obtain ⟨h1, h2⟩ := pI_no h
    rw [h1, h2]; exact hc
  by_cases hmi : minus l = true
  · obtain ⟨d, rfl⟩ : ∃ d, l = 45 :: d := by
      cases l with
      | nil => exact absurd rfl (minus_ne hmi)
      | cons c d =>
        have : (c.toNat : Int) = 45 := by simpa [minus, headIs] using hmi
        have h2 : c = 45 := UInt8.toNat_inj.1 (by show c.toNat = 45; omega)
        exact ⟨d, by rw [h2]⟩
    have hok := ok_m d
    have hmd : d.length + 1 ≤ 1000000 := by simp at hm; omega
    cases hd : d with
    | nil => subst hd; exact no (by rw [hok]; simp) (rpi_m0 w)
    | cons x r =>
      rw [← hd]
      have hx0 : d[0]? = some x := by rw [hd]; rfl
      have hhead : headIs (fun c => decide ((c.toNat : Int) = 48)) d = decide ((x.toNat : Int) = 48) := by rw [hd]; rfl
      have hlen1 : d.length = r.length + 1 := by rw [hd]; rfl
      have h48 : d = [48] ↔ (x.toNat : Int) = 48 ∧ d.length = 1 := by
        rw [hd]
        constructor
        · intro h; injection h with h1 h2; subst h1 h2; exact ⟨rfl, rfl⟩
        · rintro ⟨h1, h2⟩
          have h3 : x = 48 := UInt8.toNat_inj.1 (by show x.toNat = 48; omega)
          have h4 : r = [] := List.eq_nil_of_length_eq_zero (by simpa using h2)
          rw [h3, h4]
      have hne : d ≠ [] := by rw [hd]; simp
      clear hd
      by_cases h1 : ¬ digLen d = d.length
      · exact no (by rw [hok]; rintro ⟨_, h, _⟩; exact h1 h) (rpi_mB d (45 :: d) rfl x hx0 hmd h1 w)
      have h1 : digLen d = d.length := by omega
      by_cases h2 : 19 < d.length
      · exact no (by rw [hok]; rintro ⟨_, _, _, h, _⟩; omega) (rpi_mC d (45 :: d) rfl x hx0 hmd h1 h2 w)
      by_cases h3 : 1 < d.length ∧ (x.toNat : Int) = 48
      · exact no (by rw [hok, hhead]; rintro ⟨_, _, h, _⟩; simp [h3.2] at h) (rpi_mD d (45 :: d) rfl x hx0 hmd h1 (by omega) h3.1 h3.2 w)
      by_cases h4 : d = [48]
      · exact no (by rw [hok, hhead]; rintro ⟨_, _, h, _⟩; simp [(h48.1 h4).1] at h) (rpi_mE d (45 :: d) rfl x hx0 hmd h4 w)
      by_cases h5 : num d ≤ 9223372036854775808
      · have hyes : parseOk (45 :: d) = true := by rw [hok, hhead]; exact ⟨hne, h1, (by simp only [decide_eq_false_iff_not]; intro h; exact h4 (h48.2 ⟨h, by omega⟩)), by omega, h5⟩
        have hval : parseI (45 :: d) = -(num d : Int) := by unfold parseI; rw [hyes]; rfl
        rw [hyes, hval]
        exact rpi_mFy d (45 :: d) rfl x hx0 hmd h1 (by omega) h3 h4 h5 w
      · exact no (by rw [hok]; rintro ⟨_, _, _, _, h⟩; exact h5 h) (rpi_mFn d (45 :: d) rfl x hx0 hmd h1 (by omega) h3 h4 (by omega) w)
  · have hmi2 : minus l = false := by simpa using hmi
    have hcut : cut l = l := by unfold cut; rw [hmi2]; rfl
    have hok := ok_p l hmi2
    have hmd : l.length + 1 ≤ 1000000 := by omega
    cases hl : l with
    | nil => subst hl; exact no (by rw [hok]; simp) (rpi_0 w)
    | cons x r =>
    rw [← hl]
    have hx0 : l[0]? = some x := by rw [hl]; rfl
    have hxm : ¬ (x.toNat : Int) = 45 := by rw [hl] at hmi2; simpa [minus, headIs] using hmi2
    have hhead : headIs (fun c => decide ((c.toNat : Int) = 48)) l = decide ((x.toNat : Int) = 48) := by rw [hl]; rfl
    have hlen1 : l.length = r.length + 1 := by rw [hl]; rfl
    have h48 : l = [48] ↔ (x.toNat : Int) = 48 ∧ l.length = 1 := by
      rw [hl]
      constructor
      · intro h; injection h with h1 h2; subst h1 h2; exact ⟨rfl, rfl⟩
      · rintro ⟨h1, h2⟩
        have h3 : x = 48 := UInt8.toNat_inj.1 (by show x.toNat = 48; omega)
        have h4 : r = [] := List.eq_nil_of_length_eq_zero (by simpa using h2)
        rw [h3, h4]
    have hne : l ≠ [] := by rw [hl]; simp
    clear hl
    by_cases h1 : ¬ digLen l = l.length
    · exact no (by rw [hok]; rintro ⟨_, h, _⟩; exact h1 h) (rpi_pB l x hx0 hmd hxm h1 w)
    have h1 : digLen l = l.length := by omega
    by_cases h2 : 19 < l.length
    · exact no (by rw [hok]; rintro ⟨_, _, _, h, _⟩; omega) (rpi_pC l x hx0 hmd hxm h1 h2 w)
    by_cases h3 : 1 < l.length ∧ (x.toNat : Int) = 48
    · exact no (by rw [hok, hhead]; rintro ⟨_, _, h, _⟩; rcases h with h | h; (simp [h3.2] at h); (rw [h] at h3; simp at h3)) (rpi_pD l x hx0 hmd hxm h1 (by omega) h3.1 h3.2 w)
    by_cases h5 : num l ≤ 9223372036854775807
    · have hyes : parseOk l = true := by rw [hok, hhead]; exact ⟨hne, h1, (by by_cases h : (x.toNat : Int) = 48; (exact .inr (h48.2 ⟨h, by omega⟩)); (exact .inl (by simpa using h))), by omega, h5⟩
      have hval : parseI l = (num l : Int) := by unfold parseI; rw [hyes]; simp [hmi2, hcut]
      rw [hyes, hval]
      exact rpi_pFy l x hx0 hmd hxm h1 (by omega) h3 h5 w
    · exact no (by rw [hok]; rintro ⟨_, _, _, _, h⟩; exact h5 h) (rpi_pFn l x hx0 hmd hxm h1 (by omega) h3 (by omega) w)
end Go.Proofs.Ytijibieeajakoaa

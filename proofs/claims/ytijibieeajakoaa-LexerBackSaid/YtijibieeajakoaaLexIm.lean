/-
  Layer 13 (lexer): the reference's number.
-/
import Derived.Test.YtijibieeajakoaaLexH
import Derived.Test.YtijibieeajakoaaLexS
namespace Go.Proofs.Ytijibieeajakoaa
open Go.RowKit

def numE (t : List UInt8) (f : Bool) : Int := if canon t = false ∨ f = true then 3 else if parseOk t then 0 else 10
def numCells (i : Nat) (t : List UInt8) (f : Bool) : Array Value := if numE t f = 0 then #[.int .i64 2, .int .i64 (i : Int), .int .i64 (parseI t), .string (Bs [])] else #[.int .i64 0, .int .i64 0, .int .i64 0, .string (Bs [])]
/-- What follows an integer at once: a letter or not. -/
def follows (l : List UInt8) (k : Nat) : Bool := headIs isLet (l.drop k)

/-- The two tests of the form, together. -/
theorem canon_no {t : List UInt8} (hd : cut t ≠ []) : canon t = false ↔ (1 < (cut t).length ∧ headIs (fun c => decide ((c.toNat : Int) = 48)) (cut t) = true) ∨ t = [45, 48] := by
  unfold canon
  cases t with
  | nil => exact absurd rfl hd
  | cons c r =>
    by_cases hm : minus (c :: r) = true
    · have h45 : c = 45 := by
        have : (c.toNat : Int) = 45 := by simpa [minus, headIs] using hm
        exact UInt8.toNat_inj.1 (by show c.toNat = 45; omega)
      subst h45
      have hc : cut (45 :: r) = r := rfl
      rw [hc] at hd ⊢
      cases r with
      | nil => exact absurd rfl hd
      | cons x q =>
        have h4 : ¬ (45 : UInt8) :: x :: q = [48] := by simp
        have hx : x = 48 ↔ (x.toNat : Int) = 48 := ⟨fun h => by rw [h]; rfl, fun h => UInt8.toNat_inj.1 (by show x.toNat = 48; omega)⟩
        simp only [headIs, h4, decide_false, Bool.or_false, Bool.not_eq_false', decide_eq_true_eq, List.length_cons, List.cons.injEq, true_and, hx]
        cases q with
        | nil => simp
        | cons y z => simp
    · have hm2 : minus (c :: r) = false := by simpa using hm
      have hc : cut (c :: r) = c :: r := by unfold cut; rw [hm2]; rfl
      have h5 : ¬ c = 45 := by rintro rfl; exact hm rfl
      have hx : c = 48 ↔ (c.toNat : Int) = 48 := ⟨fun h => by rw [h]; rfl, fun h => UInt8.toNat_inj.1 (by show c.toNat = 48; omega)⟩
      rw [hc]
      simp only [headIs, Bool.or_eq_false_iff, Bool.not_eq_false', decide_eq_true_eq, decide_eq_false_iff_not, List.length_cons, List.cons.injEq, h5, false_and, or_false, hx]
      cases r with
      | nil => simp
      | cons y z => simp

end Go.Proofs.Ytijibieeajakoaa

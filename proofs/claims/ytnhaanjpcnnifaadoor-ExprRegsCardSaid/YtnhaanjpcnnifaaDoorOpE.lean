/-
  Layer 12 (opcode): what a row of the table accepts.
-/
import Derived.Test.YtnhaanjpcnnifaaDoorOpD
namespace Go.Proofs.YtnhaanjpcnnifaaDoor
open Go.RowKit

theorem bitsM_eq (t : Int) : bitsM t = bitsI t := rfl
/-- A relation that looks at the first operand wants one. -/
def relWants (r : Nat) : Bool := decide (r = 1) || decide (r = 3) || decide (r = 4) || decide (r = 5)
theorem Rd.tail {w : World} {b off c : Nat} {z : Int} {l : List Int} (h : Rd w .i64 (.slice (some ⟨b, off, none⟩) (l.length + 1) c) (z :: l)) : Rd w .i64 (.slice (some ⟨b, off + 1, none⟩) l.length (c - 1)) l := by
  obtain ⟨A', c', e, hc, hm, hr⟩ := h
  simp only [List.length_cons, Value.slice.injEq, true_and] at e
  obtain ⟨rfl, rfl⟩ := e
  simp only [List.length_cons] at hc
  refine ⟨_, _, rfl, by omega, by omega, fun hn => ?_⟩
  obtain ⟨b', off', e, hlt, hcell⟩ := hr (by simp)
  injection e with e
  simp only [Addr.mk.injEq, and_true] at e
  obtain ⟨rfl, rfl⟩ := e
  exact ⟨b, off + 1, rfl, hlt, fun j y hj => by have := hcell (j + 1) y (by simpa using hj); rw [show off + 1 + j = off + (j + 1) by omega]; exact this⟩
set_option maxRecDepth 100000 in
theorem related_any (r : Nat) (hr : r ≤ 6) (t : Int) (A : Option Addr) (c : Nat) (l : List Int) (hm : l.length ≤ 1000) (hne : relWants r = true → l ≠ []) (w : World) (hT : Tab w) (hl : Rd w .i64 (.slice A l.length c) l) :
    Calls Tryd.prog 107 #[.int .i64 (r : Int), .int .i64 t, .slice A l.length c] w fun e w' => e = .returned (.bool (relB r t l)) ∧ w = w' := by
  rcases (show r = 0 ∨ r = 1 ∨ r = 2 ∨ r = 3 ∨ r = 4 ∨ r = 5 ∨ r = 6 by omega) with rfl | rfl | rfl | rfl | rfl | rfl | rfl
  · go_enter Tryd.func107, Tryd.ntmps107
    go_wp2_with fail
    go_ret
    exact ⟨rfl, rfl⟩
  · obtain ⟨z, l', rfl⟩ : ∃ z l', l = z :: l' := by
      cases l with
      | nil => exact absurd rfl (hne rfl)
      | cons z l' => exact ⟨z, l', rfl⟩
    obtain ⟨b, off, rfl, hc⟩ := hl.at (by simp)
    have h0 : w.cell? ⟨b, off, none⟩ = some (.int .i64 z) := hc 0 z rfl
    clear hc
    have hn : (z :: l').length = l'.length + 1 := rfl
    have HC := hide (all_any (some ⟨b, off, none⟩) c (z :: l') z w (by omega) hl)
    rw [hn] at HC ⊢
    clear hl hn hm hne
    go_enter Tryd.func107, Tryd.ntmps107
    go_wp2_with fail
    refine HC.out.mono ?_
    rintro en wn ⟨rfl, rfl⟩
    go_wp2_with fail
    go_ret
    exact ⟨rfl, rfl⟩
  · have HC := hide (all_any A c l t w (by omega) hl)
    clear hl hm hne
    go_enter Tryd.func107, Tryd.ntmps107
    go_wp2_with fail
    refine HC.out.mono ?_
    rintro en wn ⟨rfl, rfl⟩
    go_wp2_with fail
    go_ret
    exact ⟨rfl, rfl⟩
  · obtain ⟨z, l', rfl⟩ : ∃ z l', l = z :: l' := by
      cases l with
      | nil => exact absurd rfl (hne rfl)
      | cons z l' => exact ⟨z, l', rfl⟩
    obtain ⟨b, off, rfl, hc⟩ := hl.at (by simp)
    have hcap : l'.length + 1 ≤ c := by obtain ⟨_, _, e, h, _, _⟩ := hl; simp at e h; omega
    have hcm : c ≤ maxLen := by obtain ⟨_, _, e, _, h, _⟩ := hl; simp at e; omega
    have HC := hide (all_any (some ⟨b, off + 1, none⟩) (c - 1) l' t w (by simp at hm; omega) (Rd.tail hl))
    have hn : (z :: l').length = l'.length + 1 := rfl
    rw [hn] at hm ⊢
    clear hl hn hne hc
    have HC0 : Hid (c = 1 → Calls Tryd.prog 114 #[.slice (some ⟨b, off, none⟩) l'.length 0, .int .i64 t] w fun e w' => e = .returned (.bool (allB l' t)) ∧ w = w') := hide (fun h => by
      obtain rfl : l' = [] := List.eq_nil_of_length_eq_zero (by omega)
      exact all_any (some ⟨b, off, none⟩) 0 [] t w (by simp) ⟨_, _, rfl, Nat.le_refl _, Nat.zero_le _, fun h => absurd h (by simp)⟩)
    have hcx : (c : Int) ≤ 9223372036854775807 := by unfold maxLen at hcm; omega
    go_enter Tryd.func107, Tryd.ntmps107
    go_wp2_with fail
    case inl h =>
      refine (HC0.out h).mono ?_
      rintro en wn ⟨rfl, rfl⟩
      go_wp2_with fail
      go_ret
      exact ⟨rfl, rfl⟩
    case inr h =>
      refine HC.out.mono ?_
      rintro en wn ⟨rfl, rfl⟩
      go_wp2_with fail
      go_ret
      exact ⟨rfl, rfl⟩
  · obtain ⟨z, l', rfl⟩ : ∃ z l', l = z :: l' := by
      cases l with
      | nil => exact absurd rfl (hne rfl)
      | cons z l' => exact ⟨z, l', rfl⟩
    obtain ⟨b, off, rfl, hc⟩ := hl.at (by simp)
    have h0 : w.cell? ⟨b, off, none⟩ = some (.int .i64 z) := hc 0 z rfl
    have hn : (z :: l').length = l'.length + 1 := rfl
    rw [hn]
    have HT := hide hT
    clear hl hn hm hne hc hT
    go_enter Tryd.func107, Tryd.ntmps107
    go_wp2_with fail
    refine (bits_any _ _ HT.out).mono ?_
    rintro en wn ⟨rfl, rfl⟩
    go_wp2_with fail
    refine (bits_any _ _ HT.out).mono ?_
    rintro en wn ⟨rfl, rfl⟩
    go_wp2_with fail
    go_ret
    exact ⟨rfl, rfl⟩
  · obtain ⟨z, l', rfl⟩ : ∃ z l', l = z :: l' := by
      cases l with
      | nil => exact absurd rfl (hne rfl)
      | cons z l' => exact ⟨z, l', rfl⟩
    obtain ⟨b, off, rfl, hc⟩ := hl.at (by simp)
    have h0 : w.cell? ⟨b, off, none⟩ = some (.int .i64 z) := hc 0 z rfl
    have hn : (z :: l').length = l'.length + 1 := rfl
    rw [hn]
    have HT := hide hT
    clear hl hn hm hne hc hT
    go_enter Tryd.func107, Tryd.ntmps107
    go_wp2_with fail
    refine (bits_any _ _ HT.out).mono ?_
    rintro en wn ⟨rfl, rfl⟩
    go_wp2_with fail
    refine (bits_any _ _ HT.out).mono ?_
    rintro en wn ⟨rfl, rfl⟩
    go_wp2_with fail
    go_ret
    exact ⟨rfl, rfl⟩
  · go_enter Tryd.func107, Tryd.ntmps107
    go_wp2_with fail
    refine (acc_any _ _).mono ?_
    rintro en wn ⟨rfl, rfl⟩
    go_wp2_with fail
    go_ret
    exact ⟨rfl, rfl⟩
end Go.Proofs.YtnhaanjpcnnifaaDoor

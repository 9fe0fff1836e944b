/-
  Layer 13 (lexer): ParseInt of the program.
-/
import Derived.Test.YtijibieeajakoaaLexC
namespace Go.Proofs.Ytijibieeajakoaa
open Go.RowKit

theorem neg_i64 (n : Nat) (h : n ≤ 9223372036854775808) : IntKind.i64.wrap (IntKind.u64.wrap (-(n : Int))) = -(n : Int) := by
  simp [IntKind.wrap, IntKind.bits, IntKind.signed]
  omega
theorem pos_i64 (n : Int) (h0 : 0 ≤ n) (h : n ≤ 9223372036854775807) : IntKind.i64.wrap n = n := by
  simp [IntKind.wrap, IntKind.bits, IntKind.signed]
  omega

set_option maxRecDepth 100000 in
theorem parseInt_any (l : List UInt8) (hm : l.length ≤ 1000000) (w : World) : Calls Try.prog 23 #[.string (Bs l)] w fun e w' =>
    e = .returned (.tuple #[.int .i64 (parseI l), .bool (parseOk l)]) ∧ Below w.heap.size w w' := by
  have hlen := lenS l (by unfold maxLen; omega)
  have hI := integerLength_any l hm
  have hile := intLen_le l
  obtain ⟨n, hn⟩ : ∃ n, intLen l = n := ⟨_, rfl⟩
  rw [hn] at hI hile
  have ok_of : ∀ b, parseOk l = b → b = false → Hid (parseOk l = false) ∧ Hid (parseI l = 0) := fun b h1 h2 => by
    have h3 : parseOk l = false := by rw [h1, h2]
    exact ⟨h3, by show _ = _; unfold parseI; rw [h3]; rfl⟩
  have hdef : parseOk l = (decide (intLen l ≠ 0) && decide (intLen l = l.length) && canon l && decide ((cut l).length ≤ 19) && decide (num (cut l) ≤ limitN (minus l))) := rfl
  rw [hn] at hdef
  rcases Nat.eq_zero_or_pos n with h0 | h0
  · subst h0
    obtain ⟨ho, hv⟩ := ok_of _ rfl (by rw [hdef]; simp)
    clear hdef ok_of hn
    go_enter Try.func23, Try.ntmps23
    go_wp2_with (first | (go_at_call 21; refine (hI _).mono ?_; rintro en w1 ⟨rfl, hb1⟩) | (go_at_call 22; refine (hK _).mono ?_; rintro en w2 ⟨rfl, rfl⟩) | (go_at_call 30; refine (hC _).mono ?_; rintro en w2 ⟨rfl, rfl⟩) | (go_at_call 32; refine (hP _).mono ?_; rintro en w3 ⟨rfl, hb3⟩))
    go_ret2
    exact ⟨by rw [ho.out, hv.out]; rfl, hb1⟩
  rcases Nat.lt_or_ge n l.length with h1 | h1
  · obtain ⟨ho, hv⟩ := ok_of _ rfl (by rw [hdef]; have h2 : n ≠ l.length := by omega
                                       simp [h2])
    clear hdef ok_of hn
    have h2 : ((n : Int) == 0) = false := by simp; omega
    go_enter Try.func23, Try.ntmps23
    go_wp2_with (first | (go_at_call 21; refine (hI _).mono ?_; rintro en w1 ⟨rfl, hb1⟩) | (go_at_call 22; refine (hK _).mono ?_; rintro en w2 ⟨rfl, rfl⟩) | (go_at_call 30; refine (hC _).mono ?_; rintro en w2 ⟨rfl, rfl⟩) | (go_at_call 32; refine (hP _).mono ?_; rintro en w3 ⟨rfl, hb3⟩))
    go_ret2
    exact ⟨by rw [ho.out, hv.out]; rfl, hb1⟩
  obtain rfl : n = l.length := by omega
  clear h1 hile
  obtain ⟨hne, hdg⟩ := int_digits (l := l) (by omega) (by omega)
  have hK := isCanonical_any l hne
  have hl0 : l ≠ [] := by rintro rfl; simp at h0
  have h2 : ((l.length : Int) == 0) = false := by simpa using hl0
  have h3 : ¬ (l.length : Int) < (l.length : Int) := by omega
  by_cases hcf : canon l = false
  · obtain ⟨ho, hv⟩ := ok_of _ rfl (by rw [hdef, hcf]; simp)
    rw [hcf] at hK
    clear hdef ok_of hn hcf
    go_enter Try.func23, Try.ntmps23
    go_wp2_with (first | (go_at_call 21; refine (hI _).mono ?_; rintro en w1 ⟨rfl, hb1⟩) | (go_at_call 22; refine (hK _).mono ?_; rintro en w2 ⟨rfl, rfl⟩) | (go_at_call 30; refine (hC _).mono ?_; rintro en w2 ⟨rfl, rfl⟩) | (go_at_call 32; refine (hP _).mono ?_; rintro en w3 ⟨rfl, hb3⟩))
    go_ret2
    exact ⟨by rw [ho.out, hv.out]; rfl, hb1⟩
  have hcn : canon l = true := by simpa using hcf
  clear hcf
  rw [hcn] at hK
  have hC := cutMinus_any l
  have hP := parseDigits_any (cut l) (by have := cut_le l; omega) hdg
  obtain ⟨b, hbm⟩ : ∃ b, minus l = b := ⟨_, rfl⟩
  have hx19 : (cut l).length ≤ 19 → num (cut l) < 10000000000000000000 := fun h => num_le19 h hdg
  obtain ⟨x, hx⟩ : ∃ x, num (cut l) = x := ⟨_, rfl⟩
  rw [hbm] at hC
  rw [hx] at hP hx19
  rw [hbm, hx, hcn] at hdef
  by_cases h19 : ¬ (cut l).length ≤ 19
  · simp only [if_neg h19, decide_eq_false h19] at hP
    obtain ⟨ho, hv⟩ := ok_of _ rfl (by rw [hdef]; simp [h19])
    clear hdef ok_of hn hx hbm hx19 h19 hdg hne hcn
    cases b
    · go_enter Try.func23, Try.ntmps23
      go_wp2_with (first | (go_at_call 21; refine (hI _).mono ?_; rintro en w1 ⟨rfl, hb1⟩) | (go_at_call 22; refine (hK _).mono ?_; rintro en w2 ⟨rfl, rfl⟩) | (go_at_call 30; refine (hC _).mono ?_; rintro en w2 ⟨rfl, rfl⟩) | (go_at_call 32; refine (hP _).mono ?_; rintro en w3 ⟨rfl, hb3⟩))
      go_ret2
      exact ⟨by rw [ho.out, hv.out]; rfl, Below.all hb1 hb3⟩
    · go_enter Try.func23, Try.ntmps23
      go_wp2_with (first | (go_at_call 21; refine (hI _).mono ?_; rintro en w1 ⟨rfl, hb1⟩) | (go_at_call 22; refine (hK _).mono ?_; rintro en w2 ⟨rfl, rfl⟩) | (go_at_call 30; refine (hC _).mono ?_; rintro en w2 ⟨rfl, rfl⟩) | (go_at_call 32; refine (hP _).mono ?_; rintro en w3 ⟨rfl, hb3⟩))
      go_ret2
      exact ⟨by rw [ho.out, hv.out]; rfl, Below.all hb1 hb3⟩
  have h19 : (cut l).length ≤ 19 := by omega
  simp only [if_pos h19, decide_eq_true h19] at hP
  have hxl := hx19 h19
  clear hx19
  have hmin0 : b = true → canon l = true → x ≠ 0 ∨ True := fun _ _ => .inr trivial
  clear hmin0
  cases b
  · by_cases hle : x ≤ 9223372036854775807
    · have ho : Hid (parseOk l = true) := by show _ = _; rw [hdef]; simp [h19, limitN, hle, hl0]
      have hv : Hid (parseI l = x) := by show _ = _; unfold parseI; rw [ho.out, hbm, hx]; rfl
      have hw := pos_i64 x (by omega) (by omega)
      clear hdef ok_of hn hx hbm h19 hdg hne hcn
      go_enter Try.func23, Try.ntmps23
      go_wp2_with (first | (go_at_call 21; refine (hI _).mono ?_; rintro en w1 ⟨rfl, hb1⟩) | (go_at_call 22; refine (hK _).mono ?_; rintro en w2 ⟨rfl, rfl⟩) | (go_at_call 30; refine (hC _).mono ?_; rintro en w2 ⟨rfl, rfl⟩) | (go_at_call 32; refine (hP _).mono ?_; rintro en w3 ⟨rfl, hb3⟩))
      go_ret2
      exact ⟨by rw [ho.out, hv.out]; simp [*], Below.all hb1 hb3⟩
    · obtain ⟨ho, hv⟩ := ok_of _ rfl (by rw [hdef]; simp [limitN, hle])
      clear hdef ok_of hn hx hbm h19 hdg hne hcn
      go_enter Try.func23, Try.ntmps23
      go_wp2_with (first | (go_at_call 21; refine (hI _).mono ?_; rintro en w1 ⟨rfl, hb1⟩) | (go_at_call 22; refine (hK _).mono ?_; rintro en w2 ⟨rfl, rfl⟩) | (go_at_call 30; refine (hC _).mono ?_; rintro en w2 ⟨rfl, rfl⟩) | (go_at_call 32; refine (hP _).mono ?_; rintro en w3 ⟨rfl, hb3⟩))
      go_ret2
      exact ⟨by rw [ho.out, hv.out]; rfl, Below.all hb1 hb3⟩
  · by_cases hle : x ≤ 9223372036854775808
    · have ho : Hid (parseOk l = true) := by show _ = _; rw [hdef]; simp [h19, limitN, hle, hl0]
      have hv : Hid (parseI l = -x) := by show _ = _; unfold parseI; rw [ho.out, hbm, hx]; rfl
      have hw := neg_i64 x (by omega)
      clear hdef ok_of hn hx hbm h19 hdg hne hcn
      go_enter Try.func23, Try.ntmps23
      go_wp2_with (first | (go_at_call 21; refine (hI _).mono ?_; rintro en w1 ⟨rfl, hb1⟩) | (go_at_call 22; refine (hK _).mono ?_; rintro en w2 ⟨rfl, rfl⟩) | (go_at_call 30; refine (hC _).mono ?_; rintro en w2 ⟨rfl, rfl⟩) | (go_at_call 32; refine (hP _).mono ?_; rintro en w3 ⟨rfl, hb3⟩))
      go_ret2
      exact ⟨by rw [ho.out, hv.out]; simp [*], Below.all hb1 hb3⟩
    · obtain ⟨ho, hv⟩ := ok_of _ rfl (by rw [hdef]; simp [limitN, hle])
      clear hdef ok_of hn hx hbm h19 hdg hne hcn
      go_enter Try.func23, Try.ntmps23
      go_wp2_with (first | (go_at_call 21; refine (hI _).mono ?_; rintro en w1 ⟨rfl, hb1⟩) | (go_at_call 22; refine (hK _).mono ?_; rintro en w2 ⟨rfl, rfl⟩) | (go_at_call 30; refine (hC _).mono ?_; rintro en w2 ⟨rfl, rfl⟩) | (go_at_call 32; refine (hP _).mono ?_; rintro en w3 ⟨rfl, hb3⟩))
      go_ret2
      exact ⟨by rw [ho.out, hv.out]; rfl, Below.all hb1 hb3⟩
end Go.Proofs.Ytijibieeajakoaa

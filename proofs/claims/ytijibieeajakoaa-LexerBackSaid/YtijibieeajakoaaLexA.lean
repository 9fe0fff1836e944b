/-
  Layer 13 (lexer): the program's tests of one byte or rune, and the cut of a minus sign.
-/
import Derived.Test.YtijibieeajakoaaLexM
namespace Go.Proofs.Ytijibieeajakoaa
open Go.RowKit

theorem ret_bool {w : World} {a b : Bool} (h : a = b) : Ending.returned (.bool a) = Ending.returned (.bool b) ∧ w = w := by subst h; exact ⟨rfl, rfl⟩
/-- A string's byte, by its index. -/
theorem ix (l : List UInt8) (i : Nat) (c : UInt8) (h : l[i]? = some c) (W : World) : (Instr.index 9 (.string (Bs l)) (.int .i64 (i : Int))).run Try.prog W = .ok (.int .u8 (c.toNat : Int)) W := by
  rw [run_index_string W 9 (Bs l) .i64 i Try.underlying9]
  obtain ⟨hlt, hc⟩ := List.getElem?_eq_some_iff.1 h
  have hs : (0 : Int) ≤ (i : Int) ∧ (i : Int) < ((Bs l).size : Int) := by rw [Bs_size]; omega
  rw [dif_pos hs]
  simp only [Int.toNat_natCast, Bs_get, hc]
theorem ix0 (c : UInt8) (r : List UInt8) (W : World) : (Instr.index 9 (.string (Bs (c :: r))) (.int .i64 0)).run Try.prog W = .ok (.int .u8 (c.toNat : Int)) W := ix (c :: r) 0 c rfl W
/-- 's[a:]'. -/
theorem slFrom (l : List UInt8) (a : Nat) (h : a ≤ l.length) (W : World) : (Instr.slice 9 (.string (Bs l)) (some (.int .i64 (a : Int))) none none).run Try.prog W = .ok (.string (Bs (l.drop a))) W := by
  rw [run_slice_string_l W 9 (Bs l) Try.underlying9 .i64 a (by omega) (by rw [Bs_size]; omega), Bs_extract, Bs_size, Int.toNat_natCast]
  congr 4
  rw [List.take_of_length_le (by simp)]
/-- 's[:b]'. -/
theorem slTo (l : List UInt8) (b : Nat) (h : b ≤ l.length) (W : World) : (Instr.slice 9 (.string (Bs l)) none (some (.int .i64 (b : Int))) none).run Try.prog W = .ok (.string (Bs (l.take b))) W := by
  rw [run_slice_string_h W 9 (Bs l) Try.underlying9 .i64 b (by omega) (by rw [Bs_size]; omega), Bs_extract, Int.toNat_natCast]
  simp
/-- 's[a:b]'. -/
theorem slMid (l : List UInt8) (a b : Nat) (h1 : a ≤ b) (h : b ≤ l.length) (W : World) : (Instr.slice 9 (.string (Bs l)) (some (.int .i64 (a : Int))) (some (.int .i64 (b : Int))) none).run Try.prog W = .ok (.string (Bs ((l.drop a).take (b - a)))) W := by
  rw [run_slice_string W 9 (Bs l) .i64 .i64 a b Try.underlying9 (by omega) (by omega) (by rw [Bs_size]; omega), Bs_extract, Int.toNat_natCast, Int.toNat_natCast]
/-- 'len(s)'. -/
theorem lenS (l : List UInt8) (h : l.length ≤ maxLen) (W : World) (ty : TypeId) : (Builtin.len_ #[9] ty #[.string (Bs l)]).run Try.prog W = .ok (.int .i64 (l.length : Int)) W := by
  rw [run_len_string W 9 ty (Bs l) Try.underlying9, Bs_size]
  rfl

set_option maxRecDepth 100000 in
theorem isBlank_any (c : Int) (w : World) : Calls Try.prog 14 #[.int .u8 c] w fun e w' => e = .returned (.bool (decide (c = 32) || decide (c = 10))) ∧ w' = w := by
  go_enter Try.func14, Try.ntmps14
  go_wp2
  all_goals (go_ret; refine ret_bool ?_; rw [Bool.eq_iff_iff]; simp; try omega)
set_option maxRecDepth 100000 in
theorem isPunct_any (c : Int) (w : World) : Calls Try.prog 20 #[.int .u8 c] w fun e w' => e = .returned (.bool (decide (c = 40) || decide (c = 41) || decide (c = 61))) ∧ w' = w := by
  go_enter Try.func20, Try.ntmps20
  go_wp2
  all_goals (go_ret; refine ret_bool ?_; rw [Bool.eq_iff_iff]; simp; try omega)
set_option maxRecDepth 100000 in
theorem startsIdent_any (c : Int) (w : World) : Calls Try.prog 28 #[.int .i32 c] w fun e w' => e = .returned (.bool (letZ c)) ∧ w' = w := by
  go_enter Try.func28, Try.ntmps28
  go_wp2
  all_goals (go_ret; refine ret_bool ?_; rw [Bool.eq_iff_iff]; simp [letZ]; try omega)
set_option maxRecDepth 100000 in
theorem isDigit_any (c : Int) (w : World) : Calls Try.prog 29 #[.int .i32 c] w fun e w' => e = .returned (.bool (digZ c)) ∧ w' = w := by
  go_enter Try.func29, Try.ntmps29
  go_wp2
  all_goals (go_ret; refine ret_bool ?_; rw [Bool.eq_iff_iff]; simp [digZ]; try omega)
set_option maxRecDepth 100000 in
theorem rdigit_any (c : Int) (w : World) : Calls Try.prog 26 #[.int .u8 c] w fun e w' => e = .returned (.bool (digZ c)) ∧ w' = w := by
  go_enter Try.func26, Try.ntmps26
  go_wp2
  all_goals (go_ret; refine ret_bool ?_; rw [Bool.eq_iff_iff]; simp [digZ]; try omega)
set_option maxRecDepth 100000 in
theorem rletter_any (c : Int) (w : World) : Calls Try.prog 24 #[.int .u8 c] w fun e w' => e = .returned (.bool (letZ c)) ∧ w' = w := by
  go_enter Try.func24, Try.ntmps24
  go_wp2
  all_goals (go_ret; refine ret_bool ?_; rw [Bool.eq_iff_iff]; simp [letZ]; try omega)

set_option maxRecDepth 100000 in
theorem cutMinus_any (l : List UInt8) (w : World) : Calls Try.prog 30 #[.string (Bs l)] w fun e w' => e = .returned (.tuple #[.string (Bs (cut l)), .bool (minus l)]) ∧ w' = w := by
  go_enter Try.func30, Try.ntmps30
  have hT := Bs_toList
  cases l with
  | nil =>
    go_wp2
    go_ret2
    exact ⟨rfl, rfl⟩
  | cons c r =>
    have hix := ix0 c r
    have hsl : ∀ W, (Instr.slice 9 (.string (Bs (c :: r))) (some (.int .i64 1)) none none).run Try.prog W = .ok (.string (Bs r)) W := fun W => slFrom (c :: r) 1 (by simp) W
    by_cases h1 : ((c.toNat : Int) == 45) = true
    · go_wp2
      go_ret2
      have h2 : (c.toNat : Int) = 45 := by simpa using h1
      exact ⟨by simp [cut, minus, headIs, h2], rfl⟩
    · have h2 : ((c.toNat : Int) == 45) = false := by simpa using h1
      clear h1
      go_wp2
      go_ret2
      have h3 : ¬ (c.toNat : Int) = 45 := by simpa using h2
      exact ⟨by simp [cut, minus, headIs, h3], rfl⟩
end Go.Proofs.Ytijibieeajakoaa

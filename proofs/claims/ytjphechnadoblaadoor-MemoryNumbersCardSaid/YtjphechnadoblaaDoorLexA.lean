/-
  Layer 13 (lexer): the program's tests of one byte or rune, and the cut of a minus sign.
-/
import Derived.Test.YtjphechnadoblaaDoorLexM
namespace Go.Proofs.YtjphechnadoblaaDoor
open Go.RowKit

theorem lx_ret_bool {w : World} {a b : Bool} (h : a = b) : Ending.returned (.bool a) = Ending.returned (.bool b) ∧ w = w := by subst h; exact ⟨rfl, rfl⟩
/-- A string's byte, by its index. -/
theorem ix (l : List UInt8) (i : Nat) (c : UInt8) (h : l[i]? = some c) (W : World) : (Instr.index 9 (.string (Bs l)) (.int .i64 (i : Int))).run Tryd.prog W = .ok (.int .u8 (c.toNat : Int)) W := by
  rw [run_index_string W 9 (Bs l) .i64 i Tryd.underlying9]
  obtain ⟨hlt, hc⟩ := List.getElem?_eq_some_iff.1 h
  have hs : (0 : Int) ≤ (i : Int) ∧ (i : Int) < ((Bs l).size : Int) := by rw [Bs_size]; omega
  rw [dif_pos hs]
  simp only [Int.toNat_natCast, Bs_get, hc]
theorem ix0 (c : UInt8) (r : List UInt8) (W : World) : (Instr.index 9 (.string (Bs (c :: r))) (.int .i64 0)).run Tryd.prog W = .ok (.int .u8 (c.toNat : Int)) W := ix (c :: r) 0 c rfl W
/-- 's[a:]'. -/
theorem slFrom (l : List UInt8) (a : Nat) (h : a ≤ l.length) (W : World) : (Instr.slice 9 (.string (Bs l)) (some (.int .i64 (a : Int))) none none).run Tryd.prog W = .ok (.string (Bs (l.drop a))) W := by
  rw [run_slice_string_l W 9 (Bs l) Tryd.underlying9 .i64 a (by omega) (by rw [Bs_size]; omega), Bs_extract, Bs_size, Int.toNat_natCast]
  congr 4
  rw [List.take_of_length_le (by simp)]
/-- 's[:b]'. -/
theorem slTo (l : List UInt8) (b : Nat) (h : b ≤ l.length) (W : World) : (Instr.slice 9 (.string (Bs l)) none (some (.int .i64 (b : Int))) none).run Tryd.prog W = .ok (.string (Bs (l.take b))) W := by
  rw [run_slice_string_h W 9 (Bs l) Tryd.underlying9 .i64 b (by omega) (by rw [Bs_size]; omega), Bs_extract, Int.toNat_natCast]
  simp
/-- 's[a:b]'. -/
theorem slMid (l : List UInt8) (a b : Nat) (h1 : a ≤ b) (h : b ≤ l.length) (W : World) : (Instr.slice 9 (.string (Bs l)) (some (.int .i64 (a : Int))) (some (.int .i64 (b : Int))) none).run Tryd.prog W = .ok (.string (Bs ((l.drop a).take (b - a)))) W := by
  rw [run_slice_string W 9 (Bs l) .i64 .i64 a b Tryd.underlying9 (by omega) (by omega) (by rw [Bs_size]; omega), Bs_extract, Int.toNat_natCast, Int.toNat_natCast]
/-- 'len(s)'. -/
theorem lenS (l : List UInt8) (_ : l.length ≤ maxLen) (W : World) (ty : TypeId) : (Builtin.len_ #[9] ty #[.string (Bs l)]).run Tryd.prog W = .ok (.int .i64 (l.length : Int)) W := by
  rw [run_len_string W 9 ty (Bs l) Tryd.underlying9, Bs_size]
  rfl

set_option maxRecDepth 100000 in
theorem startsIdent_any (c : Int) (w : World) : Calls Tryd.prog 112 #[.int .i32 c] w fun e w' => e = .returned (.bool (letZ c)) ∧ w' = w := by
  go_enter Tryd.func112, Tryd.ntmps112
  go_wp2
  all_goals (go_ret; refine lx_ret_bool ?_; rw [Bool.eq_iff_iff]; simp [letZ]; try omega)
set_option maxRecDepth 100000 in
theorem isDigit_any (c : Int) (w : World) : Calls Tryd.prog 113 #[.int .i32 c] w fun e w' => e = .returned (.bool (digZ c)) ∧ w' = w := by
  go_enter Tryd.func113, Tryd.ntmps113
  go_wp2
  all_goals (go_ret; refine lx_ret_bool ?_; rw [Bool.eq_iff_iff]; simp [digZ]; try omega)
end Go.Proofs.YtjphechnadoblaaDoor

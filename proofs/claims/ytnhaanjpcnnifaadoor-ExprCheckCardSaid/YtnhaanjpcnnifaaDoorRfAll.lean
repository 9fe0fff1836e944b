/-
  Layer 12 (opcode): the parts of the reference, for every operation but a call.
-/
import Derived.Test.YtnhaanjpcnnifaaDoorRfD
namespace Go.Proofs.YtnhaanjpcnnifaaDoor
open Go.RowKit

theorem rcount_all (k : Nat) (hk : k < 34) (hk1 : 1 ≤ k) (hk30 : k ≠ 30) (ty dst imm sym el : Int) (A GA FA : Option Addr) (n c gn gc fn fc : Nat) (nw : Bool) (w : World) : Calls Tryd.prog 67 #[.agg #[.int .i64 (k : Int), .int .i64 ty, .int .i64 dst, .slice A n c, .int .i64 imm, .int .i64 sym, .int .i64 el, .bool nw], .agg #[.slice GA gn gc, .slice FA fn fc]] w fun e w' => e = .returned (.tuple #[.int .i64 (rcnt k n), .bool (rcok k n)]) ∧ Below w.heap.size w w' := by
  rcases (show k = 1 ∨ k = 2 ∨ k = 3 ∨ k = 4 ∨ k = 5 ∨ k = 6 ∨ k = 7 ∨ k = 8 ∨ k = 9 ∨ k = 10 ∨ k = 11 ∨ k = 12 ∨ k = 13 ∨ k = 14 ∨ k = 15 ∨ k = 16 ∨ k = 17 ∨ k = 18 ∨ k = 19 ∨ k = 20 ∨ k = 21 ∨ k = 22 ∨ k = 23 ∨ k = 24 ∨ k = 25 ∨ k = 26 ∨ k = 27 ∨ k = 28 ∨ k = 29 ∨ k = 31 ∨ k = 32 ∨ k = 33 by omega) with rfl | rfl | rfl | rfl | rfl | rfl | rfl | rfl | rfl | rfl | rfl | rfl | rfl | rfl | rfl | rfl | rfl | rfl | rfl | rfl | rfl | rfl | rfl | rfl | rfl | rfl | rfl | rfl | rfl | rfl | rfl | rfl
  · exact rcount_1 ty dst imm sym el A GA FA n c gn gc fn fc nw w
  · exact rcount_2 ty dst imm sym el A GA FA n c gn gc fn fc nw w
  · exact rcount_3 ty dst imm sym el A GA FA n c gn gc fn fc nw w
  · exact rcount_4 ty dst imm sym el A GA FA n c gn gc fn fc nw w
  · exact rcount_5 ty dst imm sym el A GA FA n c gn gc fn fc nw w
  · exact rcount_6 ty dst imm sym el A GA FA n c gn gc fn fc nw w
  · exact rcount_7 ty dst imm sym el A GA FA n c gn gc fn fc nw w
  · exact rcount_8 ty dst imm sym el A GA FA n c gn gc fn fc nw w
  · exact rcount_9 ty dst imm sym el A GA FA n c gn gc fn fc nw w
  · exact rcount_10 ty dst imm sym el A GA FA n c gn gc fn fc nw w
  · exact rcount_11 ty dst imm sym el A GA FA n c gn gc fn fc nw w
  · exact rcount_12 ty dst imm sym el A GA FA n c gn gc fn fc nw w
  · exact rcount_13 ty dst imm sym el A GA FA n c gn gc fn fc nw w
  · exact rcount_14 ty dst imm sym el A GA FA n c gn gc fn fc nw w
  · exact rcount_15 ty dst imm sym el A GA FA n c gn gc fn fc nw w
  · exact rcount_16 ty dst imm sym el A GA FA n c gn gc fn fc nw w
  · exact rcount_17 ty dst imm sym el A GA FA n c gn gc fn fc nw w
  · exact rcount_18 ty dst imm sym el A GA FA n c gn gc fn fc nw w
  · exact rcount_19 ty dst imm sym el A GA FA n c gn gc fn fc nw w
  · exact rcount_20 ty dst imm sym el A GA FA n c gn gc fn fc nw w
  · exact rcount_21 ty dst imm sym el A GA FA n c gn gc fn fc nw w
  · exact rcount_22 ty dst imm sym el A GA FA n c gn gc fn fc nw w
  · exact rcount_23 ty dst imm sym el A GA FA n c gn gc fn fc nw w
  · exact rcount_24 ty dst imm sym el A GA FA n c gn gc fn fc nw w
  · exact rcount_25 ty dst imm sym el A GA FA n c gn gc fn fc nw w
  · exact rcount_26 ty dst imm sym el A GA FA n c gn gc fn fc nw w
  · exact rcount_27 ty dst imm sym el A GA FA n c gn gc fn fc nw w
  · exact rcount_28 ty dst imm sym el A GA FA n c gn gc fn fc nw w
  · exact rcount_29 ty dst imm sym el A GA FA n c gn gc fn fc nw w
  · exact rcount_31 ty dst imm sym el A GA FA n c gn gc fn fc nw w
  · exact rcount_32 ty dst imm sym el A GA FA n c gn gc fn fc nw w
  · exact rcount_33 ty dst imm sym el A GA FA n c gn gc fn fc nw w
theorem res_all (k : Nat) (hk : k < 34) (hk1 : 1 ≤ k) (hk30 : k ≠ 30) (ty dst imm sym el : Int) (A GA FA : Option Addr) (n c gn gc fn fc : Nat) (nw : Bool) (w : World) : Calls Tryd.prog 68 #[.agg #[.int .i64 (k : Int), .int .i64 ty, .int .i64 dst, .slice A n c, .int .i64 imm, .int .i64 sym, .int .i64 el, .bool nw], .agg #[.slice GA gn gc, .slice FA fn fc]] w fun e w' => e = .returned (.bool (resR k ty n)) ∧ Below w.heap.size w w' := by
  rcases (show k = 1 ∨ k = 2 ∨ k = 3 ∨ k = 4 ∨ k = 5 ∨ k = 6 ∨ k = 7 ∨ k = 8 ∨ k = 9 ∨ k = 10 ∨ k = 11 ∨ k = 12 ∨ k = 13 ∨ k = 14 ∨ k = 15 ∨ k = 16 ∨ k = 17 ∨ k = 18 ∨ k = 19 ∨ k = 20 ∨ k = 21 ∨ k = 22 ∨ k = 23 ∨ k = 24 ∨ k = 25 ∨ k = 26 ∨ k = 27 ∨ k = 28 ∨ k = 29 ∨ k = 31 ∨ k = 32 ∨ k = 33 by omega) with rfl | rfl | rfl | rfl | rfl | rfl | rfl | rfl | rfl | rfl | rfl | rfl | rfl | rfl | rfl | rfl | rfl | rfl | rfl | rfl | rfl | rfl | rfl | rfl | rfl | rfl | rfl | rfl | rfl | rfl | rfl | rfl
  · exact res_1 ty dst imm sym el A GA FA n c gn gc fn fc nw w
  · exact res_2 ty dst imm sym el A GA FA n c gn gc fn fc nw w
  · exact res_3 ty dst imm sym el A GA FA n c gn gc fn fc nw w
  · exact res_4 ty dst imm sym el A GA FA n c gn gc fn fc nw w
  · exact res_5 ty dst imm sym el A GA FA n c gn gc fn fc nw w
  · exact res_6 ty dst imm sym el A GA FA n c gn gc fn fc nw w
  · exact res_7 ty dst imm sym el A GA FA n c gn gc fn fc nw w
  · exact res_8 ty dst imm sym el A GA FA n c gn gc fn fc nw w
  · exact res_9 ty dst imm sym el A GA FA n c gn gc fn fc nw w
  · exact res_10 ty dst imm sym el A GA FA n c gn gc fn fc nw w
  · exact res_11 ty dst imm sym el A GA FA n c gn gc fn fc nw w
  · exact res_12 ty dst imm sym el A GA FA n c gn gc fn fc nw w
  · exact res_13 ty dst imm sym el A GA FA n c gn gc fn fc nw w
  · exact res_14 ty dst imm sym el A GA FA n c gn gc fn fc nw w
  · exact res_15 ty dst imm sym el A GA FA n c gn gc fn fc nw w
  · exact res_16 ty dst imm sym el A GA FA n c gn gc fn fc nw w
  · exact res_17 ty dst imm sym el A GA FA n c gn gc fn fc nw w
  · exact res_18 ty dst imm sym el A GA FA n c gn gc fn fc nw w
  · exact res_19 ty dst imm sym el A GA FA n c gn gc fn fc nw w
  · exact res_20 ty dst imm sym el A GA FA n c gn gc fn fc nw w
  · exact res_21 ty dst imm sym el A GA FA n c gn gc fn fc nw w
  · exact res_22 ty dst imm sym el A GA FA n c gn gc fn fc nw w
  · exact res_23 ty dst imm sym el A GA FA n c gn gc fn fc nw w
  · exact res_24 ty dst imm sym el A GA FA n c gn gc fn fc nw w
  · exact res_25 ty dst imm sym el A GA FA n c gn gc fn fc nw w
  · exact res_26 ty dst imm sym el A GA FA n c gn gc fn fc nw w
  · exact res_27 ty dst imm sym el A GA FA n c gn gc fn fc nw w
  · exact res_28 ty dst imm sym el A GA FA n c gn gc fn fc nw w
  · exact res_29 ty dst imm sym el A GA FA n c gn gc fn fc nw w
  · exact res_31 ty dst imm sym el A GA FA n c gn gc fn fc nw w
  · exact res_32 ty dst imm sym el A GA FA n c gn gc fn fc nw w
  · exact res_33 ty dst imm sym el A GA FA n c gn gc fn fc nw w
theorem opr_all (k : Nat) (hk : k < 34) (hk1 : 1 ≤ k) (hk30 : k ≠ 30) (hn : k ≠ 1 ∧ k ≠ 2 ∧ k ≠ 25 ∧ k ≠ 26) (ty dst imm sym el a first : Int) (j : Nat) (A GA FA : Option Addr) (n c gn gc fn fc : Nat) (nw : Bool) (w : World) : Calls Tryd.prog 69 #[.agg #[.int .i64 (k : Int), .int .i64 ty, .int .i64 dst, .slice A n c, .int .i64 imm, .int .i64 sym, .int .i64 el, .bool nw], .agg #[.slice GA gn gc, .slice FA fn fc], .int .i64 (j : Int), .int .i64 a, .int .i64 first] w fun e w' => e = .returned (.bool (opR k ty j a first)) ∧ Below w.heap.size w w' := by
  rcases (show k = 3 ∨ k = 4 ∨ k = 5 ∨ k = 6 ∨ k = 7 ∨ k = 8 ∨ k = 9 ∨ k = 10 ∨ k = 11 ∨ k = 12 ∨ k = 13 ∨ k = 14 ∨ k = 15 ∨ k = 16 ∨ k = 17 ∨ k = 18 ∨ k = 19 ∨ k = 20 ∨ k = 21 ∨ k = 22 ∨ k = 23 ∨ k = 24 ∨ k = 27 ∨ k = 28 ∨ k = 29 ∨ k = 31 ∨ k = 32 ∨ k = 33 by omega) with rfl | rfl | rfl | rfl | rfl | rfl | rfl | rfl | rfl | rfl | rfl | rfl | rfl | rfl | rfl | rfl | rfl | rfl | rfl | rfl | rfl | rfl | rfl | rfl | rfl | rfl | rfl | rfl
  · exact opr_3 ty dst imm sym el a first j A GA FA n c gn gc fn fc nw w
  · exact opr_4 ty dst imm sym el a first j A GA FA n c gn gc fn fc nw w
  · exact opr_5 ty dst imm sym el a first j A GA FA n c gn gc fn fc nw w
  · exact opr_6 ty dst imm sym el a first j A GA FA n c gn gc fn fc nw w
  · exact opr_7 ty dst imm sym el a first j A GA FA n c gn gc fn fc nw w
  · exact opr_8 ty dst imm sym el a first j A GA FA n c gn gc fn fc nw w
  · exact opr_9 ty dst imm sym el a first j A GA FA n c gn gc fn fc nw w
  · exact opr_10 ty dst imm sym el a first j A GA FA n c gn gc fn fc nw w
  · exact opr_11 ty dst imm sym el a first j A GA FA n c gn gc fn fc nw w
  · exact opr_12 ty dst imm sym el a first j A GA FA n c gn gc fn fc nw w
  · exact opr_13 ty dst imm sym el a first j A GA FA n c gn gc fn fc nw w
  · exact opr_14 ty dst imm sym el a first j A GA FA n c gn gc fn fc nw w
  · exact opr_15 ty dst imm sym el a first j A GA FA n c gn gc fn fc nw w
  · exact opr_16 ty dst imm sym el a first j A GA FA n c gn gc fn fc nw w
  · exact opr_17 ty dst imm sym el a first j A GA FA n c gn gc fn fc nw w
  · exact opr_18 ty dst imm sym el a first j A GA FA n c gn gc fn fc nw w
  · exact opr_19 ty dst imm sym el a first j A GA FA n c gn gc fn fc nw w
  · exact opr_20 ty dst imm sym el a first j A GA FA n c gn gc fn fc nw w
  · exact opr_21 ty dst imm sym el a first j A GA FA n c gn gc fn fc nw w
  · exact opr_22 ty dst imm sym el a first j A GA FA n c gn gc fn fc nw w
  · exact opr_23 ty dst imm sym el a first j A GA FA n c gn gc fn fc nw w
  · exact opr_24 ty dst imm sym el a first j A GA FA n c gn gc fn fc nw w
  · exact opr_27 ty dst imm sym el a first j A GA FA n c gn gc fn fc nw w
  · exact opr_28 ty dst imm sym el a first j A GA FA n c gn gc fn fc nw w
  · exact opr_29 ty dst imm sym el a first j A GA FA n c gn gc fn fc nw w
  · exact opr_31 ty dst imm sym el a first j A GA FA n c gn gc fn fc nw w
  · exact opr_32 ty dst imm sym el a first j A GA FA n c gn gc fn fc nw w
  · exact opr_33 ty dst imm sym el a first j A GA FA n c gn gc fn fc nw w
theorem cnt_r (k n : Nat) : cntB k n = (rcok k n && (rcnt k n == (n : Int))) := by
  unfold cntB rcok rcnt
  by_cases h : k = 32
  · simp [h]
  · rw [if_neg h, if_neg h, if_neg h, Bool.true_and, Bool.eq_iff_iff]; simp; omega
end Go.Proofs.YtnhaanjpcnnifaaDoor

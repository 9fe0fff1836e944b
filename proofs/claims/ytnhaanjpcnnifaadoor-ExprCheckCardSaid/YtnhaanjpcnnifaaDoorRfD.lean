/-
  Layer 12 (opcode): operand of the reference.
-/
import Derived.Test.YtnhaanjpcnnifaaDoorRfC
namespace Go.Proofs.YtnhaanjpcnnifaaDoor
open Go.RowKit

set_option maxRecDepth 100000 in
theorem opr_3 (ty dst imm sym el a first : Int) (j : Nat) (A GA FA : Option Addr) (n c gn gc fn fc : Nat) (nw : Bool) (w : World) : Calls Tryd.prog 69 #[.agg #[.int .i64 3, .int .i64 ty, .int .i64 dst, .slice A n c, .int .i64 imm, .int .i64 sym, .int .i64 el, .bool nw], .agg #[.slice GA gn gc, .slice FA fn fc], .int .i64 (j : Int), .int .i64 a, .int .i64 first] w fun e w' => e = .returned (.bool (opR 3 ty j a first)) ∧ Below w.heap.size w w' := by
  obtain ⟨w1, hw1⟩ : ∃ z, (w.alloc (.cells #[.int .i64 3, .int .i64 ty, .int .i64 dst, .slice A n c, .int .i64 imm, .int .i64 sym, .int .i64 el, .bool nw] 78)).alloc (.cells #[.slice GA gn gc, .slice FA fn fc] 32) = z := ⟨_, rfl⟩
  have hb : Below w.heap.size w w1 := by rw [← hw1]; exact ((Below.refl _ _).alloc (Nat.le_refl _) _).alloc (by simp [go_sem]) _
  have HI : Hid (Whole w1 w.heap.size 78 #[.int .i64 3, .int .i64 ty, .int .i64 dst, .slice A n c, .int .i64 imm, .int .i64 sym, .int .i64 el, .bool nw]) := by show Whole _ _ _ _; rw [← hw1]; exact (Whole.new w _ _).alloc _
  have i0 : w1.cell? ⟨w.heap.size, 0, none⟩ = some (.int .i64 3) := HI.out.cell 0
  have i1 : w1.cell? ⟨w.heap.size, 1, none⟩ = some (.int .i64 ty) := HI.out.cell 1
  have HB := hide hb
  go_enter Tryd.func69, Tryd.ntmps69
  go_upto_region 1 with fail
  clear hb hw1
  go_quiet (first | (go_at_call 94; exact Calls.quiet_of_same ((rbits_any _ _).mono fun _ _ ⟨e1, e2⟩ => ⟨e1, e2.symm⟩)))
  go_wp2_with (first | (go_at_call 91; refine (rint12_any _ _).mono ?_; rintro en wn ⟨rfl, rfl⟩) | (go_at_call 92; refine (rany_any _ _).mono ?_; rintro en wn ⟨rfl, rfl⟩) | (go_at_call 93; refine (rwide_any _ _).mono ?_; rintro en wn ⟨rfl, rfl⟩) | (go_at_call 70; refine (racc_any _ _).mono ?_; rintro en wn ⟨rfl, rfl⟩))
  all_goals
    first
      | (go_ret; refine ⟨ret_bool ?_, Below.drewN' HB.out _⟩)
      | (go_quiet (fail); go_wp2_with fail; all_goals (go_ret; refine ⟨ret_bool ?_, Below.drewN' (Below.drewN' HB.out _) _⟩))
  all_goals
    first | rfl | (show _ = (wideB a && decide (bitsI ty < bitsI a)); simp_all; done) | (show _ = (wideB a && decide (bitsI ty < bitsI a)); rw [‹wideB a = true›]; rfl) | (simp_all [opR, bitsM_eq]; done) | (simp_all [opR, bitsM_eq, bne]; done) | (rw [Bool.eq_iff_iff]; simp_all [opR, bitsM_eq]; done) | (rw [Bool.eq_iff_iff]; simp_all [opR, bitsM_eq]; omega)
set_option maxRecDepth 100000 in
theorem opr_4 (ty dst imm sym el a first : Int) (j : Nat) (A GA FA : Option Addr) (n c gn gc fn fc : Nat) (nw : Bool) (w : World) : Calls Tryd.prog 69 #[.agg #[.int .i64 4, .int .i64 ty, .int .i64 dst, .slice A n c, .int .i64 imm, .int .i64 sym, .int .i64 el, .bool nw], .agg #[.slice GA gn gc, .slice FA fn fc], .int .i64 (j : Int), .int .i64 a, .int .i64 first] w fun e w' => e = .returned (.bool (opR 4 ty j a first)) ∧ Below w.heap.size w w' := by
  obtain ⟨w1, hw1⟩ : ∃ z, (w.alloc (.cells #[.int .i64 4, .int .i64 ty, .int .i64 dst, .slice A n c, .int .i64 imm, .int .i64 sym, .int .i64 el, .bool nw] 78)).alloc (.cells #[.slice GA gn gc, .slice FA fn fc] 32) = z := ⟨_, rfl⟩
  have hb : Below w.heap.size w w1 := by rw [← hw1]; exact ((Below.refl _ _).alloc (Nat.le_refl _) _).alloc (by simp [go_sem]) _
  have HI : Hid (Whole w1 w.heap.size 78 #[.int .i64 4, .int .i64 ty, .int .i64 dst, .slice A n c, .int .i64 imm, .int .i64 sym, .int .i64 el, .bool nw]) := by show Whole _ _ _ _; rw [← hw1]; exact (Whole.new w _ _).alloc _
  have i0 : w1.cell? ⟨w.heap.size, 0, none⟩ = some (.int .i64 4) := HI.out.cell 0
  have i1 : w1.cell? ⟨w.heap.size, 1, none⟩ = some (.int .i64 ty) := HI.out.cell 1
  have HB := hide hb
  go_enter Tryd.func69, Tryd.ntmps69
  go_upto_region 1 with fail
  clear hb hw1
  go_quiet (first | (go_at_call 94; exact Calls.quiet_of_same ((rbits_any _ _).mono fun _ _ ⟨e1, e2⟩ => ⟨e1, e2.symm⟩)))
  go_wp2_with (first | (go_at_call 91; refine (rint12_any _ _).mono ?_; rintro en wn ⟨rfl, rfl⟩) | (go_at_call 92; refine (rany_any _ _).mono ?_; rintro en wn ⟨rfl, rfl⟩) | (go_at_call 93; refine (rwide_any _ _).mono ?_; rintro en wn ⟨rfl, rfl⟩) | (go_at_call 70; refine (racc_any _ _).mono ?_; rintro en wn ⟨rfl, rfl⟩))
  all_goals
    first
      | (go_ret; refine ⟨ret_bool ?_, Below.drewN' HB.out _⟩)
      | (go_quiet (fail); go_wp2_with fail; all_goals (go_ret; refine ⟨ret_bool ?_, Below.drewN' (Below.drewN' HB.out _) _⟩))
  all_goals
    first | rfl | (show _ = (wideB a && decide (bitsI ty < bitsI a)); simp_all; done) | (show _ = (wideB a && decide (bitsI ty < bitsI a)); rw [‹wideB a = true›]; rfl) | (simp_all [opR, bitsM_eq]; done) | (simp_all [opR, bitsM_eq, bne]; done) | (rw [Bool.eq_iff_iff]; simp_all [opR, bitsM_eq]; done) | (rw [Bool.eq_iff_iff]; simp_all [opR, bitsM_eq]; omega)
set_option maxRecDepth 100000 in
theorem opr_5 (ty dst imm sym el a first : Int) (j : Nat) (A GA FA : Option Addr) (n c gn gc fn fc : Nat) (nw : Bool) (w : World) : Calls Tryd.prog 69 #[.agg #[.int .i64 5, .int .i64 ty, .int .i64 dst, .slice A n c, .int .i64 imm, .int .i64 sym, .int .i64 el, .bool nw], .agg #[.slice GA gn gc, .slice FA fn fc], .int .i64 (j : Int), .int .i64 a, .int .i64 first] w fun e w' => e = .returned (.bool (opR 5 ty j a first)) ∧ Below w.heap.size w w' := by
  obtain ⟨w1, hw1⟩ : ∃ z, (w.alloc (.cells #[.int .i64 5, .int .i64 ty, .int .i64 dst, .slice A n c, .int .i64 imm, .int .i64 sym, .int .i64 el, .bool nw] 78)).alloc (.cells #[.slice GA gn gc, .slice FA fn fc] 32) = z := ⟨_, rfl⟩
  have hb : Below w.heap.size w w1 := by rw [← hw1]; exact ((Below.refl _ _).alloc (Nat.le_refl _) _).alloc (by simp [go_sem]) _
  have HI : Hid (Whole w1 w.heap.size 78 #[.int .i64 5, .int .i64 ty, .int .i64 dst, .slice A n c, .int .i64 imm, .int .i64 sym, .int .i64 el, .bool nw]) := by show Whole _ _ _ _; rw [← hw1]; exact (Whole.new w _ _).alloc _
  have i0 : w1.cell? ⟨w.heap.size, 0, none⟩ = some (.int .i64 5) := HI.out.cell 0
  have i1 : w1.cell? ⟨w.heap.size, 1, none⟩ = some (.int .i64 ty) := HI.out.cell 1
  have HB := hide hb
  go_enter Tryd.func69, Tryd.ntmps69
  go_upto_region 1 with fail
  clear hb hw1
  go_quiet (first | (go_at_call 94; exact Calls.quiet_of_same ((rbits_any _ _).mono fun _ _ ⟨e1, e2⟩ => ⟨e1, e2.symm⟩)))
  go_wp2_with (first | (go_at_call 91; refine (rint12_any _ _).mono ?_; rintro en wn ⟨rfl, rfl⟩) | (go_at_call 92; refine (rany_any _ _).mono ?_; rintro en wn ⟨rfl, rfl⟩) | (go_at_call 93; refine (rwide_any _ _).mono ?_; rintro en wn ⟨rfl, rfl⟩) | (go_at_call 70; refine (racc_any _ _).mono ?_; rintro en wn ⟨rfl, rfl⟩))
  all_goals
    first
      | (go_ret; refine ⟨ret_bool ?_, Below.drewN' HB.out _⟩)
      | (go_quiet (fail); go_wp2_with fail; all_goals (go_ret; refine ⟨ret_bool ?_, Below.drewN' (Below.drewN' HB.out _) _⟩))
  all_goals
    first | rfl | (show _ = (wideB a && decide (bitsI ty < bitsI a)); simp_all; done) | (show _ = (wideB a && decide (bitsI ty < bitsI a)); rw [‹wideB a = true›]; rfl) | (simp_all [opR, bitsM_eq]; done) | (simp_all [opR, bitsM_eq, bne]; done) | (rw [Bool.eq_iff_iff]; simp_all [opR, bitsM_eq]; done) | (rw [Bool.eq_iff_iff]; simp_all [opR, bitsM_eq]; omega)
set_option maxRecDepth 100000 in
theorem opr_6 (ty dst imm sym el a first : Int) (j : Nat) (A GA FA : Option Addr) (n c gn gc fn fc : Nat) (nw : Bool) (w : World) : Calls Tryd.prog 69 #[.agg #[.int .i64 6, .int .i64 ty, .int .i64 dst, .slice A n c, .int .i64 imm, .int .i64 sym, .int .i64 el, .bool nw], .agg #[.slice GA gn gc, .slice FA fn fc], .int .i64 (j : Int), .int .i64 a, .int .i64 first] w fun e w' => e = .returned (.bool (opR 6 ty j a first)) ∧ Below w.heap.size w w' := by
  obtain ⟨w1, hw1⟩ : ∃ z, (w.alloc (.cells #[.int .i64 6, .int .i64 ty, .int .i64 dst, .slice A n c, .int .i64 imm, .int .i64 sym, .int .i64 el, .bool nw] 78)).alloc (.cells #[.slice GA gn gc, .slice FA fn fc] 32) = z := ⟨_, rfl⟩
  have hb : Below w.heap.size w w1 := by rw [← hw1]; exact ((Below.refl _ _).alloc (Nat.le_refl _) _).alloc (by simp [go_sem]) _
  have HI : Hid (Whole w1 w.heap.size 78 #[.int .i64 6, .int .i64 ty, .int .i64 dst, .slice A n c, .int .i64 imm, .int .i64 sym, .int .i64 el, .bool nw]) := by show Whole _ _ _ _; rw [← hw1]; exact (Whole.new w _ _).alloc _
  have i0 : w1.cell? ⟨w.heap.size, 0, none⟩ = some (.int .i64 6) := HI.out.cell 0
  have i1 : w1.cell? ⟨w.heap.size, 1, none⟩ = some (.int .i64 ty) := HI.out.cell 1
  have HB := hide hb
  go_enter Tryd.func69, Tryd.ntmps69
  go_upto_region 1 with fail
  clear hb hw1
  go_quiet (first | (go_at_call 94; exact Calls.quiet_of_same ((rbits_any _ _).mono fun _ _ ⟨e1, e2⟩ => ⟨e1, e2.symm⟩)))
  go_wp2_with (first | (go_at_call 91; refine (rint12_any _ _).mono ?_; rintro en wn ⟨rfl, rfl⟩) | (go_at_call 92; refine (rany_any _ _).mono ?_; rintro en wn ⟨rfl, rfl⟩) | (go_at_call 93; refine (rwide_any _ _).mono ?_; rintro en wn ⟨rfl, rfl⟩) | (go_at_call 70; refine (racc_any _ _).mono ?_; rintro en wn ⟨rfl, rfl⟩))
  all_goals
    first
      | (go_ret; refine ⟨ret_bool ?_, Below.drewN' HB.out _⟩)
      | (go_quiet (fail); go_wp2_with fail; all_goals (go_ret; refine ⟨ret_bool ?_, Below.drewN' (Below.drewN' HB.out _) _⟩))
  all_goals
    first | rfl | (show _ = (wideB a && decide (bitsI ty < bitsI a)); simp_all; done) | (show _ = (wideB a && decide (bitsI ty < bitsI a)); rw [‹wideB a = true›]; rfl) | (simp_all [opR, bitsM_eq]; done) | (simp_all [opR, bitsM_eq, bne]; done) | (rw [Bool.eq_iff_iff]; simp_all [opR, bitsM_eq]; done) | (rw [Bool.eq_iff_iff]; simp_all [opR, bitsM_eq]; omega)
set_option maxRecDepth 100000 in
theorem opr_7 (ty dst imm sym el a first : Int) (j : Nat) (A GA FA : Option Addr) (n c gn gc fn fc : Nat) (nw : Bool) (w : World) : Calls Tryd.prog 69 #[.agg #[.int .i64 7, .int .i64 ty, .int .i64 dst, .slice A n c, .int .i64 imm, .int .i64 sym, .int .i64 el, .bool nw], .agg #[.slice GA gn gc, .slice FA fn fc], .int .i64 (j : Int), .int .i64 a, .int .i64 first] w fun e w' => e = .returned (.bool (opR 7 ty j a first)) ∧ Below w.heap.size w w' := by
  obtain ⟨w1, hw1⟩ : ∃ z, (w.alloc (.cells #[.int .i64 7, .int .i64 ty, .int .i64 dst, .slice A n c, .int .i64 imm, .int .i64 sym, .int .i64 el, .bool nw] 78)).alloc (.cells #[.slice GA gn gc, .slice FA fn fc] 32) = z := ⟨_, rfl⟩
  have hb : Below w.heap.size w w1 := by rw [← hw1]; exact ((Below.refl _ _).alloc (Nat.le_refl _) _).alloc (by simp [go_sem]) _
  have HI : Hid (Whole w1 w.heap.size 78 #[.int .i64 7, .int .i64 ty, .int .i64 dst, .slice A n c, .int .i64 imm, .int .i64 sym, .int .i64 el, .bool nw]) := by show Whole _ _ _ _; rw [← hw1]; exact (Whole.new w _ _).alloc _
  have i0 : w1.cell? ⟨w.heap.size, 0, none⟩ = some (.int .i64 7) := HI.out.cell 0
  have i1 : w1.cell? ⟨w.heap.size, 1, none⟩ = some (.int .i64 ty) := HI.out.cell 1
  have HB := hide hb
  go_enter Tryd.func69, Tryd.ntmps69
  go_upto_region 1 with fail
  clear hb hw1
  go_quiet (first | (go_at_call 94; exact Calls.quiet_of_same ((rbits_any _ _).mono fun _ _ ⟨e1, e2⟩ => ⟨e1, e2.symm⟩)))
  go_wp2_with (first | (go_at_call 91; refine (rint12_any _ _).mono ?_; rintro en wn ⟨rfl, rfl⟩) | (go_at_call 92; refine (rany_any _ _).mono ?_; rintro en wn ⟨rfl, rfl⟩) | (go_at_call 93; refine (rwide_any _ _).mono ?_; rintro en wn ⟨rfl, rfl⟩) | (go_at_call 70; refine (racc_any _ _).mono ?_; rintro en wn ⟨rfl, rfl⟩))
  all_goals
    first
      | (go_ret; refine ⟨ret_bool ?_, Below.drewN' HB.out _⟩)
      | (go_quiet (fail); go_wp2_with fail; all_goals (go_ret; refine ⟨ret_bool ?_, Below.drewN' (Below.drewN' HB.out _) _⟩))
  all_goals
    first | rfl | (show _ = (wideB a && decide (bitsI ty < bitsI a)); simp_all; done) | (show _ = (wideB a && decide (bitsI ty < bitsI a)); rw [‹wideB a = true›]; rfl) | (simp_all [opR, bitsM_eq]; done) | (simp_all [opR, bitsM_eq, bne]; done) | (rw [Bool.eq_iff_iff]; simp_all [opR, bitsM_eq]; done) | (rw [Bool.eq_iff_iff]; simp_all [opR, bitsM_eq]; omega)
set_option maxRecDepth 100000 in
theorem opr_8 (ty dst imm sym el a first : Int) (j : Nat) (A GA FA : Option Addr) (n c gn gc fn fc : Nat) (nw : Bool) (w : World) : Calls Tryd.prog 69 #[.agg #[.int .i64 8, .int .i64 ty, .int .i64 dst, .slice A n c, .int .i64 imm, .int .i64 sym, .int .i64 el, .bool nw], .agg #[.slice GA gn gc, .slice FA fn fc], .int .i64 (j : Int), .int .i64 a, .int .i64 first] w fun e w' => e = .returned (.bool (opR 8 ty j a first)) ∧ Below w.heap.size w w' := by
  obtain ⟨w1, hw1⟩ : ∃ z, (w.alloc (.cells #[.int .i64 8, .int .i64 ty, .int .i64 dst, .slice A n c, .int .i64 imm, .int .i64 sym, .int .i64 el, .bool nw] 78)).alloc (.cells #[.slice GA gn gc, .slice FA fn fc] 32) = z := ⟨_, rfl⟩
  have hb : Below w.heap.size w w1 := by rw [← hw1]; exact ((Below.refl _ _).alloc (Nat.le_refl _) _).alloc (by simp [go_sem]) _
  have HI : Hid (Whole w1 w.heap.size 78 #[.int .i64 8, .int .i64 ty, .int .i64 dst, .slice A n c, .int .i64 imm, .int .i64 sym, .int .i64 el, .bool nw]) := by show Whole _ _ _ _; rw [← hw1]; exact (Whole.new w _ _).alloc _
  have i0 : w1.cell? ⟨w.heap.size, 0, none⟩ = some (.int .i64 8) := HI.out.cell 0
  have i1 : w1.cell? ⟨w.heap.size, 1, none⟩ = some (.int .i64 ty) := HI.out.cell 1
  have HB := hide hb
  go_enter Tryd.func69, Tryd.ntmps69
  go_upto_region 1 with fail
  clear hb hw1
  go_quiet (first | (go_at_call 94; exact Calls.quiet_of_same ((rbits_any _ _).mono fun _ _ ⟨e1, e2⟩ => ⟨e1, e2.symm⟩)))
  go_wp2_with (first | (go_at_call 91; refine (rint12_any _ _).mono ?_; rintro en wn ⟨rfl, rfl⟩) | (go_at_call 92; refine (rany_any _ _).mono ?_; rintro en wn ⟨rfl, rfl⟩) | (go_at_call 93; refine (rwide_any _ _).mono ?_; rintro en wn ⟨rfl, rfl⟩) | (go_at_call 70; refine (racc_any _ _).mono ?_; rintro en wn ⟨rfl, rfl⟩))
  all_goals
    first
      | (go_ret; refine ⟨ret_bool ?_, Below.drewN' HB.out _⟩)
      | (go_quiet (fail); go_wp2_with fail; all_goals (go_ret; refine ⟨ret_bool ?_, Below.drewN' (Below.drewN' HB.out _) _⟩))
  all_goals
    first | rfl | (show _ = (wideB a && decide (bitsI ty < bitsI a)); simp_all; done) | (show _ = (wideB a && decide (bitsI ty < bitsI a)); rw [‹wideB a = true›]; rfl) | (simp_all [opR, bitsM_eq]; done) | (simp_all [opR, bitsM_eq, bne]; done) | (rw [Bool.eq_iff_iff]; simp_all [opR, bitsM_eq]; done) | (rw [Bool.eq_iff_iff]; simp_all [opR, bitsM_eq]; omega)
set_option maxRecDepth 100000 in
theorem opr_9 (ty dst imm sym el a first : Int) (j : Nat) (A GA FA : Option Addr) (n c gn gc fn fc : Nat) (nw : Bool) (w : World) : Calls Tryd.prog 69 #[.agg #[.int .i64 9, .int .i64 ty, .int .i64 dst, .slice A n c, .int .i64 imm, .int .i64 sym, .int .i64 el, .bool nw], .agg #[.slice GA gn gc, .slice FA fn fc], .int .i64 (j : Int), .int .i64 a, .int .i64 first] w fun e w' => e = .returned (.bool (opR 9 ty j a first)) ∧ Below w.heap.size w w' := by
  obtain ⟨w1, hw1⟩ : ∃ z, (w.alloc (.cells #[.int .i64 9, .int .i64 ty, .int .i64 dst, .slice A n c, .int .i64 imm, .int .i64 sym, .int .i64 el, .bool nw] 78)).alloc (.cells #[.slice GA gn gc, .slice FA fn fc] 32) = z := ⟨_, rfl⟩
  have hb : Below w.heap.size w w1 := by rw [← hw1]; exact ((Below.refl _ _).alloc (Nat.le_refl _) _).alloc (by simp [go_sem]) _
  have HI : Hid (Whole w1 w.heap.size 78 #[.int .i64 9, .int .i64 ty, .int .i64 dst, .slice A n c, .int .i64 imm, .int .i64 sym, .int .i64 el, .bool nw]) := by show Whole _ _ _ _; rw [← hw1]; exact (Whole.new w _ _).alloc _
  have i0 : w1.cell? ⟨w.heap.size, 0, none⟩ = some (.int .i64 9) := HI.out.cell 0
  have i1 : w1.cell? ⟨w.heap.size, 1, none⟩ = some (.int .i64 ty) := HI.out.cell 1
  have HB := hide hb
  go_enter Tryd.func69, Tryd.ntmps69
  go_upto_region 1 with fail
  clear hb hw1
  go_quiet (first | (go_at_call 94; exact Calls.quiet_of_same ((rbits_any _ _).mono fun _ _ ⟨e1, e2⟩ => ⟨e1, e2.symm⟩)))
  go_wp2_with (first | (go_at_call 91; refine (rint12_any _ _).mono ?_; rintro en wn ⟨rfl, rfl⟩) | (go_at_call 92; refine (rany_any _ _).mono ?_; rintro en wn ⟨rfl, rfl⟩) | (go_at_call 93; refine (rwide_any _ _).mono ?_; rintro en wn ⟨rfl, rfl⟩) | (go_at_call 70; refine (racc_any _ _).mono ?_; rintro en wn ⟨rfl, rfl⟩))
  all_goals
    first
      | (go_ret; refine ⟨ret_bool ?_, Below.drewN' HB.out _⟩)
      | (go_quiet (fail); go_wp2_with fail; all_goals (go_ret; refine ⟨ret_bool ?_, Below.drewN' (Below.drewN' HB.out _) _⟩))
  all_goals
    first | rfl | (show _ = (wideB a && decide (bitsI ty < bitsI a)); simp_all; done) | (show _ = (wideB a && decide (bitsI ty < bitsI a)); rw [‹wideB a = true›]; rfl) | (simp_all [opR, bitsM_eq]; done) | (simp_all [opR, bitsM_eq, bne]; done) | (rw [Bool.eq_iff_iff]; simp_all [opR, bitsM_eq]; done) | (rw [Bool.eq_iff_iff]; simp_all [opR, bitsM_eq]; omega)
set_option maxRecDepth 100000 in
theorem opr_10 (ty dst imm sym el a first : Int) (j : Nat) (A GA FA : Option Addr) (n c gn gc fn fc : Nat) (nw : Bool) (w : World) : Calls Tryd.prog 69 #[.agg #[.int .i64 10, .int .i64 ty, .int .i64 dst, .slice A n c, .int .i64 imm, .int .i64 sym, .int .i64 el, .bool nw], .agg #[.slice GA gn gc, .slice FA fn fc], .int .i64 (j : Int), .int .i64 a, .int .i64 first] w fun e w' => e = .returned (.bool (opR 10 ty j a first)) ∧ Below w.heap.size w w' := by
  obtain ⟨w1, hw1⟩ : ∃ z, (w.alloc (.cells #[.int .i64 10, .int .i64 ty, .int .i64 dst, .slice A n c, .int .i64 imm, .int .i64 sym, .int .i64 el, .bool nw] 78)).alloc (.cells #[.slice GA gn gc, .slice FA fn fc] 32) = z := ⟨_, rfl⟩
  have hb : Below w.heap.size w w1 := by rw [← hw1]; exact ((Below.refl _ _).alloc (Nat.le_refl _) _).alloc (by simp [go_sem]) _
  have HI : Hid (Whole w1 w.heap.size 78 #[.int .i64 10, .int .i64 ty, .int .i64 dst, .slice A n c, .int .i64 imm, .int .i64 sym, .int .i64 el, .bool nw]) := by show Whole _ _ _ _; rw [← hw1]; exact (Whole.new w _ _).alloc _
  have i0 : w1.cell? ⟨w.heap.size, 0, none⟩ = some (.int .i64 10) := HI.out.cell 0
  have i1 : w1.cell? ⟨w.heap.size, 1, none⟩ = some (.int .i64 ty) := HI.out.cell 1
  have HB := hide hb
  go_enter Tryd.func69, Tryd.ntmps69
  go_upto_region 1 with fail
  clear hb hw1
  go_quiet (first | (go_at_call 94; exact Calls.quiet_of_same ((rbits_any _ _).mono fun _ _ ⟨e1, e2⟩ => ⟨e1, e2.symm⟩)))
  go_wp2_with (first | (go_at_call 91; refine (rint12_any _ _).mono ?_; rintro en wn ⟨rfl, rfl⟩) | (go_at_call 92; refine (rany_any _ _).mono ?_; rintro en wn ⟨rfl, rfl⟩) | (go_at_call 93; refine (rwide_any _ _).mono ?_; rintro en wn ⟨rfl, rfl⟩) | (go_at_call 70; refine (racc_any _ _).mono ?_; rintro en wn ⟨rfl, rfl⟩))
  all_goals
    first
      | (go_ret; refine ⟨ret_bool ?_, Below.drewN' HB.out _⟩)
      | (go_quiet (fail); go_wp2_with fail; all_goals (go_ret; refine ⟨ret_bool ?_, Below.drewN' (Below.drewN' HB.out _) _⟩))
  all_goals
    first | rfl | (show _ = (wideB a && decide (bitsI ty < bitsI a)); simp_all; done) | (show _ = (wideB a && decide (bitsI ty < bitsI a)); rw [‹wideB a = true›]; rfl) | (simp_all [opR, bitsM_eq]; done) | (simp_all [opR, bitsM_eq, bne]; done) | (rw [Bool.eq_iff_iff]; simp_all [opR, bitsM_eq]; done) | (rw [Bool.eq_iff_iff]; simp_all [opR, bitsM_eq]; omega)
set_option maxRecDepth 100000 in
theorem opr_11 (ty dst imm sym el a first : Int) (j : Nat) (A GA FA : Option Addr) (n c gn gc fn fc : Nat) (nw : Bool) (w : World) : Calls Tryd.prog 69 #[.agg #[.int .i64 11, .int .i64 ty, .int .i64 dst, .slice A n c, .int .i64 imm, .int .i64 sym, .int .i64 el, .bool nw], .agg #[.slice GA gn gc, .slice FA fn fc], .int .i64 (j : Int), .int .i64 a, .int .i64 first] w fun e w' => e = .returned (.bool (opR 11 ty j a first)) ∧ Below w.heap.size w w' := by
  obtain ⟨w1, hw1⟩ : ∃ z, (w.alloc (.cells #[.int .i64 11, .int .i64 ty, .int .i64 dst, .slice A n c, .int .i64 imm, .int .i64 sym, .int .i64 el, .bool nw] 78)).alloc (.cells #[.slice GA gn gc, .slice FA fn fc] 32) = z := ⟨_, rfl⟩
  have hb : Below w.heap.size w w1 := by rw [← hw1]; exact ((Below.refl _ _).alloc (Nat.le_refl _) _).alloc (by simp [go_sem]) _
  have HI : Hid (Whole w1 w.heap.size 78 #[.int .i64 11, .int .i64 ty, .int .i64 dst, .slice A n c, .int .i64 imm, .int .i64 sym, .int .i64 el, .bool nw]) := by show Whole _ _ _ _; rw [← hw1]; exact (Whole.new w _ _).alloc _
  have i0 : w1.cell? ⟨w.heap.size, 0, none⟩ = some (.int .i64 11) := HI.out.cell 0
  have i1 : w1.cell? ⟨w.heap.size, 1, none⟩ = some (.int .i64 ty) := HI.out.cell 1
  have HB := hide hb
  go_enter Tryd.func69, Tryd.ntmps69
  go_upto_region 1 with fail
  clear hb hw1
  go_quiet (first | (go_at_call 94; exact Calls.quiet_of_same ((rbits_any _ _).mono fun _ _ ⟨e1, e2⟩ => ⟨e1, e2.symm⟩)))
  go_wp2_with (first | (go_at_call 91; refine (rint12_any _ _).mono ?_; rintro en wn ⟨rfl, rfl⟩) | (go_at_call 92; refine (rany_any _ _).mono ?_; rintro en wn ⟨rfl, rfl⟩) | (go_at_call 93; refine (rwide_any _ _).mono ?_; rintro en wn ⟨rfl, rfl⟩) | (go_at_call 70; refine (racc_any _ _).mono ?_; rintro en wn ⟨rfl, rfl⟩))
  all_goals
    first
      | (go_ret; refine ⟨ret_bool ?_, Below.drewN' HB.out _⟩)
      | (go_quiet (fail); go_wp2_with fail; all_goals (go_ret; refine ⟨ret_bool ?_, Below.drewN' (Below.drewN' HB.out _) _⟩))
  all_goals
    first | rfl | (show _ = (wideB a && decide (bitsI ty < bitsI a)); simp_all; done) | (show _ = (wideB a && decide (bitsI ty < bitsI a)); rw [‹wideB a = true›]; rfl) | (simp_all [opR, bitsM_eq]; done) | (simp_all [opR, bitsM_eq, bne]; done) | (rw [Bool.eq_iff_iff]; simp_all [opR, bitsM_eq]; done) | (rw [Bool.eq_iff_iff]; simp_all [opR, bitsM_eq]; omega)
set_option maxRecDepth 100000 in
theorem opr_12 (ty dst imm sym el a first : Int) (j : Nat) (A GA FA : Option Addr) (n c gn gc fn fc : Nat) (nw : Bool) (w : World) : Calls Tryd.prog 69 #[.agg #[.int .i64 12, .int .i64 ty, .int .i64 dst, .slice A n c, .int .i64 imm, .int .i64 sym, .int .i64 el, .bool nw], .agg #[.slice GA gn gc, .slice FA fn fc], .int .i64 (j : Int), .int .i64 a, .int .i64 first] w fun e w' => e = .returned (.bool (opR 12 ty j a first)) ∧ Below w.heap.size w w' := by
  obtain ⟨w1, hw1⟩ : ∃ z, (w.alloc (.cells #[.int .i64 12, .int .i64 ty, .int .i64 dst, .slice A n c, .int .i64 imm, .int .i64 sym, .int .i64 el, .bool nw] 78)).alloc (.cells #[.slice GA gn gc, .slice FA fn fc] 32) = z := ⟨_, rfl⟩
  have hb : Below w.heap.size w w1 := by rw [← hw1]; exact ((Below.refl _ _).alloc (Nat.le_refl _) _).alloc (by simp [go_sem]) _
  have HI : Hid (Whole w1 w.heap.size 78 #[.int .i64 12, .int .i64 ty, .int .i64 dst, .slice A n c, .int .i64 imm, .int .i64 sym, .int .i64 el, .bool nw]) := by show Whole _ _ _ _; rw [← hw1]; exact (Whole.new w _ _).alloc _
  have i0 : w1.cell? ⟨w.heap.size, 0, none⟩ = some (.int .i64 12) := HI.out.cell 0
  have i1 : w1.cell? ⟨w.heap.size, 1, none⟩ = some (.int .i64 ty) := HI.out.cell 1
  have HB := hide hb
  go_enter Tryd.func69, Tryd.ntmps69
  go_upto_region 1 with fail
  clear hb hw1
  go_quiet (first | (go_at_call 94; exact Calls.quiet_of_same ((rbits_any _ _).mono fun _ _ ⟨e1, e2⟩ => ⟨e1, e2.symm⟩)))
  go_wp2_with (first | (go_at_call 91; refine (rint12_any _ _).mono ?_; rintro en wn ⟨rfl, rfl⟩) | (go_at_call 92; refine (rany_any _ _).mono ?_; rintro en wn ⟨rfl, rfl⟩) | (go_at_call 93; refine (rwide_any _ _).mono ?_; rintro en wn ⟨rfl, rfl⟩) | (go_at_call 70; refine (racc_any _ _).mono ?_; rintro en wn ⟨rfl, rfl⟩))
  all_goals
    first
      | (go_ret; refine ⟨ret_bool ?_, Below.drewN' HB.out _⟩)
      | (go_quiet (fail); go_wp2_with fail; all_goals (go_ret; refine ⟨ret_bool ?_, Below.drewN' (Below.drewN' HB.out _) _⟩))
  all_goals
    first | rfl | (show _ = (wideB a && decide (bitsI ty < bitsI a)); simp_all; done) | (show _ = (wideB a && decide (bitsI ty < bitsI a)); rw [‹wideB a = true›]; rfl) | (simp_all [opR, bitsM_eq]; done) | (simp_all [opR, bitsM_eq, bne]; done) | (rw [Bool.eq_iff_iff]; simp_all [opR, bitsM_eq]; done) | (rw [Bool.eq_iff_iff]; simp_all [opR, bitsM_eq]; omega)
set_option maxRecDepth 100000 in
theorem opr_13 (ty dst imm sym el a first : Int) (j : Nat) (A GA FA : Option Addr) (n c gn gc fn fc : Nat) (nw : Bool) (w : World) : Calls Tryd.prog 69 #[.agg #[.int .i64 13, .int .i64 ty, .int .i64 dst, .slice A n c, .int .i64 imm, .int .i64 sym, .int .i64 el, .bool nw], .agg #[.slice GA gn gc, .slice FA fn fc], .int .i64 (j : Int), .int .i64 a, .int .i64 first] w fun e w' => e = .returned (.bool (opR 13 ty j a first)) ∧ Below w.heap.size w w' := by
  obtain ⟨w1, hw1⟩ : ∃ z, (w.alloc (.cells #[.int .i64 13, .int .i64 ty, .int .i64 dst, .slice A n c, .int .i64 imm, .int .i64 sym, .int .i64 el, .bool nw] 78)).alloc (.cells #[.slice GA gn gc, .slice FA fn fc] 32) = z := ⟨_, rfl⟩
  have hb : Below w.heap.size w w1 := by rw [← hw1]; exact ((Below.refl _ _).alloc (Nat.le_refl _) _).alloc (by simp [go_sem]) _
  have HI : Hid (Whole w1 w.heap.size 78 #[.int .i64 13, .int .i64 ty, .int .i64 dst, .slice A n c, .int .i64 imm, .int .i64 sym, .int .i64 el, .bool nw]) := by show Whole _ _ _ _; rw [← hw1]; exact (Whole.new w _ _).alloc _
  have i0 : w1.cell? ⟨w.heap.size, 0, none⟩ = some (.int .i64 13) := HI.out.cell 0
  have i1 : w1.cell? ⟨w.heap.size, 1, none⟩ = some (.int .i64 ty) := HI.out.cell 1
  have HB := hide hb
  go_enter Tryd.func69, Tryd.ntmps69
  go_upto_region 1 with fail
  clear hb hw1
  go_quiet (first | (go_at_call 94; exact Calls.quiet_of_same ((rbits_any _ _).mono fun _ _ ⟨e1, e2⟩ => ⟨e1, e2.symm⟩)))
  go_wp2_with (first | (go_at_call 91; refine (rint12_any _ _).mono ?_; rintro en wn ⟨rfl, rfl⟩) | (go_at_call 92; refine (rany_any _ _).mono ?_; rintro en wn ⟨rfl, rfl⟩) | (go_at_call 93; refine (rwide_any _ _).mono ?_; rintro en wn ⟨rfl, rfl⟩) | (go_at_call 70; refine (racc_any _ _).mono ?_; rintro en wn ⟨rfl, rfl⟩))
  all_goals
    first
      | (go_ret; refine ⟨ret_bool ?_, Below.drewN' HB.out _⟩)
      | (go_quiet (fail); go_wp2_with fail; all_goals (go_ret; refine ⟨ret_bool ?_, Below.drewN' (Below.drewN' HB.out _) _⟩))
  all_goals
    first | rfl | (show _ = (wideB a && decide (bitsI ty < bitsI a)); simp_all; done) | (show _ = (wideB a && decide (bitsI ty < bitsI a)); rw [‹wideB a = true›]; rfl) | (simp_all [opR, bitsM_eq]; done) | (simp_all [opR, bitsM_eq, bne]; done) | (rw [Bool.eq_iff_iff]; simp_all [opR, bitsM_eq]; done) | (rw [Bool.eq_iff_iff]; simp_all [opR, bitsM_eq]; omega)
set_option maxRecDepth 100000 in
theorem opr_14 (ty dst imm sym el a first : Int) (j : Nat) (A GA FA : Option Addr) (n c gn gc fn fc : Nat) (nw : Bool) (w : World) : Calls Tryd.prog 69 #[.agg #[.int .i64 14, .int .i64 ty, .int .i64 dst, .slice A n c, .int .i64 imm, .int .i64 sym, .int .i64 el, .bool nw], .agg #[.slice GA gn gc, .slice FA fn fc], .int .i64 (j : Int), .int .i64 a, .int .i64 first] w fun e w' => e = .returned (.bool (opR 14 ty j a first)) ∧ Below w.heap.size w w' := by
  obtain ⟨w1, hw1⟩ : ∃ z, (w.alloc (.cells #[.int .i64 14, .int .i64 ty, .int .i64 dst, .slice A n c, .int .i64 imm, .int .i64 sym, .int .i64 el, .bool nw] 78)).alloc (.cells #[.slice GA gn gc, .slice FA fn fc] 32) = z := ⟨_, rfl⟩
  have hb : Below w.heap.size w w1 := by rw [← hw1]; exact ((Below.refl _ _).alloc (Nat.le_refl _) _).alloc (by simp [go_sem]) _
  have HI : Hid (Whole w1 w.heap.size 78 #[.int .i64 14, .int .i64 ty, .int .i64 dst, .slice A n c, .int .i64 imm, .int .i64 sym, .int .i64 el, .bool nw]) := by show Whole _ _ _ _; rw [← hw1]; exact (Whole.new w _ _).alloc _
  have i0 : w1.cell? ⟨w.heap.size, 0, none⟩ = some (.int .i64 14) := HI.out.cell 0
  have i1 : w1.cell? ⟨w.heap.size, 1, none⟩ = some (.int .i64 ty) := HI.out.cell 1
  have HB := hide hb
  go_enter Tryd.func69, Tryd.ntmps69
  go_upto_region 1 with fail
  clear hb hw1
  go_quiet (first | (go_at_call 94; exact Calls.quiet_of_same ((rbits_any _ _).mono fun _ _ ⟨e1, e2⟩ => ⟨e1, e2.symm⟩)))
  go_wp2_with (first | (go_at_call 91; refine (rint12_any _ _).mono ?_; rintro en wn ⟨rfl, rfl⟩) | (go_at_call 92; refine (rany_any _ _).mono ?_; rintro en wn ⟨rfl, rfl⟩) | (go_at_call 93; refine (rwide_any _ _).mono ?_; rintro en wn ⟨rfl, rfl⟩) | (go_at_call 70; refine (racc_any _ _).mono ?_; rintro en wn ⟨rfl, rfl⟩))
  all_goals
    first
      | (go_ret; refine ⟨ret_bool ?_, Below.drewN' HB.out _⟩)
      | (go_quiet (fail); go_wp2_with fail; all_goals (go_ret; refine ⟨ret_bool ?_, Below.drewN' (Below.drewN' HB.out _) _⟩))
  all_goals
    first | rfl | (show _ = (wideB a && decide (bitsI ty < bitsI a)); simp_all; done) | (show _ = (wideB a && decide (bitsI ty < bitsI a)); rw [‹wideB a = true›]; rfl) | (simp_all [opR, bitsM_eq]; done) | (simp_all [opR, bitsM_eq, bne]; done) | (rw [Bool.eq_iff_iff]; simp_all [opR, bitsM_eq]; done) | (rw [Bool.eq_iff_iff]; simp_all [opR, bitsM_eq]; omega)
set_option maxRecDepth 100000 in
theorem opr_15 (ty dst imm sym el a first : Int) (j : Nat) (A GA FA : Option Addr) (n c gn gc fn fc : Nat) (nw : Bool) (w : World) : Calls Tryd.prog 69 #[.agg #[.int .i64 15, .int .i64 ty, .int .i64 dst, .slice A n c, .int .i64 imm, .int .i64 sym, .int .i64 el, .bool nw], .agg #[.slice GA gn gc, .slice FA fn fc], .int .i64 (j : Int), .int .i64 a, .int .i64 first] w fun e w' => e = .returned (.bool (opR 15 ty j a first)) ∧ Below w.heap.size w w' := by
  obtain ⟨w1, hw1⟩ : ∃ z, (w.alloc (.cells #[.int .i64 15, .int .i64 ty, .int .i64 dst, .slice A n c, .int .i64 imm, .int .i64 sym, .int .i64 el, .bool nw] 78)).alloc (.cells #[.slice GA gn gc, .slice FA fn fc] 32) = z := ⟨_, rfl⟩
  have hb : Below w.heap.size w w1 := by rw [← hw1]; exact ((Below.refl _ _).alloc (Nat.le_refl _) _).alloc (by simp [go_sem]) _
  have HI : Hid (Whole w1 w.heap.size 78 #[.int .i64 15, .int .i64 ty, .int .i64 dst, .slice A n c, .int .i64 imm, .int .i64 sym, .int .i64 el, .bool nw]) := by show Whole _ _ _ _; rw [← hw1]; exact (Whole.new w _ _).alloc _
  have i0 : w1.cell? ⟨w.heap.size, 0, none⟩ = some (.int .i64 15) := HI.out.cell 0
  have i1 : w1.cell? ⟨w.heap.size, 1, none⟩ = some (.int .i64 ty) := HI.out.cell 1
  have HB := hide hb
  go_enter Tryd.func69, Tryd.ntmps69
  go_upto_region 1 with fail
  clear hb hw1
  go_quiet (first | (go_at_call 94; exact Calls.quiet_of_same ((rbits_any _ _).mono fun _ _ ⟨e1, e2⟩ => ⟨e1, e2.symm⟩)))
  go_wp2_with (first | (go_at_call 91; refine (rint12_any _ _).mono ?_; rintro en wn ⟨rfl, rfl⟩) | (go_at_call 92; refine (rany_any _ _).mono ?_; rintro en wn ⟨rfl, rfl⟩) | (go_at_call 93; refine (rwide_any _ _).mono ?_; rintro en wn ⟨rfl, rfl⟩) | (go_at_call 70; refine (racc_any _ _).mono ?_; rintro en wn ⟨rfl, rfl⟩))
  all_goals
    first
      | (go_ret; refine ⟨ret_bool ?_, Below.drewN' HB.out _⟩)
      | (go_quiet (fail); go_wp2_with fail; all_goals (go_ret; refine ⟨ret_bool ?_, Below.drewN' (Below.drewN' HB.out _) _⟩))
  all_goals
    first | rfl | (show _ = (wideB a && decide (bitsI ty < bitsI a)); simp_all; done) | (show _ = (wideB a && decide (bitsI ty < bitsI a)); rw [‹wideB a = true›]; rfl) | (simp_all [opR, bitsM_eq]; done) | (simp_all [opR, bitsM_eq, bne]; done) | (rw [Bool.eq_iff_iff]; simp_all [opR, bitsM_eq]; done) | (rw [Bool.eq_iff_iff]; simp_all [opR, bitsM_eq]; omega)
set_option maxRecDepth 100000 in
theorem opr_16 (ty dst imm sym el a first : Int) (j : Nat) (A GA FA : Option Addr) (n c gn gc fn fc : Nat) (nw : Bool) (w : World) : Calls Tryd.prog 69 #[.agg #[.int .i64 16, .int .i64 ty, .int .i64 dst, .slice A n c, .int .i64 imm, .int .i64 sym, .int .i64 el, .bool nw], .agg #[.slice GA gn gc, .slice FA fn fc], .int .i64 (j : Int), .int .i64 a, .int .i64 first] w fun e w' => e = .returned (.bool (opR 16 ty j a first)) ∧ Below w.heap.size w w' := by
  obtain ⟨w1, hw1⟩ : ∃ z, (w.alloc (.cells #[.int .i64 16, .int .i64 ty, .int .i64 dst, .slice A n c, .int .i64 imm, .int .i64 sym, .int .i64 el, .bool nw] 78)).alloc (.cells #[.slice GA gn gc, .slice FA fn fc] 32) = z := ⟨_, rfl⟩
  have hb : Below w.heap.size w w1 := by rw [← hw1]; exact ((Below.refl _ _).alloc (Nat.le_refl _) _).alloc (by simp [go_sem]) _
  have HI : Hid (Whole w1 w.heap.size 78 #[.int .i64 16, .int .i64 ty, .int .i64 dst, .slice A n c, .int .i64 imm, .int .i64 sym, .int .i64 el, .bool nw]) := by show Whole _ _ _ _; rw [← hw1]; exact (Whole.new w _ _).alloc _
  have i0 : w1.cell? ⟨w.heap.size, 0, none⟩ = some (.int .i64 16) := HI.out.cell 0
  have i1 : w1.cell? ⟨w.heap.size, 1, none⟩ = some (.int .i64 ty) := HI.out.cell 1
  have HB := hide hb
  go_enter Tryd.func69, Tryd.ntmps69
  go_upto_region 1 with fail
  clear hb hw1
  go_quiet (first | (go_at_call 94; exact Calls.quiet_of_same ((rbits_any _ _).mono fun _ _ ⟨e1, e2⟩ => ⟨e1, e2.symm⟩)))
  go_wp2_with (first | (go_at_call 91; refine (rint12_any _ _).mono ?_; rintro en wn ⟨rfl, rfl⟩) | (go_at_call 92; refine (rany_any _ _).mono ?_; rintro en wn ⟨rfl, rfl⟩) | (go_at_call 93; refine (rwide_any _ _).mono ?_; rintro en wn ⟨rfl, rfl⟩) | (go_at_call 70; refine (racc_any _ _).mono ?_; rintro en wn ⟨rfl, rfl⟩))
  all_goals
    first
      | (go_ret; refine ⟨ret_bool ?_, Below.drewN' HB.out _⟩)
      | (go_quiet (fail); go_wp2_with fail; all_goals (go_ret; refine ⟨ret_bool ?_, Below.drewN' (Below.drewN' HB.out _) _⟩))
  all_goals
    first | rfl | (show _ = (wideB a && decide (bitsI ty < bitsI a)); simp_all; done) | (show _ = (wideB a && decide (bitsI ty < bitsI a)); rw [‹wideB a = true›]; rfl) | (simp_all [opR]; done) | (simp_all [opR]; done) | (rw [Bool.eq_iff_iff]; simp_all [opR]; done) | (rw [Bool.eq_iff_iff]; simp_all [opR, bitsM_eq]; omega)
set_option maxRecDepth 100000 in
theorem opr_17 (ty dst imm sym el a first : Int) (j : Nat) (A GA FA : Option Addr) (n c gn gc fn fc : Nat) (nw : Bool) (w : World) : Calls Tryd.prog 69 #[.agg #[.int .i64 17, .int .i64 ty, .int .i64 dst, .slice A n c, .int .i64 imm, .int .i64 sym, .int .i64 el, .bool nw], .agg #[.slice GA gn gc, .slice FA fn fc], .int .i64 (j : Int), .int .i64 a, .int .i64 first] w fun e w' => e = .returned (.bool (opR 17 ty j a first)) ∧ Below w.heap.size w w' := by
  obtain ⟨w1, hw1⟩ : ∃ z, (w.alloc (.cells #[.int .i64 17, .int .i64 ty, .int .i64 dst, .slice A n c, .int .i64 imm, .int .i64 sym, .int .i64 el, .bool nw] 78)).alloc (.cells #[.slice GA gn gc, .slice FA fn fc] 32) = z := ⟨_, rfl⟩
  have hb : Below w.heap.size w w1 := by rw [← hw1]; exact ((Below.refl _ _).alloc (Nat.le_refl _) _).alloc (by simp [go_sem]) _
  have HI : Hid (Whole w1 w.heap.size 78 #[.int .i64 17, .int .i64 ty, .int .i64 dst, .slice A n c, .int .i64 imm, .int .i64 sym, .int .i64 el, .bool nw]) := by show Whole _ _ _ _; rw [← hw1]; exact (Whole.new w _ _).alloc _
  have i0 : w1.cell? ⟨w.heap.size, 0, none⟩ = some (.int .i64 17) := HI.out.cell 0
  have i1 : w1.cell? ⟨w.heap.size, 1, none⟩ = some (.int .i64 ty) := HI.out.cell 1
  have HB := hide hb
  go_enter Tryd.func69, Tryd.ntmps69
  go_upto_region 1 with fail
  clear hb hw1
  go_quiet (first | (go_at_call 94; exact Calls.quiet_of_same ((rbits_any _ _).mono fun _ _ ⟨e1, e2⟩ => ⟨e1, e2.symm⟩)))
  go_wp2_with (first | (go_at_call 91; refine (rint12_any _ _).mono ?_; rintro en wn ⟨rfl, rfl⟩) | (go_at_call 92; refine (rany_any _ _).mono ?_; rintro en wn ⟨rfl, rfl⟩) | (go_at_call 93; refine (rwide_any _ _).mono ?_; rintro en wn ⟨rfl, rfl⟩) | (go_at_call 70; refine (racc_any _ _).mono ?_; rintro en wn ⟨rfl, rfl⟩))
  all_goals
    first
      | (go_ret; refine ⟨ret_bool ?_, Below.drewN' HB.out _⟩)
      | (go_quiet (fail); go_wp2_with fail; all_goals (go_ret; refine ⟨ret_bool ?_, Below.drewN' (Below.drewN' HB.out _) _⟩))
  all_goals
    first | rfl | (show _ = (wideB a && decide (bitsI ty < bitsI a)); simp_all; done) | (show _ = (wideB a && decide (bitsI ty < bitsI a)); rw [‹wideB a = true›]; rfl) | (simp_all [opR]; done) | (simp_all [opR]; done) | (rw [Bool.eq_iff_iff]; simp_all [opR]; done) | (rw [Bool.eq_iff_iff]; simp_all [opR, bitsM_eq]; omega)
set_option maxRecDepth 100000 in
theorem opr_18 (ty dst imm sym el a first : Int) (j : Nat) (A GA FA : Option Addr) (n c gn gc fn fc : Nat) (nw : Bool) (w : World) : Calls Tryd.prog 69 #[.agg #[.int .i64 18, .int .i64 ty, .int .i64 dst, .slice A n c, .int .i64 imm, .int .i64 sym, .int .i64 el, .bool nw], .agg #[.slice GA gn gc, .slice FA fn fc], .int .i64 (j : Int), .int .i64 a, .int .i64 first] w fun e w' => e = .returned (.bool (opR 18 ty j a first)) ∧ Below w.heap.size w w' := by
  obtain ⟨w1, hw1⟩ : ∃ z, (w.alloc (.cells #[.int .i64 18, .int .i64 ty, .int .i64 dst, .slice A n c, .int .i64 imm, .int .i64 sym, .int .i64 el, .bool nw] 78)).alloc (.cells #[.slice GA gn gc, .slice FA fn fc] 32) = z := ⟨_, rfl⟩
  have hb : Below w.heap.size w w1 := by rw [← hw1]; exact ((Below.refl _ _).alloc (Nat.le_refl _) _).alloc (by simp [go_sem]) _
  have HI : Hid (Whole w1 w.heap.size 78 #[.int .i64 18, .int .i64 ty, .int .i64 dst, .slice A n c, .int .i64 imm, .int .i64 sym, .int .i64 el, .bool nw]) := by show Whole _ _ _ _; rw [← hw1]; exact (Whole.new w _ _).alloc _
  have i0 : w1.cell? ⟨w.heap.size, 0, none⟩ = some (.int .i64 18) := HI.out.cell 0
  have i1 : w1.cell? ⟨w.heap.size, 1, none⟩ = some (.int .i64 ty) := HI.out.cell 1
  have HB := hide hb
  go_enter Tryd.func69, Tryd.ntmps69
  go_upto_region 1 with fail
  clear hb hw1
  go_quiet (first | (go_at_call 94; exact Calls.quiet_of_same ((rbits_any _ _).mono fun _ _ ⟨e1, e2⟩ => ⟨e1, e2.symm⟩)))
  go_wp2_with (first | (go_at_call 91; refine (rint12_any _ _).mono ?_; rintro en wn ⟨rfl, rfl⟩) | (go_at_call 92; refine (rany_any _ _).mono ?_; rintro en wn ⟨rfl, rfl⟩) | (go_at_call 93; refine (rwide_any _ _).mono ?_; rintro en wn ⟨rfl, rfl⟩) | (go_at_call 70; refine (racc_any _ _).mono ?_; rintro en wn ⟨rfl, rfl⟩))
  all_goals
    first
      | (go_ret; refine ⟨ret_bool ?_, Below.drewN' HB.out _⟩)
      | (go_quiet (fail); go_wp2_with fail; all_goals (go_ret; refine ⟨ret_bool ?_, Below.drewN' (Below.drewN' HB.out _) _⟩))
  all_goals
    first | rfl | (show _ = (wideB a && decide (bitsI ty < bitsI a)); simp_all; done) | (show _ = (wideB a && decide (bitsI ty < bitsI a)); rw [‹wideB a = true›]; rfl) | (simp_all [opR]; done) | (simp_all [opR, bitsM_eq, bne]; done) | (rw [Bool.eq_iff_iff]; simp_all [opR, bitsM_eq]; done) | (rw [Bool.eq_iff_iff]; simp_all [opR, bitsM_eq]; omega)
set_option maxRecDepth 100000 in
theorem opr_19 (ty dst imm sym el a first : Int) (j : Nat) (A GA FA : Option Addr) (n c gn gc fn fc : Nat) (nw : Bool) (w : World) : Calls Tryd.prog 69 #[.agg #[.int .i64 19, .int .i64 ty, .int .i64 dst, .slice A n c, .int .i64 imm, .int .i64 sym, .int .i64 el, .bool nw], .agg #[.slice GA gn gc, .slice FA fn fc], .int .i64 (j : Int), .int .i64 a, .int .i64 first] w fun e w' => e = .returned (.bool (opR 19 ty j a first)) ∧ Below w.heap.size w w' := by
  obtain ⟨w1, hw1⟩ : ∃ z, (w.alloc (.cells #[.int .i64 19, .int .i64 ty, .int .i64 dst, .slice A n c, .int .i64 imm, .int .i64 sym, .int .i64 el, .bool nw] 78)).alloc (.cells #[.slice GA gn gc, .slice FA fn fc] 32) = z := ⟨_, rfl⟩
  have hb : Below w.heap.size w w1 := by rw [← hw1]; exact ((Below.refl _ _).alloc (Nat.le_refl _) _).alloc (by simp [go_sem]) _
  have HI : Hid (Whole w1 w.heap.size 78 #[.int .i64 19, .int .i64 ty, .int .i64 dst, .slice A n c, .int .i64 imm, .int .i64 sym, .int .i64 el, .bool nw]) := by show Whole _ _ _ _; rw [← hw1]; exact (Whole.new w _ _).alloc _
  have i0 : w1.cell? ⟨w.heap.size, 0, none⟩ = some (.int .i64 19) := HI.out.cell 0
  have i1 : w1.cell? ⟨w.heap.size, 1, none⟩ = some (.int .i64 ty) := HI.out.cell 1
  have HB := hide hb
  go_enter Tryd.func69, Tryd.ntmps69
  go_upto_region 1 with fail
  clear hb hw1
  go_quiet (first | (go_at_call 94; exact Calls.quiet_of_same ((rbits_any _ _).mono fun _ _ ⟨e1, e2⟩ => ⟨e1, e2.symm⟩)))
  go_wp2_with (first | (go_at_call 91; refine (rint12_any _ _).mono ?_; rintro en wn ⟨rfl, rfl⟩) | (go_at_call 92; refine (rany_any _ _).mono ?_; rintro en wn ⟨rfl, rfl⟩) | (go_at_call 93; refine (rwide_any _ _).mono ?_; rintro en wn ⟨rfl, rfl⟩) | (go_at_call 70; refine (racc_any _ _).mono ?_; rintro en wn ⟨rfl, rfl⟩))
  all_goals
    first
      | (go_ret; refine ⟨ret_bool ?_, Below.drewN' HB.out _⟩)
      | (go_quiet (fail); go_wp2_with fail; all_goals (go_ret; refine ⟨ret_bool ?_, Below.drewN' (Below.drewN' HB.out _) _⟩))
  all_goals
    first | rfl | (show _ = (wideB a && decide (bitsI ty < bitsI a)); simp_all; done) | (show _ = (wideB a && decide (bitsI ty < bitsI a)); rw [‹wideB a = true›]; rfl) | (simp_all [opR]; done) | (simp_all [opR, bitsM_eq, bne]; done) | (rw [Bool.eq_iff_iff]; simp_all [opR, bitsM_eq]; done) | (rw [Bool.eq_iff_iff]; simp_all [opR, bitsM_eq]; omega)
set_option maxRecDepth 100000 in
theorem opr_20 (ty dst imm sym el a first : Int) (j : Nat) (A GA FA : Option Addr) (n c gn gc fn fc : Nat) (nw : Bool) (w : World) : Calls Tryd.prog 69 #[.agg #[.int .i64 20, .int .i64 ty, .int .i64 dst, .slice A n c, .int .i64 imm, .int .i64 sym, .int .i64 el, .bool nw], .agg #[.slice GA gn gc, .slice FA fn fc], .int .i64 (j : Int), .int .i64 a, .int .i64 first] w fun e w' => e = .returned (.bool (opR 20 ty j a first)) ∧ Below w.heap.size w w' := by
  obtain ⟨w1, hw1⟩ : ∃ z, (w.alloc (.cells #[.int .i64 20, .int .i64 ty, .int .i64 dst, .slice A n c, .int .i64 imm, .int .i64 sym, .int .i64 el, .bool nw] 78)).alloc (.cells #[.slice GA gn gc, .slice FA fn fc] 32) = z := ⟨_, rfl⟩
  have hb : Below w.heap.size w w1 := by rw [← hw1]; exact ((Below.refl _ _).alloc (Nat.le_refl _) _).alloc (by simp [go_sem]) _
  have HI : Hid (Whole w1 w.heap.size 78 #[.int .i64 20, .int .i64 ty, .int .i64 dst, .slice A n c, .int .i64 imm, .int .i64 sym, .int .i64 el, .bool nw]) := by show Whole _ _ _ _; rw [← hw1]; exact (Whole.new w _ _).alloc _
  have i0 : w1.cell? ⟨w.heap.size, 0, none⟩ = some (.int .i64 20) := HI.out.cell 0
  have i1 : w1.cell? ⟨w.heap.size, 1, none⟩ = some (.int .i64 ty) := HI.out.cell 1
  have HB := hide hb
  go_enter Tryd.func69, Tryd.ntmps69
  go_upto_region 1 with fail
  clear hb hw1
  go_quiet (first | (go_at_call 94; exact Calls.quiet_of_same ((rbits_any _ _).mono fun _ _ ⟨e1, e2⟩ => ⟨e1, e2.symm⟩)))
  go_wp2_with (first | (go_at_call 91; refine (rint12_any _ _).mono ?_; rintro en wn ⟨rfl, rfl⟩) | (go_at_call 92; refine (rany_any _ _).mono ?_; rintro en wn ⟨rfl, rfl⟩) | (go_at_call 93; refine (rwide_any _ _).mono ?_; rintro en wn ⟨rfl, rfl⟩) | (go_at_call 70; refine (racc_any _ _).mono ?_; rintro en wn ⟨rfl, rfl⟩))
  all_goals
    first
      | (go_ret; refine ⟨ret_bool ?_, Below.drewN' HB.out _⟩)
      | (go_quiet (fail); go_wp2_with fail; all_goals (go_ret; refine ⟨ret_bool ?_, Below.drewN' (Below.drewN' HB.out _) _⟩))
  all_goals
    first | rfl | (show _ = (wideB a && decide (bitsI ty < bitsI a)); simp_all; done) | (show _ = (wideB a && decide (bitsI ty < bitsI a)); rw [‹wideB a = true›]; rfl) | (simp_all [opR]; done) | (simp_all [opR, bitsM_eq, bne]; done) | (rw [Bool.eq_iff_iff]; simp_all [opR, bitsM_eq]; done) | (rw [Bool.eq_iff_iff]; simp_all [opR, bitsM_eq]; omega)
set_option maxRecDepth 100000 in
theorem opr_21 (ty dst imm sym el a first : Int) (j : Nat) (A GA FA : Option Addr) (n c gn gc fn fc : Nat) (nw : Bool) (w : World) : Calls Tryd.prog 69 #[.agg #[.int .i64 21, .int .i64 ty, .int .i64 dst, .slice A n c, .int .i64 imm, .int .i64 sym, .int .i64 el, .bool nw], .agg #[.slice GA gn gc, .slice FA fn fc], .int .i64 (j : Int), .int .i64 a, .int .i64 first] w fun e w' => e = .returned (.bool (opR 21 ty j a first)) ∧ Below w.heap.size w w' := by
  obtain ⟨w1, hw1⟩ : ∃ z, (w.alloc (.cells #[.int .i64 21, .int .i64 ty, .int .i64 dst, .slice A n c, .int .i64 imm, .int .i64 sym, .int .i64 el, .bool nw] 78)).alloc (.cells #[.slice GA gn gc, .slice FA fn fc] 32) = z := ⟨_, rfl⟩
  have hb : Below w.heap.size w w1 := by rw [← hw1]; exact ((Below.refl _ _).alloc (Nat.le_refl _) _).alloc (by simp [go_sem]) _
  have HI : Hid (Whole w1 w.heap.size 78 #[.int .i64 21, .int .i64 ty, .int .i64 dst, .slice A n c, .int .i64 imm, .int .i64 sym, .int .i64 el, .bool nw]) := by show Whole _ _ _ _; rw [← hw1]; exact (Whole.new w _ _).alloc _
  have i0 : w1.cell? ⟨w.heap.size, 0, none⟩ = some (.int .i64 21) := HI.out.cell 0
  have i1 : w1.cell? ⟨w.heap.size, 1, none⟩ = some (.int .i64 ty) := HI.out.cell 1
  have HB := hide hb
  go_enter Tryd.func69, Tryd.ntmps69
  go_upto_region 1 with fail
  clear hb hw1
  go_quiet (first | (go_at_call 94; exact Calls.quiet_of_same ((rbits_any _ _).mono fun _ _ ⟨e1, e2⟩ => ⟨e1, e2.symm⟩)))
  go_wp2_with (first | (go_at_call 91; refine (rint12_any _ _).mono ?_; rintro en wn ⟨rfl, rfl⟩) | (go_at_call 92; refine (rany_any _ _).mono ?_; rintro en wn ⟨rfl, rfl⟩) | (go_at_call 93; refine (rwide_any _ _).mono ?_; rintro en wn ⟨rfl, rfl⟩) | (go_at_call 70; refine (racc_any _ _).mono ?_; rintro en wn ⟨rfl, rfl⟩))
  all_goals
    first
      | (go_ret; refine ⟨ret_bool ?_, Below.drewN' HB.out _⟩)
      | (go_quiet (fail); go_wp2_with fail; all_goals (go_ret; refine ⟨ret_bool ?_, Below.drewN' (Below.drewN' HB.out _) _⟩))
  all_goals
    first | rfl | (show _ = (wideB a && decide (bitsI ty < bitsI a)); simp_all; done) | (show _ = (wideB a && decide (bitsI ty < bitsI a)); rw [‹wideB a = true›]; rfl) | (simp_all [opR]; done) | (simp_all [opR]; done) | (rw [Bool.eq_iff_iff]; simp_all [opR]; done) | (rw [Bool.eq_iff_iff]; simp_all [opR, bitsM_eq]; omega)
set_option maxRecDepth 100000 in
theorem opr_22 (ty dst imm sym el a first : Int) (j : Nat) (A GA FA : Option Addr) (n c gn gc fn fc : Nat) (nw : Bool) (w : World) : Calls Tryd.prog 69 #[.agg #[.int .i64 22, .int .i64 ty, .int .i64 dst, .slice A n c, .int .i64 imm, .int .i64 sym, .int .i64 el, .bool nw], .agg #[.slice GA gn gc, .slice FA fn fc], .int .i64 (j : Int), .int .i64 a, .int .i64 first] w fun e w' => e = .returned (.bool (opR 22 ty j a first)) ∧ Below w.heap.size w w' := by
  obtain ⟨w1, hw1⟩ : ∃ z, (w.alloc (.cells #[.int .i64 22, .int .i64 ty, .int .i64 dst, .slice A n c, .int .i64 imm, .int .i64 sym, .int .i64 el, .bool nw] 78)).alloc (.cells #[.slice GA gn gc, .slice FA fn fc] 32) = z := ⟨_, rfl⟩
  have hb : Below w.heap.size w w1 := by rw [← hw1]; exact ((Below.refl _ _).alloc (Nat.le_refl _) _).alloc (by simp [go_sem]) _
  have HI : Hid (Whole w1 w.heap.size 78 #[.int .i64 22, .int .i64 ty, .int .i64 dst, .slice A n c, .int .i64 imm, .int .i64 sym, .int .i64 el, .bool nw]) := by show Whole _ _ _ _; rw [← hw1]; exact (Whole.new w _ _).alloc _
  have i0 : w1.cell? ⟨w.heap.size, 0, none⟩ = some (.int .i64 22) := HI.out.cell 0
  have i1 : w1.cell? ⟨w.heap.size, 1, none⟩ = some (.int .i64 ty) := HI.out.cell 1
  have HB := hide hb
  go_enter Tryd.func69, Tryd.ntmps69
  go_upto_region 1 with fail
  clear hb hw1
  go_quiet (first | (go_at_call 94; exact Calls.quiet_of_same ((rbits_any _ _).mono fun _ _ ⟨e1, e2⟩ => ⟨e1, e2.symm⟩)))
  go_wp2_with (first | (go_at_call 91; refine (rint12_any _ _).mono ?_; rintro en wn ⟨rfl, rfl⟩) | (go_at_call 92; refine (rany_any _ _).mono ?_; rintro en wn ⟨rfl, rfl⟩) | (go_at_call 93; refine (rwide_any _ _).mono ?_; rintro en wn ⟨rfl, rfl⟩) | (go_at_call 70; refine (racc_any _ _).mono ?_; rintro en wn ⟨rfl, rfl⟩))
  all_goals
    first
      | (go_ret; refine ⟨ret_bool ?_, Below.drewN' HB.out _⟩)
      | (go_quiet (fail); go_wp2_with fail; all_goals (go_ret; refine ⟨ret_bool ?_, Below.drewN' (Below.drewN' HB.out _) _⟩))
  all_goals
    first | rfl | (show _ = (wideB a && decide (bitsI ty < bitsI a)); simp_all; done) | (show _ = (wideB a && decide (bitsI ty < bitsI a)); rw [‹wideB a = true›]; rfl) | (simp_all [opR, bitsM_eq]; done) | (simp_all [opR, bitsM_eq, bne]; done) | (rw [Bool.eq_iff_iff]; simp_all [opR, bitsM_eq]; done) | (rw [Bool.eq_iff_iff]; simp_all [opR, bitsM_eq]; omega)
set_option maxRecDepth 100000 in
theorem opr_23 (ty dst imm sym el a first : Int) (j : Nat) (A GA FA : Option Addr) (n c gn gc fn fc : Nat) (nw : Bool) (w : World) : Calls Tryd.prog 69 #[.agg #[.int .i64 23, .int .i64 ty, .int .i64 dst, .slice A n c, .int .i64 imm, .int .i64 sym, .int .i64 el, .bool nw], .agg #[.slice GA gn gc, .slice FA fn fc], .int .i64 (j : Int), .int .i64 a, .int .i64 first] w fun e w' => e = .returned (.bool (opR 23 ty j a first)) ∧ Below w.heap.size w w' := by
  obtain ⟨w1, hw1⟩ : ∃ z, (w.alloc (.cells #[.int .i64 23, .int .i64 ty, .int .i64 dst, .slice A n c, .int .i64 imm, .int .i64 sym, .int .i64 el, .bool nw] 78)).alloc (.cells #[.slice GA gn gc, .slice FA fn fc] 32) = z := ⟨_, rfl⟩
  have hb : Below w.heap.size w w1 := by rw [← hw1]; exact ((Below.refl _ _).alloc (Nat.le_refl _) _).alloc (by simp [go_sem]) _
  have HI : Hid (Whole w1 w.heap.size 78 #[.int .i64 23, .int .i64 ty, .int .i64 dst, .slice A n c, .int .i64 imm, .int .i64 sym, .int .i64 el, .bool nw]) := by show Whole _ _ _ _; rw [← hw1]; exact (Whole.new w _ _).alloc _
  have i0 : w1.cell? ⟨w.heap.size, 0, none⟩ = some (.int .i64 23) := HI.out.cell 0
  have i1 : w1.cell? ⟨w.heap.size, 1, none⟩ = some (.int .i64 ty) := HI.out.cell 1
  have HB := hide hb
  go_enter Tryd.func69, Tryd.ntmps69
  go_upto_region 1 with fail
  clear hb hw1
  go_quiet (first | (go_at_call 94; exact Calls.quiet_of_same ((rbits_any _ _).mono fun _ _ ⟨e1, e2⟩ => ⟨e1, e2.symm⟩)))
  go_wp2_with (first | (go_at_call 91; refine (rint12_any _ _).mono ?_; rintro en wn ⟨rfl, rfl⟩) | (go_at_call 92; refine (rany_any _ _).mono ?_; rintro en wn ⟨rfl, rfl⟩) | (go_at_call 93; refine (rwide_any _ _).mono ?_; rintro en wn ⟨rfl, rfl⟩) | (go_at_call 70; refine (racc_any _ _).mono ?_; rintro en wn ⟨rfl, rfl⟩))
  all_goals
    first
      | (go_ret; refine ⟨ret_bool ?_, Below.drewN' HB.out _⟩)
      | (go_quiet (fail); go_wp2_with fail; all_goals (go_ret; refine ⟨ret_bool ?_, Below.drewN' (Below.drewN' HB.out _) _⟩))
  all_goals
    first | rfl | (show _ = (wideB a && decide (bitsI ty < bitsI a)); simp_all; done) | (show _ = (wideB a && decide (bitsI ty < bitsI a)); rw [‹wideB a = true›]; rfl) | (simp_all [opR, bitsM_eq]; done) | (simp_all [opR, bitsM_eq, bne]; done) | (rw [Bool.eq_iff_iff]; simp_all [opR, bitsM_eq]; done) | (rw [Bool.eq_iff_iff]; simp_all [opR, bitsM_eq]; omega)
set_option maxRecDepth 100000 in
theorem opr_24 (ty dst imm sym el a first : Int) (j : Nat) (A GA FA : Option Addr) (n c gn gc fn fc : Nat) (nw : Bool) (w : World) : Calls Tryd.prog 69 #[.agg #[.int .i64 24, .int .i64 ty, .int .i64 dst, .slice A n c, .int .i64 imm, .int .i64 sym, .int .i64 el, .bool nw], .agg #[.slice GA gn gc, .slice FA fn fc], .int .i64 (j : Int), .int .i64 a, .int .i64 first] w fun e w' => e = .returned (.bool (opR 24 ty j a first)) ∧ Below w.heap.size w w' := by
  obtain ⟨w1, hw1⟩ : ∃ z, (w.alloc (.cells #[.int .i64 24, .int .i64 ty, .int .i64 dst, .slice A n c, .int .i64 imm, .int .i64 sym, .int .i64 el, .bool nw] 78)).alloc (.cells #[.slice GA gn gc, .slice FA fn fc] 32) = z := ⟨_, rfl⟩
  have hb : Below w.heap.size w w1 := by rw [← hw1]; exact ((Below.refl _ _).alloc (Nat.le_refl _) _).alloc (by simp [go_sem]) _
  have HI : Hid (Whole w1 w.heap.size 78 #[.int .i64 24, .int .i64 ty, .int .i64 dst, .slice A n c, .int .i64 imm, .int .i64 sym, .int .i64 el, .bool nw]) := by show Whole _ _ _ _; rw [← hw1]; exact (Whole.new w _ _).alloc _
  have i0 : w1.cell? ⟨w.heap.size, 0, none⟩ = some (.int .i64 24) := HI.out.cell 0
  have i1 : w1.cell? ⟨w.heap.size, 1, none⟩ = some (.int .i64 ty) := HI.out.cell 1
  have HB := hide hb
  go_enter Tryd.func69, Tryd.ntmps69
  go_upto_region 1 with fail
  clear hb hw1
  go_quiet (first | (go_at_call 94; exact Calls.quiet_of_same ((rbits_any _ _).mono fun _ _ ⟨e1, e2⟩ => ⟨e1, e2.symm⟩)))
  go_wp2_with (first | (go_at_call 91; refine (rint12_any _ _).mono ?_; rintro en wn ⟨rfl, rfl⟩) | (go_at_call 92; refine (rany_any _ _).mono ?_; rintro en wn ⟨rfl, rfl⟩) | (go_at_call 93; refine (rwide_any _ _).mono ?_; rintro en wn ⟨rfl, rfl⟩) | (go_at_call 70; refine (racc_any _ _).mono ?_; rintro en wn ⟨rfl, rfl⟩))
  all_goals
    first
      | (go_ret; refine ⟨ret_bool ?_, Below.drewN' HB.out _⟩)
      | (go_quiet (fail); go_wp2_with fail; all_goals (go_ret; refine ⟨ret_bool ?_, Below.drewN' (Below.drewN' HB.out _) _⟩))
  all_goals
    first | rfl | (show _ = (wideB a && decide (bitsI ty < bitsI a)); simp_all; done) | (show _ = (wideB a && decide (bitsI ty < bitsI a)); rw [‹wideB a = true›]; rfl) | (simp_all [opR, bitsM_eq]; done) | (simp_all [opR, bitsM_eq, bne]; done) | (rw [Bool.eq_iff_iff]; simp_all [opR, bitsM_eq]; done) | (rw [Bool.eq_iff_iff]; simp_all [opR, bitsM_eq]; omega)
set_option maxRecDepth 100000 in
theorem opr_27 (ty dst imm sym el a first : Int) (j : Nat) (A GA FA : Option Addr) (n c gn gc fn fc : Nat) (nw : Bool) (w : World) : Calls Tryd.prog 69 #[.agg #[.int .i64 27, .int .i64 ty, .int .i64 dst, .slice A n c, .int .i64 imm, .int .i64 sym, .int .i64 el, .bool nw], .agg #[.slice GA gn gc, .slice FA fn fc], .int .i64 (j : Int), .int .i64 a, .int .i64 first] w fun e w' => e = .returned (.bool (opR 27 ty j a first)) ∧ Below w.heap.size w w' := by
  obtain ⟨w1, hw1⟩ : ∃ z, (w.alloc (.cells #[.int .i64 27, .int .i64 ty, .int .i64 dst, .slice A n c, .int .i64 imm, .int .i64 sym, .int .i64 el, .bool nw] 78)).alloc (.cells #[.slice GA gn gc, .slice FA fn fc] 32) = z := ⟨_, rfl⟩
  have hb : Below w.heap.size w w1 := by rw [← hw1]; exact ((Below.refl _ _).alloc (Nat.le_refl _) _).alloc (by simp [go_sem]) _
  have HI : Hid (Whole w1 w.heap.size 78 #[.int .i64 27, .int .i64 ty, .int .i64 dst, .slice A n c, .int .i64 imm, .int .i64 sym, .int .i64 el, .bool nw]) := by show Whole _ _ _ _; rw [← hw1]; exact (Whole.new w _ _).alloc _
  have i0 : w1.cell? ⟨w.heap.size, 0, none⟩ = some (.int .i64 27) := HI.out.cell 0
  have i1 : w1.cell? ⟨w.heap.size, 1, none⟩ = some (.int .i64 ty) := HI.out.cell 1
  have HB := hide hb
  go_enter Tryd.func69, Tryd.ntmps69
  go_upto_region 1 with fail
  clear hb hw1
  go_quiet (first | (go_at_call 94; exact Calls.quiet_of_same ((rbits_any _ _).mono fun _ _ ⟨e1, e2⟩ => ⟨e1, e2.symm⟩)))
  go_wp2_with (first | (go_at_call 91; refine (rint12_any _ _).mono ?_; rintro en wn ⟨rfl, rfl⟩) | (go_at_call 92; refine (rany_any _ _).mono ?_; rintro en wn ⟨rfl, rfl⟩) | (go_at_call 93; refine (rwide_any _ _).mono ?_; rintro en wn ⟨rfl, rfl⟩) | (go_at_call 70; refine (racc_any _ _).mono ?_; rintro en wn ⟨rfl, rfl⟩))
  all_goals
    first
      | (go_ret; refine ⟨ret_bool ?_, Below.drewN' HB.out _⟩)
      | (go_quiet (fail); go_wp2_with fail; all_goals (go_ret; refine ⟨ret_bool ?_, Below.drewN' (Below.drewN' HB.out _) _⟩))
  all_goals
    first | rfl | (show _ = (wideB a && decide (bitsI ty < bitsI a)); simp_all; done) | (show _ = (wideB a && decide (bitsI ty < bitsI a)); rw [‹wideB a = true›]; rfl) | (simp_all [opR]; done) | (simp_all [opR]; done) | (rw [Bool.eq_iff_iff]; simp_all [opR]; done) | (rw [Bool.eq_iff_iff]; simp_all [opR]; omega)
set_option maxRecDepth 100000 in
theorem opr_28 (ty dst imm sym el a first : Int) (j : Nat) (A GA FA : Option Addr) (n c gn gc fn fc : Nat) (nw : Bool) (w : World) : Calls Tryd.prog 69 #[.agg #[.int .i64 28, .int .i64 ty, .int .i64 dst, .slice A n c, .int .i64 imm, .int .i64 sym, .int .i64 el, .bool nw], .agg #[.slice GA gn gc, .slice FA fn fc], .int .i64 (j : Int), .int .i64 a, .int .i64 first] w fun e w' => e = .returned (.bool (opR 28 ty j a first)) ∧ Below w.heap.size w w' := by
  obtain ⟨w1, hw1⟩ : ∃ z, (w.alloc (.cells #[.int .i64 28, .int .i64 ty, .int .i64 dst, .slice A n c, .int .i64 imm, .int .i64 sym, .int .i64 el, .bool nw] 78)).alloc (.cells #[.slice GA gn gc, .slice FA fn fc] 32) = z := ⟨_, rfl⟩
  have hb : Below w.heap.size w w1 := by rw [← hw1]; exact ((Below.refl _ _).alloc (Nat.le_refl _) _).alloc (by simp [go_sem]) _
  have HI : Hid (Whole w1 w.heap.size 78 #[.int .i64 28, .int .i64 ty, .int .i64 dst, .slice A n c, .int .i64 imm, .int .i64 sym, .int .i64 el, .bool nw]) := by show Whole _ _ _ _; rw [← hw1]; exact (Whole.new w _ _).alloc _
  have i0 : w1.cell? ⟨w.heap.size, 0, none⟩ = some (.int .i64 28) := HI.out.cell 0
  have i1 : w1.cell? ⟨w.heap.size, 1, none⟩ = some (.int .i64 ty) := HI.out.cell 1
  have HB := hide hb
  go_enter Tryd.func69, Tryd.ntmps69
  go_upto_region 1 with fail
  clear hb hw1
  go_quiet (first | (go_at_call 94; exact Calls.quiet_of_same ((rbits_any _ _).mono fun _ _ ⟨e1, e2⟩ => ⟨e1, e2.symm⟩)))
  go_wp2_with (first | (go_at_call 91; refine (rint12_any _ _).mono ?_; rintro en wn ⟨rfl, rfl⟩) | (go_at_call 92; refine (rany_any _ _).mono ?_; rintro en wn ⟨rfl, rfl⟩) | (go_at_call 93; refine (rwide_any _ _).mono ?_; rintro en wn ⟨rfl, rfl⟩) | (go_at_call 70; refine (racc_any _ _).mono ?_; rintro en wn ⟨rfl, rfl⟩))
  all_goals
    first
      | (go_ret; refine ⟨ret_bool ?_, Below.drewN' HB.out _⟩)
      | (go_quiet (fail); go_wp2_with fail; all_goals (go_ret; refine ⟨ret_bool ?_, Below.drewN' (Below.drewN' HB.out _) _⟩))
  all_goals
    first | rfl | (show _ = (wideB a && decide (bitsI ty < bitsI a)); simp_all; done) | (show _ = (wideB a && decide (bitsI ty < bitsI a)); rw [‹wideB a = true›]; rfl) | (simp_all [opR, bitsM_eq]; done) | (simp_all [opR, bitsM_eq, bne]; done) | (rw [Bool.eq_iff_iff]; simp_all [opR, bitsM_eq]; done) | (rw [Bool.eq_iff_iff]; simp_all [opR, bitsM_eq]; omega)
set_option maxRecDepth 100000 in
theorem opr_29 (ty dst imm sym el a first : Int) (j : Nat) (A GA FA : Option Addr) (n c gn gc fn fc : Nat) (nw : Bool) (w : World) : Calls Tryd.prog 69 #[.agg #[.int .i64 29, .int .i64 ty, .int .i64 dst, .slice A n c, .int .i64 imm, .int .i64 sym, .int .i64 el, .bool nw], .agg #[.slice GA gn gc, .slice FA fn fc], .int .i64 (j : Int), .int .i64 a, .int .i64 first] w fun e w' => e = .returned (.bool (opR 29 ty j a first)) ∧ Below w.heap.size w w' := by
  obtain ⟨w1, hw1⟩ : ∃ z, (w.alloc (.cells #[.int .i64 29, .int .i64 ty, .int .i64 dst, .slice A n c, .int .i64 imm, .int .i64 sym, .int .i64 el, .bool nw] 78)).alloc (.cells #[.slice GA gn gc, .slice FA fn fc] 32) = z := ⟨_, rfl⟩
  have hb : Below w.heap.size w w1 := by rw [← hw1]; exact ((Below.refl _ _).alloc (Nat.le_refl _) _).alloc (by simp [go_sem]) _
  have HI : Hid (Whole w1 w.heap.size 78 #[.int .i64 29, .int .i64 ty, .int .i64 dst, .slice A n c, .int .i64 imm, .int .i64 sym, .int .i64 el, .bool nw]) := by show Whole _ _ _ _; rw [← hw1]; exact (Whole.new w _ _).alloc _
  have i0 : w1.cell? ⟨w.heap.size, 0, none⟩ = some (.int .i64 29) := HI.out.cell 0
  have i1 : w1.cell? ⟨w.heap.size, 1, none⟩ = some (.int .i64 ty) := HI.out.cell 1
  have HB := hide hb
  go_enter Tryd.func69, Tryd.ntmps69
  go_upto_region 1 with fail
  clear hb hw1
  go_quiet (first | (go_at_call 94; exact Calls.quiet_of_same ((rbits_any _ _).mono fun _ _ ⟨e1, e2⟩ => ⟨e1, e2.symm⟩)))
  go_wp2_with (first | (go_at_call 91; refine (rint12_any _ _).mono ?_; rintro en wn ⟨rfl, rfl⟩) | (go_at_call 92; refine (rany_any _ _).mono ?_; rintro en wn ⟨rfl, rfl⟩) | (go_at_call 93; refine (rwide_any _ _).mono ?_; rintro en wn ⟨rfl, rfl⟩) | (go_at_call 70; refine (racc_any _ _).mono ?_; rintro en wn ⟨rfl, rfl⟩))
  all_goals
    first
      | (go_ret; refine ⟨ret_bool ?_, Below.drewN' HB.out _⟩)
      | (go_quiet (fail); go_wp2_with fail; all_goals (go_ret; refine ⟨ret_bool ?_, Below.drewN' (Below.drewN' HB.out _) _⟩))
  all_goals
    first | rfl | (show _ = (wideB a && decide (bitsI ty < bitsI a)); simp_all; done) | (show _ = (wideB a && decide (bitsI ty < bitsI a)); rw [‹wideB a = true›]; rfl) | (simp_all [opR]; done) | (simp_all [opR]; done) | (rw [Bool.eq_iff_iff]; simp_all [opR]; done) | (rw [Bool.eq_iff_iff]; simp_all [opR]; omega)
set_option maxRecDepth 100000 in
theorem opr_31 (ty dst imm sym el a first : Int) (j : Nat) (A GA FA : Option Addr) (n c gn gc fn fc : Nat) (nw : Bool) (w : World) : Calls Tryd.prog 69 #[.agg #[.int .i64 31, .int .i64 ty, .int .i64 dst, .slice A n c, .int .i64 imm, .int .i64 sym, .int .i64 el, .bool nw], .agg #[.slice GA gn gc, .slice FA fn fc], .int .i64 (j : Int), .int .i64 a, .int .i64 first] w fun e w' => e = .returned (.bool (opR 31 ty j a first)) ∧ Below w.heap.size w w' := by
  obtain ⟨w1, hw1⟩ : ∃ z, (w.alloc (.cells #[.int .i64 31, .int .i64 ty, .int .i64 dst, .slice A n c, .int .i64 imm, .int .i64 sym, .int .i64 el, .bool nw] 78)).alloc (.cells #[.slice GA gn gc, .slice FA fn fc] 32) = z := ⟨_, rfl⟩
  have hb : Below w.heap.size w w1 := by rw [← hw1]; exact ((Below.refl _ _).alloc (Nat.le_refl _) _).alloc (by simp [go_sem]) _
  have HI : Hid (Whole w1 w.heap.size 78 #[.int .i64 31, .int .i64 ty, .int .i64 dst, .slice A n c, .int .i64 imm, .int .i64 sym, .int .i64 el, .bool nw]) := by show Whole _ _ _ _; rw [← hw1]; exact (Whole.new w _ _).alloc _
  have i0 : w1.cell? ⟨w.heap.size, 0, none⟩ = some (.int .i64 31) := HI.out.cell 0
  have i1 : w1.cell? ⟨w.heap.size, 1, none⟩ = some (.int .i64 ty) := HI.out.cell 1
  have HB := hide hb
  go_enter Tryd.func69, Tryd.ntmps69
  go_upto_region 1 with fail
  clear hb hw1
  go_quiet (first | (go_at_call 94; exact Calls.quiet_of_same ((rbits_any _ _).mono fun _ _ ⟨e1, e2⟩ => ⟨e1, e2.symm⟩)))
  go_wp2_with (first | (go_at_call 91; refine (rint12_any _ _).mono ?_; rintro en wn ⟨rfl, rfl⟩) | (go_at_call 92; refine (rany_any _ _).mono ?_; rintro en wn ⟨rfl, rfl⟩) | (go_at_call 93; refine (rwide_any _ _).mono ?_; rintro en wn ⟨rfl, rfl⟩) | (go_at_call 70; refine (racc_any _ _).mono ?_; rintro en wn ⟨rfl, rfl⟩))
  all_goals
    first
      | (go_ret; refine ⟨ret_bool ?_, Below.drewN' HB.out _⟩)
      | (go_quiet (fail); go_wp2_with fail; all_goals (go_ret; refine ⟨ret_bool ?_, Below.drewN' (Below.drewN' HB.out _) _⟩))
  all_goals
    first | rfl | (show _ = (wideB a && decide (bitsI ty < bitsI a)); simp_all; done) | (show _ = (wideB a && decide (bitsI ty < bitsI a)); rw [‹wideB a = true›]; rfl) | (simp_all [opR, bitsM_eq]; done) | (simp_all [opR, bitsM_eq, bne]; done) | (rw [Bool.eq_iff_iff]; simp_all [opR, bitsM_eq]; done) | (rw [Bool.eq_iff_iff]; simp_all [opR, bitsM_eq]; omega)
set_option maxRecDepth 100000 in
theorem opr_32 (ty dst imm sym el a first : Int) (j : Nat) (A GA FA : Option Addr) (n c gn gc fn fc : Nat) (nw : Bool) (w : World) : Calls Tryd.prog 69 #[.agg #[.int .i64 32, .int .i64 ty, .int .i64 dst, .slice A n c, .int .i64 imm, .int .i64 sym, .int .i64 el, .bool nw], .agg #[.slice GA gn gc, .slice FA fn fc], .int .i64 (j : Int), .int .i64 a, .int .i64 first] w fun e w' => e = .returned (.bool (opR 32 ty j a first)) ∧ Below w.heap.size w w' := by
  obtain ⟨w1, hw1⟩ : ∃ z, (w.alloc (.cells #[.int .i64 32, .int .i64 ty, .int .i64 dst, .slice A n c, .int .i64 imm, .int .i64 sym, .int .i64 el, .bool nw] 78)).alloc (.cells #[.slice GA gn gc, .slice FA fn fc] 32) = z := ⟨_, rfl⟩
  have hb : Below w.heap.size w w1 := by rw [← hw1]; exact ((Below.refl _ _).alloc (Nat.le_refl _) _).alloc (by simp [go_sem]) _
  have HI : Hid (Whole w1 w.heap.size 78 #[.int .i64 32, .int .i64 ty, .int .i64 dst, .slice A n c, .int .i64 imm, .int .i64 sym, .int .i64 el, .bool nw]) := by show Whole _ _ _ _; rw [← hw1]; exact (Whole.new w _ _).alloc _
  have i0 : w1.cell? ⟨w.heap.size, 0, none⟩ = some (.int .i64 32) := HI.out.cell 0
  have i1 : w1.cell? ⟨w.heap.size, 1, none⟩ = some (.int .i64 ty) := HI.out.cell 1
  have HB := hide hb
  go_enter Tryd.func69, Tryd.ntmps69
  go_upto_region 1 with fail
  clear hb hw1
  go_quiet (first | (go_at_call 94; exact Calls.quiet_of_same ((rbits_any _ _).mono fun _ _ ⟨e1, e2⟩ => ⟨e1, e2.symm⟩)))
  go_wp2_with (first | (go_at_call 91; refine (rint12_any _ _).mono ?_; rintro en wn ⟨rfl, rfl⟩) | (go_at_call 92; refine (rany_any _ _).mono ?_; rintro en wn ⟨rfl, rfl⟩) | (go_at_call 93; refine (rwide_any _ _).mono ?_; rintro en wn ⟨rfl, rfl⟩) | (go_at_call 70; refine (racc_any _ _).mono ?_; rintro en wn ⟨rfl, rfl⟩))
  all_goals
    first
      | (go_ret; refine ⟨ret_bool ?_, Below.drewN' HB.out _⟩)
      | (go_quiet (fail); go_wp2_with fail; all_goals (go_ret; refine ⟨ret_bool ?_, Below.drewN' (Below.drewN' HB.out _) _⟩))
  all_goals
    first | rfl | (show _ = (wideB a && decide (bitsI ty < bitsI a)); simp_all; done) | (show _ = (wideB a && decide (bitsI ty < bitsI a)); rw [‹wideB a = true›]; rfl) | (simp_all [opR, bitsM_eq]; done) | (simp_all [opR, bitsM_eq, bne]; done) | (rw [Bool.eq_iff_iff]; simp_all [opR, bitsM_eq]; done) | (rw [Bool.eq_iff_iff]; simp_all [opR, bitsM_eq]; omega)
set_option maxRecDepth 100000 in
theorem opr_33 (ty dst imm sym el a first : Int) (j : Nat) (A GA FA : Option Addr) (n c gn gc fn fc : Nat) (nw : Bool) (w : World) : Calls Tryd.prog 69 #[.agg #[.int .i64 33, .int .i64 ty, .int .i64 dst, .slice A n c, .int .i64 imm, .int .i64 sym, .int .i64 el, .bool nw], .agg #[.slice GA gn gc, .slice FA fn fc], .int .i64 (j : Int), .int .i64 a, .int .i64 first] w fun e w' => e = .returned (.bool (opR 33 ty j a first)) ∧ Below w.heap.size w w' := by
  obtain ⟨w1, hw1⟩ : ∃ z, (w.alloc (.cells #[.int .i64 33, .int .i64 ty, .int .i64 dst, .slice A n c, .int .i64 imm, .int .i64 sym, .int .i64 el, .bool nw] 78)).alloc (.cells #[.slice GA gn gc, .slice FA fn fc] 32) = z := ⟨_, rfl⟩
  have hb : Below w.heap.size w w1 := by rw [← hw1]; exact ((Below.refl _ _).alloc (Nat.le_refl _) _).alloc (by simp [go_sem]) _
  have HI : Hid (Whole w1 w.heap.size 78 #[.int .i64 33, .int .i64 ty, .int .i64 dst, .slice A n c, .int .i64 imm, .int .i64 sym, .int .i64 el, .bool nw]) := by show Whole _ _ _ _; rw [← hw1]; exact (Whole.new w _ _).alloc _
  have i0 : w1.cell? ⟨w.heap.size, 0, none⟩ = some (.int .i64 33) := HI.out.cell 0
  have i1 : w1.cell? ⟨w.heap.size, 1, none⟩ = some (.int .i64 ty) := HI.out.cell 1
  have HB := hide hb
  go_enter Tryd.func69, Tryd.ntmps69
  go_upto_region 1 with fail
  clear hb hw1
  go_quiet (first | (go_at_call 94; exact Calls.quiet_of_same ((rbits_any _ _).mono fun _ _ ⟨e1, e2⟩ => ⟨e1, e2.symm⟩)))
  go_wp2_with (first | (go_at_call 91; refine (rint12_any _ _).mono ?_; rintro en wn ⟨rfl, rfl⟩) | (go_at_call 92; refine (rany_any _ _).mono ?_; rintro en wn ⟨rfl, rfl⟩) | (go_at_call 93; refine (rwide_any _ _).mono ?_; rintro en wn ⟨rfl, rfl⟩) | (go_at_call 70; refine (racc_any _ _).mono ?_; rintro en wn ⟨rfl, rfl⟩))
  all_goals
    first
      | (go_ret; refine ⟨ret_bool ?_, Below.drewN' HB.out _⟩)
      | (go_quiet (fail); go_wp2_with fail; all_goals (go_ret; refine ⟨ret_bool ?_, Below.drewN' (Below.drewN' HB.out _) _⟩))
  all_goals
    first | rfl | (show _ = (wideB a && decide (bitsI ty < bitsI a)); simp_all; done) | (show _ = (wideB a && decide (bitsI ty < bitsI a)); rw [‹wideB a = true›]; rfl) | (simp_all [opR]; done) | (simp_all [opR, bitsM_eq, bne]; done) | (rw [Bool.eq_iff_iff]; simp_all [opR, bitsM_eq]; done) | (rw [Bool.eq_iff_iff]; simp_all [opR, bitsM_eq]; omega)
end Go.Proofs.YtnhaanjpcnnifaaDoor

/-
  Layer 12 (opcode): result of the reference.
-/
import Derived.Test.YtnhaanjpcnnifaaDoorRfA
namespace Go.Proofs.YtnhaanjpcnnifaaDoor
open Go.RowKit

set_option maxRecDepth 100000 in
theorem res_1 (ty dst imm sym el : Int) (A GA FA : Option Addr) (n c gn gc fn fc : Nat) (nw : Bool) (w : World) : Calls Tryd.prog 68 #[.agg #[.int .i64 1, .int .i64 ty, .int .i64 dst, .slice A n c, .int .i64 imm, .int .i64 sym, .int .i64 el, .bool nw], .agg #[.slice GA gn gc, .slice FA fn fc]] w fun e w' => e = .returned (.bool (resR 1 ty n)) ∧ Below w.heap.size w w' := by
  obtain ⟨w1, hw1⟩ : ∃ z, (w.alloc (.cells #[.int .i64 1, .int .i64 ty, .int .i64 dst, .slice A n c, .int .i64 imm, .int .i64 sym, .int .i64 el, .bool nw] 78)).alloc (.cells #[.slice GA gn gc, .slice FA fn fc] 32) = z := ⟨_, rfl⟩
  have hb : Below w.heap.size w w1 := by rw [← hw1]; exact ((Below.refl _ _).alloc (Nat.le_refl _) _).alloc (by simp [go_sem]) _
  have HI : Hid (Whole w1 w.heap.size 78 #[.int .i64 1, .int .i64 ty, .int .i64 dst, .slice A n c, .int .i64 imm, .int .i64 sym, .int .i64 el, .bool nw]) := by show Whole _ _ _ _; rw [← hw1]; exact (Whole.new w _ _).alloc _
  have i0 : w1.cell? ⟨w.heap.size, 0, none⟩ = some (.int .i64 1) := HI.out.cell 0
  have i1 : w1.cell? ⟨w.heap.size, 1, none⟩ = some (.int .i64 ty) := HI.out.cell 1
  have i3 : w1.cell? ⟨w.heap.size, 3, none⟩ = some (.slice A n c) := HI.out.cell 3
  have HB := hide hb
  go_enter Tryd.func68, Tryd.ntmps68
  go_upto_region 1 with fail
  clear hb hw1
  go_wp2_with (first | (go_at_call 91; refine (rint12_any ty _).mono ?_; rintro en wn ⟨rfl, rfl⟩) | (go_at_call 92; refine (rany_any ty _).mono ?_; rintro en wn ⟨rfl, rfl⟩) | (go_at_call 93; refine (rwide_any ty _).mono ?_; rintro en wn ⟨rfl, rfl⟩) | (go_at_call 70; refine (racc_any ty _).mono ?_; rintro en wn ⟨rfl, rfl⟩))
  all_goals
    go_ret
    refine ⟨ret_bool ?_, HB.out⟩
    first | rfl | (simp_all [resR]; done) | (simp_all [resR, bne]; done) | (rw [Bool.eq_iff_iff]; simp_all [resR]; done) | (rw [Bool.eq_iff_iff]; simp_all [resR]; omega)
set_option maxRecDepth 100000 in
theorem res_2 (ty dst imm sym el : Int) (A GA FA : Option Addr) (n c gn gc fn fc : Nat) (nw : Bool) (w : World) : Calls Tryd.prog 68 #[.agg #[.int .i64 2, .int .i64 ty, .int .i64 dst, .slice A n c, .int .i64 imm, .int .i64 sym, .int .i64 el, .bool nw], .agg #[.slice GA gn gc, .slice FA fn fc]] w fun e w' => e = .returned (.bool (resR 2 ty n)) ∧ Below w.heap.size w w' := by
  obtain ⟨w1, hw1⟩ : ∃ z, (w.alloc (.cells #[.int .i64 2, .int .i64 ty, .int .i64 dst, .slice A n c, .int .i64 imm, .int .i64 sym, .int .i64 el, .bool nw] 78)).alloc (.cells #[.slice GA gn gc, .slice FA fn fc] 32) = z := ⟨_, rfl⟩
  have hb : Below w.heap.size w w1 := by rw [← hw1]; exact ((Below.refl _ _).alloc (Nat.le_refl _) _).alloc (by simp [go_sem]) _
  have HI : Hid (Whole w1 w.heap.size 78 #[.int .i64 2, .int .i64 ty, .int .i64 dst, .slice A n c, .int .i64 imm, .int .i64 sym, .int .i64 el, .bool nw]) := by show Whole _ _ _ _; rw [← hw1]; exact (Whole.new w _ _).alloc _
  have i0 : w1.cell? ⟨w.heap.size, 0, none⟩ = some (.int .i64 2) := HI.out.cell 0
  have i1 : w1.cell? ⟨w.heap.size, 1, none⟩ = some (.int .i64 ty) := HI.out.cell 1
  have i3 : w1.cell? ⟨w.heap.size, 3, none⟩ = some (.slice A n c) := HI.out.cell 3
  have HB := hide hb
  go_enter Tryd.func68, Tryd.ntmps68
  go_upto_region 1 with fail
  clear hb hw1
  go_wp2_with (first | (go_at_call 91; refine (rint12_any ty _).mono ?_; rintro en wn ⟨rfl, rfl⟩) | (go_at_call 92; refine (rany_any ty _).mono ?_; rintro en wn ⟨rfl, rfl⟩) | (go_at_call 93; refine (rwide_any ty _).mono ?_; rintro en wn ⟨rfl, rfl⟩) | (go_at_call 70; refine (racc_any ty _).mono ?_; rintro en wn ⟨rfl, rfl⟩))
  all_goals
    go_ret
    refine ⟨ret_bool ?_, HB.out⟩
    first | rfl | (simp_all [resR]; done) | (simp_all [resR, bne]; done) | (rw [Bool.eq_iff_iff]; simp_all [resR]; done) | (rw [Bool.eq_iff_iff]; simp_all [resR]; omega)
set_option maxRecDepth 100000 in
theorem res_3 (ty dst imm sym el : Int) (A GA FA : Option Addr) (n c gn gc fn fc : Nat) (nw : Bool) (w : World) : Calls Tryd.prog 68 #[.agg #[.int .i64 3, .int .i64 ty, .int .i64 dst, .slice A n c, .int .i64 imm, .int .i64 sym, .int .i64 el, .bool nw], .agg #[.slice GA gn gc, .slice FA fn fc]] w fun e w' => e = .returned (.bool (resR 3 ty n)) ∧ Below w.heap.size w w' := by
  obtain ⟨w1, hw1⟩ : ∃ z, (w.alloc (.cells #[.int .i64 3, .int .i64 ty, .int .i64 dst, .slice A n c, .int .i64 imm, .int .i64 sym, .int .i64 el, .bool nw] 78)).alloc (.cells #[.slice GA gn gc, .slice FA fn fc] 32) = z := ⟨_, rfl⟩
  have hb : Below w.heap.size w w1 := by rw [← hw1]; exact ((Below.refl _ _).alloc (Nat.le_refl _) _).alloc (by simp [go_sem]) _
  have HI : Hid (Whole w1 w.heap.size 78 #[.int .i64 3, .int .i64 ty, .int .i64 dst, .slice A n c, .int .i64 imm, .int .i64 sym, .int .i64 el, .bool nw]) := by show Whole _ _ _ _; rw [← hw1]; exact (Whole.new w _ _).alloc _
  have i0 : w1.cell? ⟨w.heap.size, 0, none⟩ = some (.int .i64 3) := HI.out.cell 0
  have i1 : w1.cell? ⟨w.heap.size, 1, none⟩ = some (.int .i64 ty) := HI.out.cell 1
  have i3 : w1.cell? ⟨w.heap.size, 3, none⟩ = some (.slice A n c) := HI.out.cell 3
  have HB := hide hb
  go_enter Tryd.func68, Tryd.ntmps68
  go_upto_region 1 with fail
  clear hb hw1
  go_wp2_with (first | (go_at_call 91; refine (rint12_any ty _).mono ?_; rintro en wn ⟨rfl, rfl⟩) | (go_at_call 92; refine (rany_any ty _).mono ?_; rintro en wn ⟨rfl, rfl⟩) | (go_at_call 93; refine (rwide_any ty _).mono ?_; rintro en wn ⟨rfl, rfl⟩) | (go_at_call 70; refine (racc_any ty _).mono ?_; rintro en wn ⟨rfl, rfl⟩))
  all_goals
    go_ret
    refine ⟨ret_bool ?_, HB.out⟩
    first | rfl | (simp_all [resR]; done) | (simp_all [resR, bne]; done) | (rw [Bool.eq_iff_iff]; simp_all [resR]; done) | (rw [Bool.eq_iff_iff]; simp_all [resR]; omega)
set_option maxRecDepth 100000 in
theorem res_4 (ty dst imm sym el : Int) (A GA FA : Option Addr) (n c gn gc fn fc : Nat) (nw : Bool) (w : World) : Calls Tryd.prog 68 #[.agg #[.int .i64 4, .int .i64 ty, .int .i64 dst, .slice A n c, .int .i64 imm, .int .i64 sym, .int .i64 el, .bool nw], .agg #[.slice GA gn gc, .slice FA fn fc]] w fun e w' => e = .returned (.bool (resR 4 ty n)) ∧ Below w.heap.size w w' := by
  obtain ⟨w1, hw1⟩ : ∃ z, (w.alloc (.cells #[.int .i64 4, .int .i64 ty, .int .i64 dst, .slice A n c, .int .i64 imm, .int .i64 sym, .int .i64 el, .bool nw] 78)).alloc (.cells #[.slice GA gn gc, .slice FA fn fc] 32) = z := ⟨_, rfl⟩
  have hb : Below w.heap.size w w1 := by rw [← hw1]; exact ((Below.refl _ _).alloc (Nat.le_refl _) _).alloc (by simp [go_sem]) _
  have HI : Hid (Whole w1 w.heap.size 78 #[.int .i64 4, .int .i64 ty, .int .i64 dst, .slice A n c, .int .i64 imm, .int .i64 sym, .int .i64 el, .bool nw]) := by show Whole _ _ _ _; rw [← hw1]; exact (Whole.new w _ _).alloc _
  have i0 : w1.cell? ⟨w.heap.size, 0, none⟩ = some (.int .i64 4) := HI.out.cell 0
  have i1 : w1.cell? ⟨w.heap.size, 1, none⟩ = some (.int .i64 ty) := HI.out.cell 1
  have i3 : w1.cell? ⟨w.heap.size, 3, none⟩ = some (.slice A n c) := HI.out.cell 3
  have HB := hide hb
  go_enter Tryd.func68, Tryd.ntmps68
  go_upto_region 1 with fail
  clear hb hw1
  go_wp2_with (first | (go_at_call 91; refine (rint12_any ty _).mono ?_; rintro en wn ⟨rfl, rfl⟩) | (go_at_call 92; refine (rany_any ty _).mono ?_; rintro en wn ⟨rfl, rfl⟩) | (go_at_call 93; refine (rwide_any ty _).mono ?_; rintro en wn ⟨rfl, rfl⟩) | (go_at_call 70; refine (racc_any ty _).mono ?_; rintro en wn ⟨rfl, rfl⟩))
  all_goals
    go_ret
    refine ⟨ret_bool ?_, HB.out⟩
    first | rfl | (simp_all [resR]; done) | (simp_all [resR, bne]; done) | (rw [Bool.eq_iff_iff]; simp_all [resR]; done) | (rw [Bool.eq_iff_iff]; simp_all [resR]; omega)
set_option maxRecDepth 100000 in
theorem res_5 (ty dst imm sym el : Int) (A GA FA : Option Addr) (n c gn gc fn fc : Nat) (nw : Bool) (w : World) : Calls Tryd.prog 68 #[.agg #[.int .i64 5, .int .i64 ty, .int .i64 dst, .slice A n c, .int .i64 imm, .int .i64 sym, .int .i64 el, .bool nw], .agg #[.slice GA gn gc, .slice FA fn fc]] w fun e w' => e = .returned (.bool (resR 5 ty n)) ∧ Below w.heap.size w w' := by
  obtain ⟨w1, hw1⟩ : ∃ z, (w.alloc (.cells #[.int .i64 5, .int .i64 ty, .int .i64 dst, .slice A n c, .int .i64 imm, .int .i64 sym, .int .i64 el, .bool nw] 78)).alloc (.cells #[.slice GA gn gc, .slice FA fn fc] 32) = z := ⟨_, rfl⟩
  have hb : Below w.heap.size w w1 := by rw [← hw1]; exact ((Below.refl _ _).alloc (Nat.le_refl _) _).alloc (by simp [go_sem]) _
  have HI : Hid (Whole w1 w.heap.size 78 #[.int .i64 5, .int .i64 ty, .int .i64 dst, .slice A n c, .int .i64 imm, .int .i64 sym, .int .i64 el, .bool nw]) := by show Whole _ _ _ _; rw [← hw1]; exact (Whole.new w _ _).alloc _
  have i0 : w1.cell? ⟨w.heap.size, 0, none⟩ = some (.int .i64 5) := HI.out.cell 0
  have i1 : w1.cell? ⟨w.heap.size, 1, none⟩ = some (.int .i64 ty) := HI.out.cell 1
  have i3 : w1.cell? ⟨w.heap.size, 3, none⟩ = some (.slice A n c) := HI.out.cell 3
  have HB := hide hb
  go_enter Tryd.func68, Tryd.ntmps68
  go_upto_region 1 with fail
  clear hb hw1
  go_wp2_with (first | (go_at_call 91; refine (rint12_any ty _).mono ?_; rintro en wn ⟨rfl, rfl⟩) | (go_at_call 92; refine (rany_any ty _).mono ?_; rintro en wn ⟨rfl, rfl⟩) | (go_at_call 93; refine (rwide_any ty _).mono ?_; rintro en wn ⟨rfl, rfl⟩) | (go_at_call 70; refine (racc_any ty _).mono ?_; rintro en wn ⟨rfl, rfl⟩))
  all_goals
    go_ret
    refine ⟨ret_bool ?_, HB.out⟩
    first | rfl | (simp_all [resR]; done) | (simp_all [resR]; done) | (rw [Bool.eq_iff_iff]; simp_all [resR]; done) | (rw [Bool.eq_iff_iff]; simp_all [resR]; omega)
set_option maxRecDepth 100000 in
theorem res_6 (ty dst imm sym el : Int) (A GA FA : Option Addr) (n c gn gc fn fc : Nat) (nw : Bool) (w : World) : Calls Tryd.prog 68 #[.agg #[.int .i64 6, .int .i64 ty, .int .i64 dst, .slice A n c, .int .i64 imm, .int .i64 sym, .int .i64 el, .bool nw], .agg #[.slice GA gn gc, .slice FA fn fc]] w fun e w' => e = .returned (.bool (resR 6 ty n)) ∧ Below w.heap.size w w' := by
  obtain ⟨w1, hw1⟩ : ∃ z, (w.alloc (.cells #[.int .i64 6, .int .i64 ty, .int .i64 dst, .slice A n c, .int .i64 imm, .int .i64 sym, .int .i64 el, .bool nw] 78)).alloc (.cells #[.slice GA gn gc, .slice FA fn fc] 32) = z := ⟨_, rfl⟩
  have hb : Below w.heap.size w w1 := by rw [← hw1]; exact ((Below.refl _ _).alloc (Nat.le_refl _) _).alloc (by simp [go_sem]) _
  have HI : Hid (Whole w1 w.heap.size 78 #[.int .i64 6, .int .i64 ty, .int .i64 dst, .slice A n c, .int .i64 imm, .int .i64 sym, .int .i64 el, .bool nw]) := by show Whole _ _ _ _; rw [← hw1]; exact (Whole.new w _ _).alloc _
  have i0 : w1.cell? ⟨w.heap.size, 0, none⟩ = some (.int .i64 6) := HI.out.cell 0
  have i1 : w1.cell? ⟨w.heap.size, 1, none⟩ = some (.int .i64 ty) := HI.out.cell 1
  have i3 : w1.cell? ⟨w.heap.size, 3, none⟩ = some (.slice A n c) := HI.out.cell 3
  have HB := hide hb
  go_enter Tryd.func68, Tryd.ntmps68
  go_upto_region 1 with fail
  clear hb hw1
  go_wp2_with (first | (go_at_call 91; refine (rint12_any ty _).mono ?_; rintro en wn ⟨rfl, rfl⟩) | (go_at_call 92; refine (rany_any ty _).mono ?_; rintro en wn ⟨rfl, rfl⟩) | (go_at_call 93; refine (rwide_any ty _).mono ?_; rintro en wn ⟨rfl, rfl⟩) | (go_at_call 70; refine (racc_any ty _).mono ?_; rintro en wn ⟨rfl, rfl⟩))
  all_goals
    go_ret
    refine ⟨ret_bool ?_, HB.out⟩
    first | rfl | (simp_all [resR]; done) | (simp_all [resR]; done) | (rw [Bool.eq_iff_iff]; simp_all [resR]; done) | (rw [Bool.eq_iff_iff]; simp_all [resR]; omega)
set_option maxRecDepth 100000 in
theorem res_7 (ty dst imm sym el : Int) (A GA FA : Option Addr) (n c gn gc fn fc : Nat) (nw : Bool) (w : World) : Calls Tryd.prog 68 #[.agg #[.int .i64 7, .int .i64 ty, .int .i64 dst, .slice A n c, .int .i64 imm, .int .i64 sym, .int .i64 el, .bool nw], .agg #[.slice GA gn gc, .slice FA fn fc]] w fun e w' => e = .returned (.bool (resR 7 ty n)) ∧ Below w.heap.size w w' := by
  obtain ⟨w1, hw1⟩ : ∃ z, (w.alloc (.cells #[.int .i64 7, .int .i64 ty, .int .i64 dst, .slice A n c, .int .i64 imm, .int .i64 sym, .int .i64 el, .bool nw] 78)).alloc (.cells #[.slice GA gn gc, .slice FA fn fc] 32) = z := ⟨_, rfl⟩
  have hb : Below w.heap.size w w1 := by rw [← hw1]; exact ((Below.refl _ _).alloc (Nat.le_refl _) _).alloc (by simp [go_sem]) _
  have HI : Hid (Whole w1 w.heap.size 78 #[.int .i64 7, .int .i64 ty, .int .i64 dst, .slice A n c, .int .i64 imm, .int .i64 sym, .int .i64 el, .bool nw]) := by show Whole _ _ _ _; rw [← hw1]; exact (Whole.new w _ _).alloc _
  have i0 : w1.cell? ⟨w.heap.size, 0, none⟩ = some (.int .i64 7) := HI.out.cell 0
  have i1 : w1.cell? ⟨w.heap.size, 1, none⟩ = some (.int .i64 ty) := HI.out.cell 1
  have i3 : w1.cell? ⟨w.heap.size, 3, none⟩ = some (.slice A n c) := HI.out.cell 3
  have HB := hide hb
  go_enter Tryd.func68, Tryd.ntmps68
  go_upto_region 1 with fail
  clear hb hw1
  go_wp2_with (first | (go_at_call 91; refine (rint12_any ty _).mono ?_; rintro en wn ⟨rfl, rfl⟩) | (go_at_call 92; refine (rany_any ty _).mono ?_; rintro en wn ⟨rfl, rfl⟩) | (go_at_call 93; refine (rwide_any ty _).mono ?_; rintro en wn ⟨rfl, rfl⟩) | (go_at_call 70; refine (racc_any ty _).mono ?_; rintro en wn ⟨rfl, rfl⟩))
  all_goals
    go_ret
    refine ⟨ret_bool ?_, HB.out⟩
    first | rfl | (simp_all [resR]; done) | (simp_all [resR]; done) | (rw [Bool.eq_iff_iff]; simp_all [resR]; done) | (rw [Bool.eq_iff_iff]; simp_all [resR]; omega)
set_option maxRecDepth 100000 in
theorem res_8 (ty dst imm sym el : Int) (A GA FA : Option Addr) (n c gn gc fn fc : Nat) (nw : Bool) (w : World) : Calls Tryd.prog 68 #[.agg #[.int .i64 8, .int .i64 ty, .int .i64 dst, .slice A n c, .int .i64 imm, .int .i64 sym, .int .i64 el, .bool nw], .agg #[.slice GA gn gc, .slice FA fn fc]] w fun e w' => e = .returned (.bool (resR 8 ty n)) ∧ Below w.heap.size w w' := by
  obtain ⟨w1, hw1⟩ : ∃ z, (w.alloc (.cells #[.int .i64 8, .int .i64 ty, .int .i64 dst, .slice A n c, .int .i64 imm, .int .i64 sym, .int .i64 el, .bool nw] 78)).alloc (.cells #[.slice GA gn gc, .slice FA fn fc] 32) = z := ⟨_, rfl⟩
  have hb : Below w.heap.size w w1 := by rw [← hw1]; exact ((Below.refl _ _).alloc (Nat.le_refl _) _).alloc (by simp [go_sem]) _
  have HI : Hid (Whole w1 w.heap.size 78 #[.int .i64 8, .int .i64 ty, .int .i64 dst, .slice A n c, .int .i64 imm, .int .i64 sym, .int .i64 el, .bool nw]) := by show Whole _ _ _ _; rw [← hw1]; exact (Whole.new w _ _).alloc _
  have i0 : w1.cell? ⟨w.heap.size, 0, none⟩ = some (.int .i64 8) := HI.out.cell 0
  have i1 : w1.cell? ⟨w.heap.size, 1, none⟩ = some (.int .i64 ty) := HI.out.cell 1
  have i3 : w1.cell? ⟨w.heap.size, 3, none⟩ = some (.slice A n c) := HI.out.cell 3
  have HB := hide hb
  go_enter Tryd.func68, Tryd.ntmps68
  go_upto_region 1 with fail
  clear hb hw1
  go_wp2_with (first | (go_at_call 91; refine (rint12_any ty _).mono ?_; rintro en wn ⟨rfl, rfl⟩) | (go_at_call 92; refine (rany_any ty _).mono ?_; rintro en wn ⟨rfl, rfl⟩) | (go_at_call 93; refine (rwide_any ty _).mono ?_; rintro en wn ⟨rfl, rfl⟩) | (go_at_call 70; refine (racc_any ty _).mono ?_; rintro en wn ⟨rfl, rfl⟩))
  all_goals
    go_ret
    refine ⟨ret_bool ?_, HB.out⟩
    first | rfl | (simp_all [resR]; done) | (simp_all [resR]; done) | (rw [Bool.eq_iff_iff]; simp_all [resR]; done) | (rw [Bool.eq_iff_iff]; simp_all [resR]; omega)
set_option maxRecDepth 100000 in
theorem res_9 (ty dst imm sym el : Int) (A GA FA : Option Addr) (n c gn gc fn fc : Nat) (nw : Bool) (w : World) : Calls Tryd.prog 68 #[.agg #[.int .i64 9, .int .i64 ty, .int .i64 dst, .slice A n c, .int .i64 imm, .int .i64 sym, .int .i64 el, .bool nw], .agg #[.slice GA gn gc, .slice FA fn fc]] w fun e w' => e = .returned (.bool (resR 9 ty n)) ∧ Below w.heap.size w w' := by
  obtain ⟨w1, hw1⟩ : ∃ z, (w.alloc (.cells #[.int .i64 9, .int .i64 ty, .int .i64 dst, .slice A n c, .int .i64 imm, .int .i64 sym, .int .i64 el, .bool nw] 78)).alloc (.cells #[.slice GA gn gc, .slice FA fn fc] 32) = z := ⟨_, rfl⟩
  have hb : Below w.heap.size w w1 := by rw [← hw1]; exact ((Below.refl _ _).alloc (Nat.le_refl _) _).alloc (by simp [go_sem]) _
  have HI : Hid (Whole w1 w.heap.size 78 #[.int .i64 9, .int .i64 ty, .int .i64 dst, .slice A n c, .int .i64 imm, .int .i64 sym, .int .i64 el, .bool nw]) := by show Whole _ _ _ _; rw [← hw1]; exact (Whole.new w _ _).alloc _
  have i0 : w1.cell? ⟨w.heap.size, 0, none⟩ = some (.int .i64 9) := HI.out.cell 0
  have i1 : w1.cell? ⟨w.heap.size, 1, none⟩ = some (.int .i64 ty) := HI.out.cell 1
  have i3 : w1.cell? ⟨w.heap.size, 3, none⟩ = some (.slice A n c) := HI.out.cell 3
  have HB := hide hb
  go_enter Tryd.func68, Tryd.ntmps68
  go_upto_region 1 with fail
  clear hb hw1
  go_wp2_with (first | (go_at_call 91; refine (rint12_any ty _).mono ?_; rintro en wn ⟨rfl, rfl⟩) | (go_at_call 92; refine (rany_any ty _).mono ?_; rintro en wn ⟨rfl, rfl⟩) | (go_at_call 93; refine (rwide_any ty _).mono ?_; rintro en wn ⟨rfl, rfl⟩) | (go_at_call 70; refine (racc_any ty _).mono ?_; rintro en wn ⟨rfl, rfl⟩))
  all_goals
    go_ret
    refine ⟨ret_bool ?_, HB.out⟩
    first | rfl | (simp_all [resR]; done) | (simp_all [resR]; done) | (rw [Bool.eq_iff_iff]; simp_all [resR]; done) | (rw [Bool.eq_iff_iff]; simp_all [resR]; omega)
set_option maxRecDepth 100000 in
theorem res_10 (ty dst imm sym el : Int) (A GA FA : Option Addr) (n c gn gc fn fc : Nat) (nw : Bool) (w : World) : Calls Tryd.prog 68 #[.agg #[.int .i64 10, .int .i64 ty, .int .i64 dst, .slice A n c, .int .i64 imm, .int .i64 sym, .int .i64 el, .bool nw], .agg #[.slice GA gn gc, .slice FA fn fc]] w fun e w' => e = .returned (.bool (resR 10 ty n)) ∧ Below w.heap.size w w' := by
  obtain ⟨w1, hw1⟩ : ∃ z, (w.alloc (.cells #[.int .i64 10, .int .i64 ty, .int .i64 dst, .slice A n c, .int .i64 imm, .int .i64 sym, .int .i64 el, .bool nw] 78)).alloc (.cells #[.slice GA gn gc, .slice FA fn fc] 32) = z := ⟨_, rfl⟩
  have hb : Below w.heap.size w w1 := by rw [← hw1]; exact ((Below.refl _ _).alloc (Nat.le_refl _) _).alloc (by simp [go_sem]) _
  have HI : Hid (Whole w1 w.heap.size 78 #[.int .i64 10, .int .i64 ty, .int .i64 dst, .slice A n c, .int .i64 imm, .int .i64 sym, .int .i64 el, .bool nw]) := by show Whole _ _ _ _; rw [← hw1]; exact (Whole.new w _ _).alloc _
  have i0 : w1.cell? ⟨w.heap.size, 0, none⟩ = some (.int .i64 10) := HI.out.cell 0
  have i1 : w1.cell? ⟨w.heap.size, 1, none⟩ = some (.int .i64 ty) := HI.out.cell 1
  have i3 : w1.cell? ⟨w.heap.size, 3, none⟩ = some (.slice A n c) := HI.out.cell 3
  have HB := hide hb
  go_enter Tryd.func68, Tryd.ntmps68
  go_upto_region 1 with fail
  clear hb hw1
  go_wp2_with (first | (go_at_call 91; refine (rint12_any ty _).mono ?_; rintro en wn ⟨rfl, rfl⟩) | (go_at_call 92; refine (rany_any ty _).mono ?_; rintro en wn ⟨rfl, rfl⟩) | (go_at_call 93; refine (rwide_any ty _).mono ?_; rintro en wn ⟨rfl, rfl⟩) | (go_at_call 70; refine (racc_any ty _).mono ?_; rintro en wn ⟨rfl, rfl⟩))
  all_goals
    go_ret
    refine ⟨ret_bool ?_, HB.out⟩
    first | rfl | (simp_all [resR]; done) | (simp_all [resR]; done) | (rw [Bool.eq_iff_iff]; simp_all [resR]; done) | (rw [Bool.eq_iff_iff]; simp_all [resR]; omega)
set_option maxRecDepth 100000 in
theorem res_11 (ty dst imm sym el : Int) (A GA FA : Option Addr) (n c gn gc fn fc : Nat) (nw : Bool) (w : World) : Calls Tryd.prog 68 #[.agg #[.int .i64 11, .int .i64 ty, .int .i64 dst, .slice A n c, .int .i64 imm, .int .i64 sym, .int .i64 el, .bool nw], .agg #[.slice GA gn gc, .slice FA fn fc]] w fun e w' => e = .returned (.bool (resR 11 ty n)) ∧ Below w.heap.size w w' := by
  obtain ⟨w1, hw1⟩ : ∃ z, (w.alloc (.cells #[.int .i64 11, .int .i64 ty, .int .i64 dst, .slice A n c, .int .i64 imm, .int .i64 sym, .int .i64 el, .bool nw] 78)).alloc (.cells #[.slice GA gn gc, .slice FA fn fc] 32) = z := ⟨_, rfl⟩
  have hb : Below w.heap.size w w1 := by rw [← hw1]; exact ((Below.refl _ _).alloc (Nat.le_refl _) _).alloc (by simp [go_sem]) _
  have HI : Hid (Whole w1 w.heap.size 78 #[.int .i64 11, .int .i64 ty, .int .i64 dst, .slice A n c, .int .i64 imm, .int .i64 sym, .int .i64 el, .bool nw]) := by show Whole _ _ _ _; rw [← hw1]; exact (Whole.new w _ _).alloc _
  have i0 : w1.cell? ⟨w.heap.size, 0, none⟩ = some (.int .i64 11) := HI.out.cell 0
  have i1 : w1.cell? ⟨w.heap.size, 1, none⟩ = some (.int .i64 ty) := HI.out.cell 1
  have i3 : w1.cell? ⟨w.heap.size, 3, none⟩ = some (.slice A n c) := HI.out.cell 3
  have HB := hide hb
  go_enter Tryd.func68, Tryd.ntmps68
  go_upto_region 1 with fail
  clear hb hw1
  go_wp2_with (first | (go_at_call 91; refine (rint12_any ty _).mono ?_; rintro en wn ⟨rfl, rfl⟩) | (go_at_call 92; refine (rany_any ty _).mono ?_; rintro en wn ⟨rfl, rfl⟩) | (go_at_call 93; refine (rwide_any ty _).mono ?_; rintro en wn ⟨rfl, rfl⟩) | (go_at_call 70; refine (racc_any ty _).mono ?_; rintro en wn ⟨rfl, rfl⟩))
  all_goals
    go_ret
    refine ⟨ret_bool ?_, HB.out⟩
    first | rfl | (simp_all [resR]; done) | (simp_all [resR, bne]; done) | (rw [Bool.eq_iff_iff]; simp_all [resR]; done) | (rw [Bool.eq_iff_iff]; simp_all [resR]; omega)
set_option maxRecDepth 100000 in
theorem res_12 (ty dst imm sym el : Int) (A GA FA : Option Addr) (n c gn gc fn fc : Nat) (nw : Bool) (w : World) : Calls Tryd.prog 68 #[.agg #[.int .i64 12, .int .i64 ty, .int .i64 dst, .slice A n c, .int .i64 imm, .int .i64 sym, .int .i64 el, .bool nw], .agg #[.slice GA gn gc, .slice FA fn fc]] w fun e w' => e = .returned (.bool (resR 12 ty n)) ∧ Below w.heap.size w w' := by
  obtain ⟨w1, hw1⟩ : ∃ z, (w.alloc (.cells #[.int .i64 12, .int .i64 ty, .int .i64 dst, .slice A n c, .int .i64 imm, .int .i64 sym, .int .i64 el, .bool nw] 78)).alloc (.cells #[.slice GA gn gc, .slice FA fn fc] 32) = z := ⟨_, rfl⟩
  have hb : Below w.heap.size w w1 := by rw [← hw1]; exact ((Below.refl _ _).alloc (Nat.le_refl _) _).alloc (by simp [go_sem]) _
  have HI : Hid (Whole w1 w.heap.size 78 #[.int .i64 12, .int .i64 ty, .int .i64 dst, .slice A n c, .int .i64 imm, .int .i64 sym, .int .i64 el, .bool nw]) := by show Whole _ _ _ _; rw [← hw1]; exact (Whole.new w _ _).alloc _
  have i0 : w1.cell? ⟨w.heap.size, 0, none⟩ = some (.int .i64 12) := HI.out.cell 0
  have i1 : w1.cell? ⟨w.heap.size, 1, none⟩ = some (.int .i64 ty) := HI.out.cell 1
  have i3 : w1.cell? ⟨w.heap.size, 3, none⟩ = some (.slice A n c) := HI.out.cell 3
  have HB := hide hb
  go_enter Tryd.func68, Tryd.ntmps68
  go_upto_region 1 with fail
  clear hb hw1
  go_wp2_with (first | (go_at_call 91; refine (rint12_any ty _).mono ?_; rintro en wn ⟨rfl, rfl⟩) | (go_at_call 92; refine (rany_any ty _).mono ?_; rintro en wn ⟨rfl, rfl⟩) | (go_at_call 93; refine (rwide_any ty _).mono ?_; rintro en wn ⟨rfl, rfl⟩) | (go_at_call 70; refine (racc_any ty _).mono ?_; rintro en wn ⟨rfl, rfl⟩))
  all_goals
    go_ret
    refine ⟨ret_bool ?_, HB.out⟩
    first | rfl | (simp_all [resR]; done) | (simp_all [resR, bne]; done) | (rw [Bool.eq_iff_iff]; simp_all [resR]; done) | (rw [Bool.eq_iff_iff]; simp_all [resR]; omega)
set_option maxRecDepth 100000 in
theorem res_13 (ty dst imm sym el : Int) (A GA FA : Option Addr) (n c gn gc fn fc : Nat) (nw : Bool) (w : World) : Calls Tryd.prog 68 #[.agg #[.int .i64 13, .int .i64 ty, .int .i64 dst, .slice A n c, .int .i64 imm, .int .i64 sym, .int .i64 el, .bool nw], .agg #[.slice GA gn gc, .slice FA fn fc]] w fun e w' => e = .returned (.bool (resR 13 ty n)) ∧ Below w.heap.size w w' := by
  obtain ⟨w1, hw1⟩ : ∃ z, (w.alloc (.cells #[.int .i64 13, .int .i64 ty, .int .i64 dst, .slice A n c, .int .i64 imm, .int .i64 sym, .int .i64 el, .bool nw] 78)).alloc (.cells #[.slice GA gn gc, .slice FA fn fc] 32) = z := ⟨_, rfl⟩
  have hb : Below w.heap.size w w1 := by rw [← hw1]; exact ((Below.refl _ _).alloc (Nat.le_refl _) _).alloc (by simp [go_sem]) _
  have HI : Hid (Whole w1 w.heap.size 78 #[.int .i64 13, .int .i64 ty, .int .i64 dst, .slice A n c, .int .i64 imm, .int .i64 sym, .int .i64 el, .bool nw]) := by show Whole _ _ _ _; rw [← hw1]; exact (Whole.new w _ _).alloc _
  have i0 : w1.cell? ⟨w.heap.size, 0, none⟩ = some (.int .i64 13) := HI.out.cell 0
  have i1 : w1.cell? ⟨w.heap.size, 1, none⟩ = some (.int .i64 ty) := HI.out.cell 1
  have i3 : w1.cell? ⟨w.heap.size, 3, none⟩ = some (.slice A n c) := HI.out.cell 3
  have HB := hide hb
  go_enter Tryd.func68, Tryd.ntmps68
  go_upto_region 1 with fail
  clear hb hw1
  go_wp2_with (first | (go_at_call 91; refine (rint12_any ty _).mono ?_; rintro en wn ⟨rfl, rfl⟩) | (go_at_call 92; refine (rany_any ty _).mono ?_; rintro en wn ⟨rfl, rfl⟩) | (go_at_call 93; refine (rwide_any ty _).mono ?_; rintro en wn ⟨rfl, rfl⟩) | (go_at_call 70; refine (racc_any ty _).mono ?_; rintro en wn ⟨rfl, rfl⟩))
  all_goals
    go_ret
    refine ⟨ret_bool ?_, HB.out⟩
    first | rfl | (simp_all [resR]; done) | (simp_all [resR, bne]; done) | (rw [Bool.eq_iff_iff]; simp_all [resR]; done) | (rw [Bool.eq_iff_iff]; simp_all [resR]; omega)
set_option maxRecDepth 100000 in
theorem res_14 (ty dst imm sym el : Int) (A GA FA : Option Addr) (n c gn gc fn fc : Nat) (nw : Bool) (w : World) : Calls Tryd.prog 68 #[.agg #[.int .i64 14, .int .i64 ty, .int .i64 dst, .slice A n c, .int .i64 imm, .int .i64 sym, .int .i64 el, .bool nw], .agg #[.slice GA gn gc, .slice FA fn fc]] w fun e w' => e = .returned (.bool (resR 14 ty n)) ∧ Below w.heap.size w w' := by
  obtain ⟨w1, hw1⟩ : ∃ z, (w.alloc (.cells #[.int .i64 14, .int .i64 ty, .int .i64 dst, .slice A n c, .int .i64 imm, .int .i64 sym, .int .i64 el, .bool nw] 78)).alloc (.cells #[.slice GA gn gc, .slice FA fn fc] 32) = z := ⟨_, rfl⟩
  have hb : Below w.heap.size w w1 := by rw [← hw1]; exact ((Below.refl _ _).alloc (Nat.le_refl _) _).alloc (by simp [go_sem]) _
  have HI : Hid (Whole w1 w.heap.size 78 #[.int .i64 14, .int .i64 ty, .int .i64 dst, .slice A n c, .int .i64 imm, .int .i64 sym, .int .i64 el, .bool nw]) := by show Whole _ _ _ _; rw [← hw1]; exact (Whole.new w _ _).alloc _
  have i0 : w1.cell? ⟨w.heap.size, 0, none⟩ = some (.int .i64 14) := HI.out.cell 0
  have i1 : w1.cell? ⟨w.heap.size, 1, none⟩ = some (.int .i64 ty) := HI.out.cell 1
  have i3 : w1.cell? ⟨w.heap.size, 3, none⟩ = some (.slice A n c) := HI.out.cell 3
  have HB := hide hb
  go_enter Tryd.func68, Tryd.ntmps68
  go_upto_region 1 with fail
  clear hb hw1
  go_wp2_with (first | (go_at_call 91; refine (rint12_any ty _).mono ?_; rintro en wn ⟨rfl, rfl⟩) | (go_at_call 92; refine (rany_any ty _).mono ?_; rintro en wn ⟨rfl, rfl⟩) | (go_at_call 93; refine (rwide_any ty _).mono ?_; rintro en wn ⟨rfl, rfl⟩) | (go_at_call 70; refine (racc_any ty _).mono ?_; rintro en wn ⟨rfl, rfl⟩))
  all_goals
    go_ret
    refine ⟨ret_bool ?_, HB.out⟩
    first | rfl | (simp_all [resR]; done) | (simp_all [resR, bne]; done) | (rw [Bool.eq_iff_iff]; simp_all [resR]; done) | (rw [Bool.eq_iff_iff]; simp_all [resR]; omega)
set_option maxRecDepth 100000 in
theorem res_15 (ty dst imm sym el : Int) (A GA FA : Option Addr) (n c gn gc fn fc : Nat) (nw : Bool) (w : World) : Calls Tryd.prog 68 #[.agg #[.int .i64 15, .int .i64 ty, .int .i64 dst, .slice A n c, .int .i64 imm, .int .i64 sym, .int .i64 el, .bool nw], .agg #[.slice GA gn gc, .slice FA fn fc]] w fun e w' => e = .returned (.bool (resR 15 ty n)) ∧ Below w.heap.size w w' := by
  obtain ⟨w1, hw1⟩ : ∃ z, (w.alloc (.cells #[.int .i64 15, .int .i64 ty, .int .i64 dst, .slice A n c, .int .i64 imm, .int .i64 sym, .int .i64 el, .bool nw] 78)).alloc (.cells #[.slice GA gn gc, .slice FA fn fc] 32) = z := ⟨_, rfl⟩
  have hb : Below w.heap.size w w1 := by rw [← hw1]; exact ((Below.refl _ _).alloc (Nat.le_refl _) _).alloc (by simp [go_sem]) _
  have HI : Hid (Whole w1 w.heap.size 78 #[.int .i64 15, .int .i64 ty, .int .i64 dst, .slice A n c, .int .i64 imm, .int .i64 sym, .int .i64 el, .bool nw]) := by show Whole _ _ _ _; rw [← hw1]; exact (Whole.new w _ _).alloc _
  have i0 : w1.cell? ⟨w.heap.size, 0, none⟩ = some (.int .i64 15) := HI.out.cell 0
  have i1 : w1.cell? ⟨w.heap.size, 1, none⟩ = some (.int .i64 ty) := HI.out.cell 1
  have i3 : w1.cell? ⟨w.heap.size, 3, none⟩ = some (.slice A n c) := HI.out.cell 3
  have HB := hide hb
  go_enter Tryd.func68, Tryd.ntmps68
  go_upto_region 1 with fail
  clear hb hw1
  go_wp2_with (first | (go_at_call 91; refine (rint12_any ty _).mono ?_; rintro en wn ⟨rfl, rfl⟩) | (go_at_call 92; refine (rany_any ty _).mono ?_; rintro en wn ⟨rfl, rfl⟩) | (go_at_call 93; refine (rwide_any ty _).mono ?_; rintro en wn ⟨rfl, rfl⟩) | (go_at_call 70; refine (racc_any ty _).mono ?_; rintro en wn ⟨rfl, rfl⟩))
  all_goals
    go_ret
    refine ⟨ret_bool ?_, HB.out⟩
    first | rfl | (simp_all [resR]; done) | (simp_all [resR, bne]; done) | (rw [Bool.eq_iff_iff]; simp_all [resR]; done) | (rw [Bool.eq_iff_iff]; simp_all [resR]; omega)
set_option maxRecDepth 100000 in
theorem res_16 (ty dst imm sym el : Int) (A GA FA : Option Addr) (n c gn gc fn fc : Nat) (nw : Bool) (w : World) : Calls Tryd.prog 68 #[.agg #[.int .i64 16, .int .i64 ty, .int .i64 dst, .slice A n c, .int .i64 imm, .int .i64 sym, .int .i64 el, .bool nw], .agg #[.slice GA gn gc, .slice FA fn fc]] w fun e w' => e = .returned (.bool (resR 16 ty n)) ∧ Below w.heap.size w w' := by
  obtain ⟨w1, hw1⟩ : ∃ z, (w.alloc (.cells #[.int .i64 16, .int .i64 ty, .int .i64 dst, .slice A n c, .int .i64 imm, .int .i64 sym, .int .i64 el, .bool nw] 78)).alloc (.cells #[.slice GA gn gc, .slice FA fn fc] 32) = z := ⟨_, rfl⟩
  have hb : Below w.heap.size w w1 := by rw [← hw1]; exact ((Below.refl _ _).alloc (Nat.le_refl _) _).alloc (by simp [go_sem]) _
  have HI : Hid (Whole w1 w.heap.size 78 #[.int .i64 16, .int .i64 ty, .int .i64 dst, .slice A n c, .int .i64 imm, .int .i64 sym, .int .i64 el, .bool nw]) := by show Whole _ _ _ _; rw [← hw1]; exact (Whole.new w _ _).alloc _
  have i0 : w1.cell? ⟨w.heap.size, 0, none⟩ = some (.int .i64 16) := HI.out.cell 0
  have i1 : w1.cell? ⟨w.heap.size, 1, none⟩ = some (.int .i64 ty) := HI.out.cell 1
  have i3 : w1.cell? ⟨w.heap.size, 3, none⟩ = some (.slice A n c) := HI.out.cell 3
  have HB := hide hb
  go_enter Tryd.func68, Tryd.ntmps68
  go_upto_region 1 with fail
  clear hb hw1
  go_wp2_with (first | (go_at_call 91; refine (rint12_any ty _).mono ?_; rintro en wn ⟨rfl, rfl⟩) | (go_at_call 92; refine (rany_any ty _).mono ?_; rintro en wn ⟨rfl, rfl⟩) | (go_at_call 93; refine (rwide_any ty _).mono ?_; rintro en wn ⟨rfl, rfl⟩) | (go_at_call 70; refine (racc_any ty _).mono ?_; rintro en wn ⟨rfl, rfl⟩))
  all_goals
    go_ret
    refine ⟨ret_bool ?_, HB.out⟩
    first | rfl | (simp_all [resR]; done) | (simp_all [resR, bne]; done) | (rw [Bool.eq_iff_iff]; simp_all [resR]; done) | (rw [Bool.eq_iff_iff]; simp_all [resR]; omega)
set_option maxRecDepth 100000 in
theorem res_17 (ty dst imm sym el : Int) (A GA FA : Option Addr) (n c gn gc fn fc : Nat) (nw : Bool) (w : World) : Calls Tryd.prog 68 #[.agg #[.int .i64 17, .int .i64 ty, .int .i64 dst, .slice A n c, .int .i64 imm, .int .i64 sym, .int .i64 el, .bool nw], .agg #[.slice GA gn gc, .slice FA fn fc]] w fun e w' => e = .returned (.bool (resR 17 ty n)) ∧ Below w.heap.size w w' := by
  obtain ⟨w1, hw1⟩ : ∃ z, (w.alloc (.cells #[.int .i64 17, .int .i64 ty, .int .i64 dst, .slice A n c, .int .i64 imm, .int .i64 sym, .int .i64 el, .bool nw] 78)).alloc (.cells #[.slice GA gn gc, .slice FA fn fc] 32) = z := ⟨_, rfl⟩
  have hb : Below w.heap.size w w1 := by rw [← hw1]; exact ((Below.refl _ _).alloc (Nat.le_refl _) _).alloc (by simp [go_sem]) _
  have HI : Hid (Whole w1 w.heap.size 78 #[.int .i64 17, .int .i64 ty, .int .i64 dst, .slice A n c, .int .i64 imm, .int .i64 sym, .int .i64 el, .bool nw]) := by show Whole _ _ _ _; rw [← hw1]; exact (Whole.new w _ _).alloc _
  have i0 : w1.cell? ⟨w.heap.size, 0, none⟩ = some (.int .i64 17) := HI.out.cell 0
  have i1 : w1.cell? ⟨w.heap.size, 1, none⟩ = some (.int .i64 ty) := HI.out.cell 1
  have i3 : w1.cell? ⟨w.heap.size, 3, none⟩ = some (.slice A n c) := HI.out.cell 3
  have HB := hide hb
  go_enter Tryd.func68, Tryd.ntmps68
  go_upto_region 1 with fail
  clear hb hw1
  go_wp2_with (first | (go_at_call 91; refine (rint12_any ty _).mono ?_; rintro en wn ⟨rfl, rfl⟩) | (go_at_call 92; refine (rany_any ty _).mono ?_; rintro en wn ⟨rfl, rfl⟩) | (go_at_call 93; refine (rwide_any ty _).mono ?_; rintro en wn ⟨rfl, rfl⟩) | (go_at_call 70; refine (racc_any ty _).mono ?_; rintro en wn ⟨rfl, rfl⟩))
  all_goals
    go_ret
    refine ⟨ret_bool ?_, HB.out⟩
    first | rfl | (simp_all [resR]; done) | (simp_all [resR, bne]; done) | (rw [Bool.eq_iff_iff]; simp_all [resR]; done) | (rw [Bool.eq_iff_iff]; simp_all [resR]; omega)
set_option maxRecDepth 100000 in
theorem res_18 (ty dst imm sym el : Int) (A GA FA : Option Addr) (n c gn gc fn fc : Nat) (nw : Bool) (w : World) : Calls Tryd.prog 68 #[.agg #[.int .i64 18, .int .i64 ty, .int .i64 dst, .slice A n c, .int .i64 imm, .int .i64 sym, .int .i64 el, .bool nw], .agg #[.slice GA gn gc, .slice FA fn fc]] w fun e w' => e = .returned (.bool (resR 18 ty n)) ∧ Below w.heap.size w w' := by
  obtain ⟨w1, hw1⟩ : ∃ z, (w.alloc (.cells #[.int .i64 18, .int .i64 ty, .int .i64 dst, .slice A n c, .int .i64 imm, .int .i64 sym, .int .i64 el, .bool nw] 78)).alloc (.cells #[.slice GA gn gc, .slice FA fn fc] 32) = z := ⟨_, rfl⟩
  have hb : Below w.heap.size w w1 := by rw [← hw1]; exact ((Below.refl _ _).alloc (Nat.le_refl _) _).alloc (by simp [go_sem]) _
  have HI : Hid (Whole w1 w.heap.size 78 #[.int .i64 18, .int .i64 ty, .int .i64 dst, .slice A n c, .int .i64 imm, .int .i64 sym, .int .i64 el, .bool nw]) := by show Whole _ _ _ _; rw [← hw1]; exact (Whole.new w _ _).alloc _
  have i0 : w1.cell? ⟨w.heap.size, 0, none⟩ = some (.int .i64 18) := HI.out.cell 0
  have i1 : w1.cell? ⟨w.heap.size, 1, none⟩ = some (.int .i64 ty) := HI.out.cell 1
  have i3 : w1.cell? ⟨w.heap.size, 3, none⟩ = some (.slice A n c) := HI.out.cell 3
  have HB := hide hb
  go_enter Tryd.func68, Tryd.ntmps68
  go_upto_region 1 with fail
  clear hb hw1
  go_wp2_with (first | (go_at_call 91; refine (rint12_any ty _).mono ?_; rintro en wn ⟨rfl, rfl⟩) | (go_at_call 92; refine (rany_any ty _).mono ?_; rintro en wn ⟨rfl, rfl⟩) | (go_at_call 93; refine (rwide_any ty _).mono ?_; rintro en wn ⟨rfl, rfl⟩) | (go_at_call 70; refine (racc_any ty _).mono ?_; rintro en wn ⟨rfl, rfl⟩))
  all_goals
    go_ret
    refine ⟨ret_bool ?_, HB.out⟩
    first | rfl | (simp_all [resR]; done) | (simp_all [resR, bne]; done) | (rw [Bool.eq_iff_iff]; simp_all [resR]; done) | (rw [Bool.eq_iff_iff]; simp_all [resR]; omega)
set_option maxRecDepth 100000 in
theorem res_19 (ty dst imm sym el : Int) (A GA FA : Option Addr) (n c gn gc fn fc : Nat) (nw : Bool) (w : World) : Calls Tryd.prog 68 #[.agg #[.int .i64 19, .int .i64 ty, .int .i64 dst, .slice A n c, .int .i64 imm, .int .i64 sym, .int .i64 el, .bool nw], .agg #[.slice GA gn gc, .slice FA fn fc]] w fun e w' => e = .returned (.bool (resR 19 ty n)) ∧ Below w.heap.size w w' := by
  obtain ⟨w1, hw1⟩ : ∃ z, (w.alloc (.cells #[.int .i64 19, .int .i64 ty, .int .i64 dst, .slice A n c, .int .i64 imm, .int .i64 sym, .int .i64 el, .bool nw] 78)).alloc (.cells #[.slice GA gn gc, .slice FA fn fc] 32) = z := ⟨_, rfl⟩
  have hb : Below w.heap.size w w1 := by rw [← hw1]; exact ((Below.refl _ _).alloc (Nat.le_refl _) _).alloc (by simp [go_sem]) _
  have HI : Hid (Whole w1 w.heap.size 78 #[.int .i64 19, .int .i64 ty, .int .i64 dst, .slice A n c, .int .i64 imm, .int .i64 sym, .int .i64 el, .bool nw]) := by show Whole _ _ _ _; rw [← hw1]; exact (Whole.new w _ _).alloc _
  have i0 : w1.cell? ⟨w.heap.size, 0, none⟩ = some (.int .i64 19) := HI.out.cell 0
  have i1 : w1.cell? ⟨w.heap.size, 1, none⟩ = some (.int .i64 ty) := HI.out.cell 1
  have i3 : w1.cell? ⟨w.heap.size, 3, none⟩ = some (.slice A n c) := HI.out.cell 3
  have HB := hide hb
  go_enter Tryd.func68, Tryd.ntmps68
  go_upto_region 1 with fail
  clear hb hw1
  go_wp2_with (first | (go_at_call 91; refine (rint12_any ty _).mono ?_; rintro en wn ⟨rfl, rfl⟩) | (go_at_call 92; refine (rany_any ty _).mono ?_; rintro en wn ⟨rfl, rfl⟩) | (go_at_call 93; refine (rwide_any ty _).mono ?_; rintro en wn ⟨rfl, rfl⟩) | (go_at_call 70; refine (racc_any ty _).mono ?_; rintro en wn ⟨rfl, rfl⟩))
  all_goals
    go_ret
    refine ⟨ret_bool ?_, HB.out⟩
    first | rfl | (simp_all [resR]; done) | (simp_all [resR, bne]; done) | (rw [Bool.eq_iff_iff]; simp_all [resR]; done) | (rw [Bool.eq_iff_iff]; simp_all [resR]; omega)
set_option maxRecDepth 100000 in
theorem res_20 (ty dst imm sym el : Int) (A GA FA : Option Addr) (n c gn gc fn fc : Nat) (nw : Bool) (w : World) : Calls Tryd.prog 68 #[.agg #[.int .i64 20, .int .i64 ty, .int .i64 dst, .slice A n c, .int .i64 imm, .int .i64 sym, .int .i64 el, .bool nw], .agg #[.slice GA gn gc, .slice FA fn fc]] w fun e w' => e = .returned (.bool (resR 20 ty n)) ∧ Below w.heap.size w w' := by
  obtain ⟨w1, hw1⟩ : ∃ z, (w.alloc (.cells #[.int .i64 20, .int .i64 ty, .int .i64 dst, .slice A n c, .int .i64 imm, .int .i64 sym, .int .i64 el, .bool nw] 78)).alloc (.cells #[.slice GA gn gc, .slice FA fn fc] 32) = z := ⟨_, rfl⟩
  have hb : Below w.heap.size w w1 := by rw [← hw1]; exact ((Below.refl _ _).alloc (Nat.le_refl _) _).alloc (by simp [go_sem]) _
  have HI : Hid (Whole w1 w.heap.size 78 #[.int .i64 20, .int .i64 ty, .int .i64 dst, .slice A n c, .int .i64 imm, .int .i64 sym, .int .i64 el, .bool nw]) := by show Whole _ _ _ _; rw [← hw1]; exact (Whole.new w _ _).alloc _
  have i0 : w1.cell? ⟨w.heap.size, 0, none⟩ = some (.int .i64 20) := HI.out.cell 0
  have i1 : w1.cell? ⟨w.heap.size, 1, none⟩ = some (.int .i64 ty) := HI.out.cell 1
  have i3 : w1.cell? ⟨w.heap.size, 3, none⟩ = some (.slice A n c) := HI.out.cell 3
  have HB := hide hb
  go_enter Tryd.func68, Tryd.ntmps68
  go_upto_region 1 with fail
  clear hb hw1
  go_wp2_with (first | (go_at_call 91; refine (rint12_any ty _).mono ?_; rintro en wn ⟨rfl, rfl⟩) | (go_at_call 92; refine (rany_any ty _).mono ?_; rintro en wn ⟨rfl, rfl⟩) | (go_at_call 93; refine (rwide_any ty _).mono ?_; rintro en wn ⟨rfl, rfl⟩) | (go_at_call 70; refine (racc_any ty _).mono ?_; rintro en wn ⟨rfl, rfl⟩))
  all_goals
    go_ret
    refine ⟨ret_bool ?_, HB.out⟩
    first | rfl | (simp_all [resR]; done) | (simp_all [resR, bne]; done) | (rw [Bool.eq_iff_iff]; simp_all [resR]; done) | (rw [Bool.eq_iff_iff]; simp_all [resR]; omega)
set_option maxRecDepth 100000 in
theorem res_21 (ty dst imm sym el : Int) (A GA FA : Option Addr) (n c gn gc fn fc : Nat) (nw : Bool) (w : World) : Calls Tryd.prog 68 #[.agg #[.int .i64 21, .int .i64 ty, .int .i64 dst, .slice A n c, .int .i64 imm, .int .i64 sym, .int .i64 el, .bool nw], .agg #[.slice GA gn gc, .slice FA fn fc]] w fun e w' => e = .returned (.bool (resR 21 ty n)) ∧ Below w.heap.size w w' := by
  obtain ⟨w1, hw1⟩ : ∃ z, (w.alloc (.cells #[.int .i64 21, .int .i64 ty, .int .i64 dst, .slice A n c, .int .i64 imm, .int .i64 sym, .int .i64 el, .bool nw] 78)).alloc (.cells #[.slice GA gn gc, .slice FA fn fc] 32) = z := ⟨_, rfl⟩
  have hb : Below w.heap.size w w1 := by rw [← hw1]; exact ((Below.refl _ _).alloc (Nat.le_refl _) _).alloc (by simp [go_sem]) _
  have HI : Hid (Whole w1 w.heap.size 78 #[.int .i64 21, .int .i64 ty, .int .i64 dst, .slice A n c, .int .i64 imm, .int .i64 sym, .int .i64 el, .bool nw]) := by show Whole _ _ _ _; rw [← hw1]; exact (Whole.new w _ _).alloc _
  have i0 : w1.cell? ⟨w.heap.size, 0, none⟩ = some (.int .i64 21) := HI.out.cell 0
  have i1 : w1.cell? ⟨w.heap.size, 1, none⟩ = some (.int .i64 ty) := HI.out.cell 1
  have i3 : w1.cell? ⟨w.heap.size, 3, none⟩ = some (.slice A n c) := HI.out.cell 3
  have HB := hide hb
  go_enter Tryd.func68, Tryd.ntmps68
  go_upto_region 1 with fail
  clear hb hw1
  go_wp2_with (first | (go_at_call 91; refine (rint12_any ty _).mono ?_; rintro en wn ⟨rfl, rfl⟩) | (go_at_call 92; refine (rany_any ty _).mono ?_; rintro en wn ⟨rfl, rfl⟩) | (go_at_call 93; refine (rwide_any ty _).mono ?_; rintro en wn ⟨rfl, rfl⟩) | (go_at_call 70; refine (racc_any ty _).mono ?_; rintro en wn ⟨rfl, rfl⟩))
  all_goals
    go_ret
    refine ⟨ret_bool ?_, HB.out⟩
    first | rfl | (simp_all [resR]; done) | (simp_all [resR, bne]; done) | (rw [Bool.eq_iff_iff]; simp_all [resR]; done) | (rw [Bool.eq_iff_iff]; simp_all [resR]; omega)
set_option maxRecDepth 100000 in
theorem res_22 (ty dst imm sym el : Int) (A GA FA : Option Addr) (n c gn gc fn fc : Nat) (nw : Bool) (w : World) : Calls Tryd.prog 68 #[.agg #[.int .i64 22, .int .i64 ty, .int .i64 dst, .slice A n c, .int .i64 imm, .int .i64 sym, .int .i64 el, .bool nw], .agg #[.slice GA gn gc, .slice FA fn fc]] w fun e w' => e = .returned (.bool (resR 22 ty n)) ∧ Below w.heap.size w w' := by
  obtain ⟨w1, hw1⟩ : ∃ z, (w.alloc (.cells #[.int .i64 22, .int .i64 ty, .int .i64 dst, .slice A n c, .int .i64 imm, .int .i64 sym, .int .i64 el, .bool nw] 78)).alloc (.cells #[.slice GA gn gc, .slice FA fn fc] 32) = z := ⟨_, rfl⟩
  have hb : Below w.heap.size w w1 := by rw [← hw1]; exact ((Below.refl _ _).alloc (Nat.le_refl _) _).alloc (by simp [go_sem]) _
  have HI : Hid (Whole w1 w.heap.size 78 #[.int .i64 22, .int .i64 ty, .int .i64 dst, .slice A n c, .int .i64 imm, .int .i64 sym, .int .i64 el, .bool nw]) := by show Whole _ _ _ _; rw [← hw1]; exact (Whole.new w _ _).alloc _
  have i0 : w1.cell? ⟨w.heap.size, 0, none⟩ = some (.int .i64 22) := HI.out.cell 0
  have i1 : w1.cell? ⟨w.heap.size, 1, none⟩ = some (.int .i64 ty) := HI.out.cell 1
  have i3 : w1.cell? ⟨w.heap.size, 3, none⟩ = some (.slice A n c) := HI.out.cell 3
  have HB := hide hb
  go_enter Tryd.func68, Tryd.ntmps68
  go_upto_region 1 with fail
  clear hb hw1
  go_wp2_with (first | (go_at_call 91; refine (rint12_any ty _).mono ?_; rintro en wn ⟨rfl, rfl⟩) | (go_at_call 92; refine (rany_any ty _).mono ?_; rintro en wn ⟨rfl, rfl⟩) | (go_at_call 93; refine (rwide_any ty _).mono ?_; rintro en wn ⟨rfl, rfl⟩) | (go_at_call 70; refine (racc_any ty _).mono ?_; rintro en wn ⟨rfl, rfl⟩))
  all_goals
    go_ret
    refine ⟨ret_bool ?_, HB.out⟩
    first | rfl | (simp_all [resR]; done) | (simp_all [resR, bne]; done) | (rw [Bool.eq_iff_iff]; simp_all [resR]; done) | (rw [Bool.eq_iff_iff]; simp_all [resR]; omega)
set_option maxRecDepth 100000 in
theorem res_23 (ty dst imm sym el : Int) (A GA FA : Option Addr) (n c gn gc fn fc : Nat) (nw : Bool) (w : World) : Calls Tryd.prog 68 #[.agg #[.int .i64 23, .int .i64 ty, .int .i64 dst, .slice A n c, .int .i64 imm, .int .i64 sym, .int .i64 el, .bool nw], .agg #[.slice GA gn gc, .slice FA fn fc]] w fun e w' => e = .returned (.bool (resR 23 ty n)) ∧ Below w.heap.size w w' := by
  obtain ⟨w1, hw1⟩ : ∃ z, (w.alloc (.cells #[.int .i64 23, .int .i64 ty, .int .i64 dst, .slice A n c, .int .i64 imm, .int .i64 sym, .int .i64 el, .bool nw] 78)).alloc (.cells #[.slice GA gn gc, .slice FA fn fc] 32) = z := ⟨_, rfl⟩
  have hb : Below w.heap.size w w1 := by rw [← hw1]; exact ((Below.refl _ _).alloc (Nat.le_refl _) _).alloc (by simp [go_sem]) _
  have HI : Hid (Whole w1 w.heap.size 78 #[.int .i64 23, .int .i64 ty, .int .i64 dst, .slice A n c, .int .i64 imm, .int .i64 sym, .int .i64 el, .bool nw]) := by show Whole _ _ _ _; rw [← hw1]; exact (Whole.new w _ _).alloc _
  have i0 : w1.cell? ⟨w.heap.size, 0, none⟩ = some (.int .i64 23) := HI.out.cell 0
  have i1 : w1.cell? ⟨w.heap.size, 1, none⟩ = some (.int .i64 ty) := HI.out.cell 1
  have i3 : w1.cell? ⟨w.heap.size, 3, none⟩ = some (.slice A n c) := HI.out.cell 3
  have HB := hide hb
  go_enter Tryd.func68, Tryd.ntmps68
  go_upto_region 1 with fail
  clear hb hw1
  go_wp2_with (first | (go_at_call 91; refine (rint12_any ty _).mono ?_; rintro en wn ⟨rfl, rfl⟩) | (go_at_call 92; refine (rany_any ty _).mono ?_; rintro en wn ⟨rfl, rfl⟩) | (go_at_call 93; refine (rwide_any ty _).mono ?_; rintro en wn ⟨rfl, rfl⟩) | (go_at_call 70; refine (racc_any ty _).mono ?_; rintro en wn ⟨rfl, rfl⟩))
  all_goals
    go_ret
    refine ⟨ret_bool ?_, HB.out⟩
    first | rfl | (simp_all [resR]; done) | (simp_all [resR, bne]; done) | (rw [Bool.eq_iff_iff]; simp_all [resR]; done) | (rw [Bool.eq_iff_iff]; simp_all [resR]; omega)
set_option maxRecDepth 100000 in
theorem res_24 (ty dst imm sym el : Int) (A GA FA : Option Addr) (n c gn gc fn fc : Nat) (nw : Bool) (w : World) : Calls Tryd.prog 68 #[.agg #[.int .i64 24, .int .i64 ty, .int .i64 dst, .slice A n c, .int .i64 imm, .int .i64 sym, .int .i64 el, .bool nw], .agg #[.slice GA gn gc, .slice FA fn fc]] w fun e w' => e = .returned (.bool (resR 24 ty n)) ∧ Below w.heap.size w w' := by
  obtain ⟨w1, hw1⟩ : ∃ z, (w.alloc (.cells #[.int .i64 24, .int .i64 ty, .int .i64 dst, .slice A n c, .int .i64 imm, .int .i64 sym, .int .i64 el, .bool nw] 78)).alloc (.cells #[.slice GA gn gc, .slice FA fn fc] 32) = z := ⟨_, rfl⟩
  have hb : Below w.heap.size w w1 := by rw [← hw1]; exact ((Below.refl _ _).alloc (Nat.le_refl _) _).alloc (by simp [go_sem]) _
  have HI : Hid (Whole w1 w.heap.size 78 #[.int .i64 24, .int .i64 ty, .int .i64 dst, .slice A n c, .int .i64 imm, .int .i64 sym, .int .i64 el, .bool nw]) := by show Whole _ _ _ _; rw [← hw1]; exact (Whole.new w _ _).alloc _
  have i0 : w1.cell? ⟨w.heap.size, 0, none⟩ = some (.int .i64 24) := HI.out.cell 0
  have i1 : w1.cell? ⟨w.heap.size, 1, none⟩ = some (.int .i64 ty) := HI.out.cell 1
  have i3 : w1.cell? ⟨w.heap.size, 3, none⟩ = some (.slice A n c) := HI.out.cell 3
  have HB := hide hb
  go_enter Tryd.func68, Tryd.ntmps68
  go_upto_region 1 with fail
  clear hb hw1
  go_wp2_with (first | (go_at_call 91; refine (rint12_any ty _).mono ?_; rintro en wn ⟨rfl, rfl⟩) | (go_at_call 92; refine (rany_any ty _).mono ?_; rintro en wn ⟨rfl, rfl⟩) | (go_at_call 93; refine (rwide_any ty _).mono ?_; rintro en wn ⟨rfl, rfl⟩) | (go_at_call 70; refine (racc_any ty _).mono ?_; rintro en wn ⟨rfl, rfl⟩))
  all_goals
    go_ret
    refine ⟨ret_bool ?_, HB.out⟩
    first | rfl | (simp_all [resR]; done) | (simp_all [resR, bne]; done) | (rw [Bool.eq_iff_iff]; simp_all [resR]; done) | (rw [Bool.eq_iff_iff]; simp_all [resR]; omega)
set_option maxRecDepth 100000 in
theorem res_25 (ty dst imm sym el : Int) (A GA FA : Option Addr) (n c gn gc fn fc : Nat) (nw : Bool) (w : World) : Calls Tryd.prog 68 #[.agg #[.int .i64 25, .int .i64 ty, .int .i64 dst, .slice A n c, .int .i64 imm, .int .i64 sym, .int .i64 el, .bool nw], .agg #[.slice GA gn gc, .slice FA fn fc]] w fun e w' => e = .returned (.bool (resR 25 ty n)) ∧ Below w.heap.size w w' := by
  obtain ⟨w1, hw1⟩ : ∃ z, (w.alloc (.cells #[.int .i64 25, .int .i64 ty, .int .i64 dst, .slice A n c, .int .i64 imm, .int .i64 sym, .int .i64 el, .bool nw] 78)).alloc (.cells #[.slice GA gn gc, .slice FA fn fc] 32) = z := ⟨_, rfl⟩
  have hb : Below w.heap.size w w1 := by rw [← hw1]; exact ((Below.refl _ _).alloc (Nat.le_refl _) _).alloc (by simp [go_sem]) _
  have HI : Hid (Whole w1 w.heap.size 78 #[.int .i64 25, .int .i64 ty, .int .i64 dst, .slice A n c, .int .i64 imm, .int .i64 sym, .int .i64 el, .bool nw]) := by show Whole _ _ _ _; rw [← hw1]; exact (Whole.new w _ _).alloc _
  have i0 : w1.cell? ⟨w.heap.size, 0, none⟩ = some (.int .i64 25) := HI.out.cell 0
  have i1 : w1.cell? ⟨w.heap.size, 1, none⟩ = some (.int .i64 ty) := HI.out.cell 1
  have i3 : w1.cell? ⟨w.heap.size, 3, none⟩ = some (.slice A n c) := HI.out.cell 3
  have HB := hide hb
  go_enter Tryd.func68, Tryd.ntmps68
  go_upto_region 1 with fail
  clear hb hw1
  go_wp2_with (first | (go_at_call 91; refine (rint12_any ty _).mono ?_; rintro en wn ⟨rfl, rfl⟩) | (go_at_call 92; refine (rany_any ty _).mono ?_; rintro en wn ⟨rfl, rfl⟩) | (go_at_call 93; refine (rwide_any ty _).mono ?_; rintro en wn ⟨rfl, rfl⟩) | (go_at_call 70; refine (racc_any ty _).mono ?_; rintro en wn ⟨rfl, rfl⟩))
  all_goals
    go_ret
    refine ⟨ret_bool ?_, HB.out⟩
    first | rfl | (simp_all [resR]; done) | (simp_all [resR, bne]; done) | (rw [Bool.eq_iff_iff]; simp_all [resR]; done) | (rw [Bool.eq_iff_iff]; simp_all [resR]; omega)
set_option maxRecDepth 100000 in
theorem res_26 (ty dst imm sym el : Int) (A GA FA : Option Addr) (n c gn gc fn fc : Nat) (nw : Bool) (w : World) : Calls Tryd.prog 68 #[.agg #[.int .i64 26, .int .i64 ty, .int .i64 dst, .slice A n c, .int .i64 imm, .int .i64 sym, .int .i64 el, .bool nw], .agg #[.slice GA gn gc, .slice FA fn fc]] w fun e w' => e = .returned (.bool (resR 26 ty n)) ∧ Below w.heap.size w w' := by
  obtain ⟨w1, hw1⟩ : ∃ z, (w.alloc (.cells #[.int .i64 26, .int .i64 ty, .int .i64 dst, .slice A n c, .int .i64 imm, .int .i64 sym, .int .i64 el, .bool nw] 78)).alloc (.cells #[.slice GA gn gc, .slice FA fn fc] 32) = z := ⟨_, rfl⟩
  have hb : Below w.heap.size w w1 := by rw [← hw1]; exact ((Below.refl _ _).alloc (Nat.le_refl _) _).alloc (by simp [go_sem]) _
  have HI : Hid (Whole w1 w.heap.size 78 #[.int .i64 26, .int .i64 ty, .int .i64 dst, .slice A n c, .int .i64 imm, .int .i64 sym, .int .i64 el, .bool nw]) := by show Whole _ _ _ _; rw [← hw1]; exact (Whole.new w _ _).alloc _
  have i0 : w1.cell? ⟨w.heap.size, 0, none⟩ = some (.int .i64 26) := HI.out.cell 0
  have i1 : w1.cell? ⟨w.heap.size, 1, none⟩ = some (.int .i64 ty) := HI.out.cell 1
  have i3 : w1.cell? ⟨w.heap.size, 3, none⟩ = some (.slice A n c) := HI.out.cell 3
  have HB := hide hb
  go_enter Tryd.func68, Tryd.ntmps68
  go_upto_region 1 with fail
  clear hb hw1
  go_wp2_with (first | (go_at_call 91; refine (rint12_any ty _).mono ?_; rintro en wn ⟨rfl, rfl⟩) | (go_at_call 92; refine (rany_any ty _).mono ?_; rintro en wn ⟨rfl, rfl⟩) | (go_at_call 93; refine (rwide_any ty _).mono ?_; rintro en wn ⟨rfl, rfl⟩) | (go_at_call 70; refine (racc_any ty _).mono ?_; rintro en wn ⟨rfl, rfl⟩))
  all_goals
    go_ret
    refine ⟨ret_bool ?_, HB.out⟩
    first | rfl | (simp_all [resR]; done) | (simp_all [resR, bne]; done) | (rw [Bool.eq_iff_iff]; simp_all [resR]; done) | (rw [Bool.eq_iff_iff]; simp_all [resR]; omega)
set_option maxRecDepth 100000 in
theorem res_27 (ty dst imm sym el : Int) (A GA FA : Option Addr) (n c gn gc fn fc : Nat) (nw : Bool) (w : World) : Calls Tryd.prog 68 #[.agg #[.int .i64 27, .int .i64 ty, .int .i64 dst, .slice A n c, .int .i64 imm, .int .i64 sym, .int .i64 el, .bool nw], .agg #[.slice GA gn gc, .slice FA fn fc]] w fun e w' => e = .returned (.bool (resR 27 ty n)) ∧ Below w.heap.size w w' := by
  obtain ⟨w1, hw1⟩ : ∃ z, (w.alloc (.cells #[.int .i64 27, .int .i64 ty, .int .i64 dst, .slice A n c, .int .i64 imm, .int .i64 sym, .int .i64 el, .bool nw] 78)).alloc (.cells #[.slice GA gn gc, .slice FA fn fc] 32) = z := ⟨_, rfl⟩
  have hb : Below w.heap.size w w1 := by rw [← hw1]; exact ((Below.refl _ _).alloc (Nat.le_refl _) _).alloc (by simp [go_sem]) _
  have HI : Hid (Whole w1 w.heap.size 78 #[.int .i64 27, .int .i64 ty, .int .i64 dst, .slice A n c, .int .i64 imm, .int .i64 sym, .int .i64 el, .bool nw]) := by show Whole _ _ _ _; rw [← hw1]; exact (Whole.new w _ _).alloc _
  have i0 : w1.cell? ⟨w.heap.size, 0, none⟩ = some (.int .i64 27) := HI.out.cell 0
  have i1 : w1.cell? ⟨w.heap.size, 1, none⟩ = some (.int .i64 ty) := HI.out.cell 1
  have i3 : w1.cell? ⟨w.heap.size, 3, none⟩ = some (.slice A n c) := HI.out.cell 3
  have HB := hide hb
  go_enter Tryd.func68, Tryd.ntmps68
  go_upto_region 1 with fail
  clear hb hw1
  go_wp2_with (first | (go_at_call 91; refine (rint12_any ty _).mono ?_; rintro en wn ⟨rfl, rfl⟩) | (go_at_call 92; refine (rany_any ty _).mono ?_; rintro en wn ⟨rfl, rfl⟩) | (go_at_call 93; refine (rwide_any ty _).mono ?_; rintro en wn ⟨rfl, rfl⟩) | (go_at_call 70; refine (racc_any ty _).mono ?_; rintro en wn ⟨rfl, rfl⟩))
  all_goals
    go_ret
    refine ⟨ret_bool ?_, HB.out⟩
    first | rfl | (simp_all [resR]; done) | (simp_all [resR, bne]; done) | (rw [Bool.eq_iff_iff]; simp_all [resR]; done) | (rw [Bool.eq_iff_iff]; simp_all [resR]; omega)
set_option maxRecDepth 100000 in
theorem res_28 (ty dst imm sym el : Int) (A GA FA : Option Addr) (n c gn gc fn fc : Nat) (nw : Bool) (w : World) : Calls Tryd.prog 68 #[.agg #[.int .i64 28, .int .i64 ty, .int .i64 dst, .slice A n c, .int .i64 imm, .int .i64 sym, .int .i64 el, .bool nw], .agg #[.slice GA gn gc, .slice FA fn fc]] w fun e w' => e = .returned (.bool (resR 28 ty n)) ∧ Below w.heap.size w w' := by
  obtain ⟨w1, hw1⟩ : ∃ z, (w.alloc (.cells #[.int .i64 28, .int .i64 ty, .int .i64 dst, .slice A n c, .int .i64 imm, .int .i64 sym, .int .i64 el, .bool nw] 78)).alloc (.cells #[.slice GA gn gc, .slice FA fn fc] 32) = z := ⟨_, rfl⟩
  have hb : Below w.heap.size w w1 := by rw [← hw1]; exact ((Below.refl _ _).alloc (Nat.le_refl _) _).alloc (by simp [go_sem]) _
  have HI : Hid (Whole w1 w.heap.size 78 #[.int .i64 28, .int .i64 ty, .int .i64 dst, .slice A n c, .int .i64 imm, .int .i64 sym, .int .i64 el, .bool nw]) := by show Whole _ _ _ _; rw [← hw1]; exact (Whole.new w _ _).alloc _
  have i0 : w1.cell? ⟨w.heap.size, 0, none⟩ = some (.int .i64 28) := HI.out.cell 0
  have i1 : w1.cell? ⟨w.heap.size, 1, none⟩ = some (.int .i64 ty) := HI.out.cell 1
  have i3 : w1.cell? ⟨w.heap.size, 3, none⟩ = some (.slice A n c) := HI.out.cell 3
  have HB := hide hb
  go_enter Tryd.func68, Tryd.ntmps68
  go_upto_region 1 with fail
  clear hb hw1
  go_wp2_with (first | (go_at_call 91; refine (rint12_any ty _).mono ?_; rintro en wn ⟨rfl, rfl⟩) | (go_at_call 92; refine (rany_any ty _).mono ?_; rintro en wn ⟨rfl, rfl⟩) | (go_at_call 93; refine (rwide_any ty _).mono ?_; rintro en wn ⟨rfl, rfl⟩) | (go_at_call 70; refine (racc_any ty _).mono ?_; rintro en wn ⟨rfl, rfl⟩))
  all_goals
    go_ret
    refine ⟨ret_bool ?_, HB.out⟩
    first | rfl | (simp_all [resR]; done) | (simp_all [resR, bne]; done) | (rw [Bool.eq_iff_iff]; simp_all [resR]; done) | (rw [Bool.eq_iff_iff]; simp_all [resR]; omega)
set_option maxRecDepth 100000 in
theorem res_29 (ty dst imm sym el : Int) (A GA FA : Option Addr) (n c gn gc fn fc : Nat) (nw : Bool) (w : World) : Calls Tryd.prog 68 #[.agg #[.int .i64 29, .int .i64 ty, .int .i64 dst, .slice A n c, .int .i64 imm, .int .i64 sym, .int .i64 el, .bool nw], .agg #[.slice GA gn gc, .slice FA fn fc]] w fun e w' => e = .returned (.bool (resR 29 ty n)) ∧ Below w.heap.size w w' := by
  obtain ⟨w1, hw1⟩ : ∃ z, (w.alloc (.cells #[.int .i64 29, .int .i64 ty, .int .i64 dst, .slice A n c, .int .i64 imm, .int .i64 sym, .int .i64 el, .bool nw] 78)).alloc (.cells #[.slice GA gn gc, .slice FA fn fc] 32) = z := ⟨_, rfl⟩
  have hb : Below w.heap.size w w1 := by rw [← hw1]; exact ((Below.refl _ _).alloc (Nat.le_refl _) _).alloc (by simp [go_sem]) _
  have HI : Hid (Whole w1 w.heap.size 78 #[.int .i64 29, .int .i64 ty, .int .i64 dst, .slice A n c, .int .i64 imm, .int .i64 sym, .int .i64 el, .bool nw]) := by show Whole _ _ _ _; rw [← hw1]; exact (Whole.new w _ _).alloc _
  have i0 : w1.cell? ⟨w.heap.size, 0, none⟩ = some (.int .i64 29) := HI.out.cell 0
  have i1 : w1.cell? ⟨w.heap.size, 1, none⟩ = some (.int .i64 ty) := HI.out.cell 1
  have i3 : w1.cell? ⟨w.heap.size, 3, none⟩ = some (.slice A n c) := HI.out.cell 3
  have HB := hide hb
  go_enter Tryd.func68, Tryd.ntmps68
  go_upto_region 1 with fail
  clear hb hw1
  go_wp2_with (first | (go_at_call 91; refine (rint12_any ty _).mono ?_; rintro en wn ⟨rfl, rfl⟩) | (go_at_call 92; refine (rany_any ty _).mono ?_; rintro en wn ⟨rfl, rfl⟩) | (go_at_call 93; refine (rwide_any ty _).mono ?_; rintro en wn ⟨rfl, rfl⟩) | (go_at_call 70; refine (racc_any ty _).mono ?_; rintro en wn ⟨rfl, rfl⟩))
  all_goals
    go_ret
    refine ⟨ret_bool ?_, HB.out⟩
    first | rfl | (simp_all [resR]; done) | (simp_all [resR, bne]; done) | (rw [Bool.eq_iff_iff]; simp_all [resR]; done) | (rw [Bool.eq_iff_iff]; simp_all [resR]; omega)
set_option maxRecDepth 100000 in
theorem res_31 (ty dst imm sym el : Int) (A GA FA : Option Addr) (n c gn gc fn fc : Nat) (nw : Bool) (w : World) : Calls Tryd.prog 68 #[.agg #[.int .i64 31, .int .i64 ty, .int .i64 dst, .slice A n c, .int .i64 imm, .int .i64 sym, .int .i64 el, .bool nw], .agg #[.slice GA gn gc, .slice FA fn fc]] w fun e w' => e = .returned (.bool (resR 31 ty n)) ∧ Below w.heap.size w w' := by
  obtain ⟨w1, hw1⟩ : ∃ z, (w.alloc (.cells #[.int .i64 31, .int .i64 ty, .int .i64 dst, .slice A n c, .int .i64 imm, .int .i64 sym, .int .i64 el, .bool nw] 78)).alloc (.cells #[.slice GA gn gc, .slice FA fn fc] 32) = z := ⟨_, rfl⟩
  have hb : Below w.heap.size w w1 := by rw [← hw1]; exact ((Below.refl _ _).alloc (Nat.le_refl _) _).alloc (by simp [go_sem]) _
  have HI : Hid (Whole w1 w.heap.size 78 #[.int .i64 31, .int .i64 ty, .int .i64 dst, .slice A n c, .int .i64 imm, .int .i64 sym, .int .i64 el, .bool nw]) := by show Whole _ _ _ _; rw [← hw1]; exact (Whole.new w _ _).alloc _
  have i0 : w1.cell? ⟨w.heap.size, 0, none⟩ = some (.int .i64 31) := HI.out.cell 0
  have i1 : w1.cell? ⟨w.heap.size, 1, none⟩ = some (.int .i64 ty) := HI.out.cell 1
  have i3 : w1.cell? ⟨w.heap.size, 3, none⟩ = some (.slice A n c) := HI.out.cell 3
  have HB := hide hb
  go_enter Tryd.func68, Tryd.ntmps68
  go_upto_region 1 with fail
  clear hb hw1
  go_wp2_with (first | (go_at_call 91; refine (rint12_any ty _).mono ?_; rintro en wn ⟨rfl, rfl⟩) | (go_at_call 92; refine (rany_any ty _).mono ?_; rintro en wn ⟨rfl, rfl⟩) | (go_at_call 93; refine (rwide_any ty _).mono ?_; rintro en wn ⟨rfl, rfl⟩) | (go_at_call 70; refine (racc_any ty _).mono ?_; rintro en wn ⟨rfl, rfl⟩))
  all_goals
    go_ret
    refine ⟨ret_bool ?_, HB.out⟩
    first | rfl | (simp_all [resR]; done) | (simp_all [resR, bne]; done) | (rw [Bool.eq_iff_iff]; simp_all [resR]; done) | (rw [Bool.eq_iff_iff]; simp_all [resR]; omega)
set_option maxRecDepth 100000 in
theorem res_32 (ty dst imm sym el : Int) (A GA FA : Option Addr) (n c gn gc fn fc : Nat) (nw : Bool) (w : World) : Calls Tryd.prog 68 #[.agg #[.int .i64 32, .int .i64 ty, .int .i64 dst, .slice A n c, .int .i64 imm, .int .i64 sym, .int .i64 el, .bool nw], .agg #[.slice GA gn gc, .slice FA fn fc]] w fun e w' => e = .returned (.bool (resR 32 ty n)) ∧ Below w.heap.size w w' := by
  obtain ⟨w1, hw1⟩ : ∃ z, (w.alloc (.cells #[.int .i64 32, .int .i64 ty, .int .i64 dst, .slice A n c, .int .i64 imm, .int .i64 sym, .int .i64 el, .bool nw] 78)).alloc (.cells #[.slice GA gn gc, .slice FA fn fc] 32) = z := ⟨_, rfl⟩
  have hb : Below w.heap.size w w1 := by rw [← hw1]; exact ((Below.refl _ _).alloc (Nat.le_refl _) _).alloc (by simp [go_sem]) _
  have HI : Hid (Whole w1 w.heap.size 78 #[.int .i64 32, .int .i64 ty, .int .i64 dst, .slice A n c, .int .i64 imm, .int .i64 sym, .int .i64 el, .bool nw]) := by show Whole _ _ _ _; rw [← hw1]; exact (Whole.new w _ _).alloc _
  have i0 : w1.cell? ⟨w.heap.size, 0, none⟩ = some (.int .i64 32) := HI.out.cell 0
  have i1 : w1.cell? ⟨w.heap.size, 1, none⟩ = some (.int .i64 ty) := HI.out.cell 1
  have i3 : w1.cell? ⟨w.heap.size, 3, none⟩ = some (.slice A n c) := HI.out.cell 3
  have HB := hide hb
  go_enter Tryd.func68, Tryd.ntmps68
  go_upto_region 1 with fail
  clear hb hw1
  go_wp2_with (first | (go_at_call 91; refine (rint12_any ty _).mono ?_; rintro en wn ⟨rfl, rfl⟩) | (go_at_call 92; refine (rany_any ty _).mono ?_; rintro en wn ⟨rfl, rfl⟩) | (go_at_call 93; refine (rwide_any ty _).mono ?_; rintro en wn ⟨rfl, rfl⟩) | (go_at_call 70; refine (racc_any ty _).mono ?_; rintro en wn ⟨rfl, rfl⟩))
  all_goals
    go_ret
    refine ⟨ret_bool ?_, HB.out⟩
    first | rfl | (simp_all [resR]; done) | (simp_all [resR]; done) | (rw [Bool.eq_iff_iff]; simp_all [resR]; done) | (rw [Bool.eq_iff_iff]; simp_all [resR]; omega)
set_option maxRecDepth 100000 in
theorem res_33 (ty dst imm sym el : Int) (A GA FA : Option Addr) (n c gn gc fn fc : Nat) (nw : Bool) (w : World) : Calls Tryd.prog 68 #[.agg #[.int .i64 33, .int .i64 ty, .int .i64 dst, .slice A n c, .int .i64 imm, .int .i64 sym, .int .i64 el, .bool nw], .agg #[.slice GA gn gc, .slice FA fn fc]] w fun e w' => e = .returned (.bool (resR 33 ty n)) ∧ Below w.heap.size w w' := by
  obtain ⟨w1, hw1⟩ : ∃ z, (w.alloc (.cells #[.int .i64 33, .int .i64 ty, .int .i64 dst, .slice A n c, .int .i64 imm, .int .i64 sym, .int .i64 el, .bool nw] 78)).alloc (.cells #[.slice GA gn gc, .slice FA fn fc] 32) = z := ⟨_, rfl⟩
  have hb : Below w.heap.size w w1 := by rw [← hw1]; exact ((Below.refl _ _).alloc (Nat.le_refl _) _).alloc (by simp [go_sem]) _
  have HI : Hid (Whole w1 w.heap.size 78 #[.int .i64 33, .int .i64 ty, .int .i64 dst, .slice A n c, .int .i64 imm, .int .i64 sym, .int .i64 el, .bool nw]) := by show Whole _ _ _ _; rw [← hw1]; exact (Whole.new w _ _).alloc _
  have i0 : w1.cell? ⟨w.heap.size, 0, none⟩ = some (.int .i64 33) := HI.out.cell 0
  have i1 : w1.cell? ⟨w.heap.size, 1, none⟩ = some (.int .i64 ty) := HI.out.cell 1
  have i3 : w1.cell? ⟨w.heap.size, 3, none⟩ = some (.slice A n c) := HI.out.cell 3
  have HB := hide hb
  go_enter Tryd.func68, Tryd.ntmps68
  go_upto_region 1 with fail
  clear hb hw1
  go_wp2_with (first | (go_at_call 91; refine (rint12_any ty _).mono ?_; rintro en wn ⟨rfl, rfl⟩) | (go_at_call 92; refine (rany_any ty _).mono ?_; rintro en wn ⟨rfl, rfl⟩) | (go_at_call 93; refine (rwide_any ty _).mono ?_; rintro en wn ⟨rfl, rfl⟩) | (go_at_call 70; refine (racc_any ty _).mono ?_; rintro en wn ⟨rfl, rfl⟩))
  all_goals
    go_ret
    refine ⟨ret_bool ?_, HB.out⟩
    first | rfl | (simp_all [resR]; done) | (simp_all [resR, bne]; done) | (rw [Bool.eq_iff_iff]; simp_all [resR]; done) | (rw [Bool.eq_iff_iff]; simp_all [resR]; omega)
end Go.Proofs.YtnhaanjpcnnifaaDoor

/-
  Layer 12 (opcode): count of the reference.
-/
import Derived.Test.YtnhaanjpcnnifaaDoorRfB
namespace Go.Proofs.YtnhaanjpcnnifaaDoor
open Go.RowKit

/-- What the reference counts, but for a call. -/
def rcnt (k n : Nat) : Int := if k = 32 then (n : Int) else (cntOf k : Int)
def rcok (k n : Nat) : Bool := if k = 32 then decide (n = 2 ∨ n = 4) else true
set_option maxRecDepth 100000 in
theorem rcount_1 (ty dst imm sym el : Int) (A GA FA : Option Addr) (n c gn gc fn fc : Nat) (nw : Bool) (w : World) : Calls Tryd.prog 67 #[.agg #[.int .i64 1, .int .i64 ty, .int .i64 dst, .slice A n c, .int .i64 imm, .int .i64 sym, .int .i64 el, .bool nw], .agg #[.slice GA gn gc, .slice FA fn fc]] w fun e w' => e = .returned (.tuple #[.int .i64 (rcnt 1 n), .bool (rcok 1 n)]) ∧ Below w.heap.size w w' := by
  obtain ⟨w1, hw1⟩ : ∃ z, (w.alloc (.cells #[.int .i64 1, .int .i64 ty, .int .i64 dst, .slice A n c, .int .i64 imm, .int .i64 sym, .int .i64 el, .bool nw] 78)).alloc (.cells #[.slice GA gn gc, .slice FA fn fc] 32) = z := ⟨_, rfl⟩
  have hb : Below w.heap.size w w1 := by rw [← hw1]; exact ((Below.refl _ _).alloc (Nat.le_refl _) _).alloc (by simp [go_sem]) _
  have HI : Hid (Whole w1 w.heap.size 78 #[.int .i64 1, .int .i64 ty, .int .i64 dst, .slice A n c, .int .i64 imm, .int .i64 sym, .int .i64 el, .bool nw]) := by show Whole _ _ _ _; rw [← hw1]; exact (Whole.new w _ _).alloc _
  have i0 : w1.cell? ⟨w.heap.size, 0, none⟩ = some (.int .i64 1) := HI.out.cell 0
  have i3 : w1.cell? ⟨w.heap.size, 3, none⟩ = some (.slice A n c) := HI.out.cell 3
  have HB := hide hb
  go_enter Tryd.func67, Tryd.ntmps67
  go_upto_region 1 with fail
  clear hb hw1
  go_wp2_with fail
  all_goals
    refine bodyPost_ret (v := .tuple #[.int .i64 (rcnt 1 n), .bool (rcok 1 n)]) ?_ rfl ⟨rfl, HB.out⟩
    first | (simp [results, Tryd.f67, go_sem]; done) | (simp [results, Tryd.f67, go_sem]; exact ⟨rfl, rfl⟩)
set_option maxRecDepth 100000 in
theorem rcount_2 (ty dst imm sym el : Int) (A GA FA : Option Addr) (n c gn gc fn fc : Nat) (nw : Bool) (w : World) : Calls Tryd.prog 67 #[.agg #[.int .i64 2, .int .i64 ty, .int .i64 dst, .slice A n c, .int .i64 imm, .int .i64 sym, .int .i64 el, .bool nw], .agg #[.slice GA gn gc, .slice FA fn fc]] w fun e w' => e = .returned (.tuple #[.int .i64 (rcnt 2 n), .bool (rcok 2 n)]) ∧ Below w.heap.size w w' := by
  obtain ⟨w1, hw1⟩ : ∃ z, (w.alloc (.cells #[.int .i64 2, .int .i64 ty, .int .i64 dst, .slice A n c, .int .i64 imm, .int .i64 sym, .int .i64 el, .bool nw] 78)).alloc (.cells #[.slice GA gn gc, .slice FA fn fc] 32) = z := ⟨_, rfl⟩
  have hb : Below w.heap.size w w1 := by rw [← hw1]; exact ((Below.refl _ _).alloc (Nat.le_refl _) _).alloc (by simp [go_sem]) _
  have HI : Hid (Whole w1 w.heap.size 78 #[.int .i64 2, .int .i64 ty, .int .i64 dst, .slice A n c, .int .i64 imm, .int .i64 sym, .int .i64 el, .bool nw]) := by show Whole _ _ _ _; rw [← hw1]; exact (Whole.new w _ _).alloc _
  have i0 : w1.cell? ⟨w.heap.size, 0, none⟩ = some (.int .i64 2) := HI.out.cell 0
  have i3 : w1.cell? ⟨w.heap.size, 3, none⟩ = some (.slice A n c) := HI.out.cell 3
  have HB := hide hb
  go_enter Tryd.func67, Tryd.ntmps67
  go_upto_region 1 with fail
  clear hb hw1
  go_wp2_with fail
  all_goals
    refine bodyPost_ret (v := .tuple #[.int .i64 (rcnt 2 n), .bool (rcok 2 n)]) ?_ rfl ⟨rfl, HB.out⟩
    first | (simp [results, Tryd.f67, go_sem]; done) | (simp [results, Tryd.f67, go_sem]; exact ⟨rfl, rfl⟩)
set_option maxRecDepth 100000 in
theorem rcount_3 (ty dst imm sym el : Int) (A GA FA : Option Addr) (n c gn gc fn fc : Nat) (nw : Bool) (w : World) : Calls Tryd.prog 67 #[.agg #[.int .i64 3, .int .i64 ty, .int .i64 dst, .slice A n c, .int .i64 imm, .int .i64 sym, .int .i64 el, .bool nw], .agg #[.slice GA gn gc, .slice FA fn fc]] w fun e w' => e = .returned (.tuple #[.int .i64 (rcnt 3 n), .bool (rcok 3 n)]) ∧ Below w.heap.size w w' := by
  obtain ⟨w1, hw1⟩ : ∃ z, (w.alloc (.cells #[.int .i64 3, .int .i64 ty, .int .i64 dst, .slice A n c, .int .i64 imm, .int .i64 sym, .int .i64 el, .bool nw] 78)).alloc (.cells #[.slice GA gn gc, .slice FA fn fc] 32) = z := ⟨_, rfl⟩
  have hb : Below w.heap.size w w1 := by rw [← hw1]; exact ((Below.refl _ _).alloc (Nat.le_refl _) _).alloc (by simp [go_sem]) _
  have HI : Hid (Whole w1 w.heap.size 78 #[.int .i64 3, .int .i64 ty, .int .i64 dst, .slice A n c, .int .i64 imm, .int .i64 sym, .int .i64 el, .bool nw]) := by show Whole _ _ _ _; rw [← hw1]; exact (Whole.new w _ _).alloc _
  have i0 : w1.cell? ⟨w.heap.size, 0, none⟩ = some (.int .i64 3) := HI.out.cell 0
  have i3 : w1.cell? ⟨w.heap.size, 3, none⟩ = some (.slice A n c) := HI.out.cell 3
  have HB := hide hb
  go_enter Tryd.func67, Tryd.ntmps67
  go_upto_region 1 with fail
  clear hb hw1
  go_wp2_with fail
  all_goals
    refine bodyPost_ret (v := .tuple #[.int .i64 (rcnt 3 n), .bool (rcok 3 n)]) ?_ rfl ⟨rfl, HB.out⟩
    first | (simp [results, Tryd.f67, go_sem]; done) | (simp [results, Tryd.f67, go_sem]; exact ⟨rfl, rfl⟩)
set_option maxRecDepth 100000 in
theorem rcount_4 (ty dst imm sym el : Int) (A GA FA : Option Addr) (n c gn gc fn fc : Nat) (nw : Bool) (w : World) : Calls Tryd.prog 67 #[.agg #[.int .i64 4, .int .i64 ty, .int .i64 dst, .slice A n c, .int .i64 imm, .int .i64 sym, .int .i64 el, .bool nw], .agg #[.slice GA gn gc, .slice FA fn fc]] w fun e w' => e = .returned (.tuple #[.int .i64 (rcnt 4 n), .bool (rcok 4 n)]) ∧ Below w.heap.size w w' := by
  obtain ⟨w1, hw1⟩ : ∃ z, (w.alloc (.cells #[.int .i64 4, .int .i64 ty, .int .i64 dst, .slice A n c, .int .i64 imm, .int .i64 sym, .int .i64 el, .bool nw] 78)).alloc (.cells #[.slice GA gn gc, .slice FA fn fc] 32) = z := ⟨_, rfl⟩
  have hb : Below w.heap.size w w1 := by rw [← hw1]; exact ((Below.refl _ _).alloc (Nat.le_refl _) _).alloc (by simp [go_sem]) _
  have HI : Hid (Whole w1 w.heap.size 78 #[.int .i64 4, .int .i64 ty, .int .i64 dst, .slice A n c, .int .i64 imm, .int .i64 sym, .int .i64 el, .bool nw]) := by show Whole _ _ _ _; rw [← hw1]; exact (Whole.new w _ _).alloc _
  have i0 : w1.cell? ⟨w.heap.size, 0, none⟩ = some (.int .i64 4) := HI.out.cell 0
  have i3 : w1.cell? ⟨w.heap.size, 3, none⟩ = some (.slice A n c) := HI.out.cell 3
  have HB := hide hb
  go_enter Tryd.func67, Tryd.ntmps67
  go_upto_region 1 with fail
  clear hb hw1
  go_wp2_with fail
  all_goals
    refine bodyPost_ret (v := .tuple #[.int .i64 (rcnt 4 n), .bool (rcok 4 n)]) ?_ rfl ⟨rfl, HB.out⟩
    first | (simp [results, Tryd.f67, go_sem]; done) | (simp [results, Tryd.f67, go_sem]; exact ⟨rfl, rfl⟩)
set_option maxRecDepth 100000 in
theorem rcount_5 (ty dst imm sym el : Int) (A GA FA : Option Addr) (n c gn gc fn fc : Nat) (nw : Bool) (w : World) : Calls Tryd.prog 67 #[.agg #[.int .i64 5, .int .i64 ty, .int .i64 dst, .slice A n c, .int .i64 imm, .int .i64 sym, .int .i64 el, .bool nw], .agg #[.slice GA gn gc, .slice FA fn fc]] w fun e w' => e = .returned (.tuple #[.int .i64 (rcnt 5 n), .bool (rcok 5 n)]) ∧ Below w.heap.size w w' := by
  obtain ⟨w1, hw1⟩ : ∃ z, (w.alloc (.cells #[.int .i64 5, .int .i64 ty, .int .i64 dst, .slice A n c, .int .i64 imm, .int .i64 sym, .int .i64 el, .bool nw] 78)).alloc (.cells #[.slice GA gn gc, .slice FA fn fc] 32) = z := ⟨_, rfl⟩
  have hb : Below w.heap.size w w1 := by rw [← hw1]; exact ((Below.refl _ _).alloc (Nat.le_refl _) _).alloc (by simp [go_sem]) _
  have HI : Hid (Whole w1 w.heap.size 78 #[.int .i64 5, .int .i64 ty, .int .i64 dst, .slice A n c, .int .i64 imm, .int .i64 sym, .int .i64 el, .bool nw]) := by show Whole _ _ _ _; rw [← hw1]; exact (Whole.new w _ _).alloc _
  have i0 : w1.cell? ⟨w.heap.size, 0, none⟩ = some (.int .i64 5) := HI.out.cell 0
  have i3 : w1.cell? ⟨w.heap.size, 3, none⟩ = some (.slice A n c) := HI.out.cell 3
  have HB := hide hb
  go_enter Tryd.func67, Tryd.ntmps67
  go_upto_region 1 with fail
  clear hb hw1
  go_wp2_with fail
  all_goals
    refine bodyPost_ret (v := .tuple #[.int .i64 (rcnt 5 n), .bool (rcok 5 n)]) ?_ rfl ⟨rfl, HB.out⟩
    first | (simp [results, Tryd.f67, go_sem]; done) | (simp [results, Tryd.f67, go_sem]; exact ⟨rfl, rfl⟩)
set_option maxRecDepth 100000 in
theorem rcount_6 (ty dst imm sym el : Int) (A GA FA : Option Addr) (n c gn gc fn fc : Nat) (nw : Bool) (w : World) : Calls Tryd.prog 67 #[.agg #[.int .i64 6, .int .i64 ty, .int .i64 dst, .slice A n c, .int .i64 imm, .int .i64 sym, .int .i64 el, .bool nw], .agg #[.slice GA gn gc, .slice FA fn fc]] w fun e w' => e = .returned (.tuple #[.int .i64 (rcnt 6 n), .bool (rcok 6 n)]) ∧ Below w.heap.size w w' := by
  obtain ⟨w1, hw1⟩ : ∃ z, (w.alloc (.cells #[.int .i64 6, .int .i64 ty, .int .i64 dst, .slice A n c, .int .i64 imm, .int .i64 sym, .int .i64 el, .bool nw] 78)).alloc (.cells #[.slice GA gn gc, .slice FA fn fc] 32) = z := ⟨_, rfl⟩
  have hb : Below w.heap.size w w1 := by rw [← hw1]; exact ((Below.refl _ _).alloc (Nat.le_refl _) _).alloc (by simp [go_sem]) _
  have HI : Hid (Whole w1 w.heap.size 78 #[.int .i64 6, .int .i64 ty, .int .i64 dst, .slice A n c, .int .i64 imm, .int .i64 sym, .int .i64 el, .bool nw]) := by show Whole _ _ _ _; rw [← hw1]; exact (Whole.new w _ _).alloc _
  have i0 : w1.cell? ⟨w.heap.size, 0, none⟩ = some (.int .i64 6) := HI.out.cell 0
  have i3 : w1.cell? ⟨w.heap.size, 3, none⟩ = some (.slice A n c) := HI.out.cell 3
  have HB := hide hb
  go_enter Tryd.func67, Tryd.ntmps67
  go_upto_region 1 with fail
  clear hb hw1
  go_wp2_with fail
  all_goals
    refine bodyPost_ret (v := .tuple #[.int .i64 (rcnt 6 n), .bool (rcok 6 n)]) ?_ rfl ⟨rfl, HB.out⟩
    first | (simp [results, Tryd.f67, go_sem]; done) | (simp [results, Tryd.f67, go_sem]; exact ⟨rfl, rfl⟩)
set_option maxRecDepth 100000 in
theorem rcount_7 (ty dst imm sym el : Int) (A GA FA : Option Addr) (n c gn gc fn fc : Nat) (nw : Bool) (w : World) : Calls Tryd.prog 67 #[.agg #[.int .i64 7, .int .i64 ty, .int .i64 dst, .slice A n c, .int .i64 imm, .int .i64 sym, .int .i64 el, .bool nw], .agg #[.slice GA gn gc, .slice FA fn fc]] w fun e w' => e = .returned (.tuple #[.int .i64 (rcnt 7 n), .bool (rcok 7 n)]) ∧ Below w.heap.size w w' := by
  obtain ⟨w1, hw1⟩ : ∃ z, (w.alloc (.cells #[.int .i64 7, .int .i64 ty, .int .i64 dst, .slice A n c, .int .i64 imm, .int .i64 sym, .int .i64 el, .bool nw] 78)).alloc (.cells #[.slice GA gn gc, .slice FA fn fc] 32) = z := ⟨_, rfl⟩
  have hb : Below w.heap.size w w1 := by rw [← hw1]; exact ((Below.refl _ _).alloc (Nat.le_refl _) _).alloc (by simp [go_sem]) _
  have HI : Hid (Whole w1 w.heap.size 78 #[.int .i64 7, .int .i64 ty, .int .i64 dst, .slice A n c, .int .i64 imm, .int .i64 sym, .int .i64 el, .bool nw]) := by show Whole _ _ _ _; rw [← hw1]; exact (Whole.new w _ _).alloc _
  have i0 : w1.cell? ⟨w.heap.size, 0, none⟩ = some (.int .i64 7) := HI.out.cell 0
  have i3 : w1.cell? ⟨w.heap.size, 3, none⟩ = some (.slice A n c) := HI.out.cell 3
  have HB := hide hb
  go_enter Tryd.func67, Tryd.ntmps67
  go_upto_region 1 with fail
  clear hb hw1
  go_wp2_with fail
  all_goals
    refine bodyPost_ret (v := .tuple #[.int .i64 (rcnt 7 n), .bool (rcok 7 n)]) ?_ rfl ⟨rfl, HB.out⟩
    first | (simp [results, Tryd.f67, go_sem]; done) | (simp [results, Tryd.f67, go_sem]; exact ⟨rfl, rfl⟩)
set_option maxRecDepth 100000 in
theorem rcount_8 (ty dst imm sym el : Int) (A GA FA : Option Addr) (n c gn gc fn fc : Nat) (nw : Bool) (w : World) : Calls Tryd.prog 67 #[.agg #[.int .i64 8, .int .i64 ty, .int .i64 dst, .slice A n c, .int .i64 imm, .int .i64 sym, .int .i64 el, .bool nw], .agg #[.slice GA gn gc, .slice FA fn fc]] w fun e w' => e = .returned (.tuple #[.int .i64 (rcnt 8 n), .bool (rcok 8 n)]) ∧ Below w.heap.size w w' := by
  obtain ⟨w1, hw1⟩ : ∃ z, (w.alloc (.cells #[.int .i64 8, .int .i64 ty, .int .i64 dst, .slice A n c, .int .i64 imm, .int .i64 sym, .int .i64 el, .bool nw] 78)).alloc (.cells #[.slice GA gn gc, .slice FA fn fc] 32) = z := ⟨_, rfl⟩
  have hb : Below w.heap.size w w1 := by rw [← hw1]; exact ((Below.refl _ _).alloc (Nat.le_refl _) _).alloc (by simp [go_sem]) _
  have HI : Hid (Whole w1 w.heap.size 78 #[.int .i64 8, .int .i64 ty, .int .i64 dst, .slice A n c, .int .i64 imm, .int .i64 sym, .int .i64 el, .bool nw]) := by show Whole _ _ _ _; rw [← hw1]; exact (Whole.new w _ _).alloc _
  have i0 : w1.cell? ⟨w.heap.size, 0, none⟩ = some (.int .i64 8) := HI.out.cell 0
  have i3 : w1.cell? ⟨w.heap.size, 3, none⟩ = some (.slice A n c) := HI.out.cell 3
  have HB := hide hb
  go_enter Tryd.func67, Tryd.ntmps67
  go_upto_region 1 with fail
  clear hb hw1
  go_wp2_with fail
  all_goals
    refine bodyPost_ret (v := .tuple #[.int .i64 (rcnt 8 n), .bool (rcok 8 n)]) ?_ rfl ⟨rfl, HB.out⟩
    first | (simp [results, Tryd.f67, go_sem]; done) | (simp [results, Tryd.f67, go_sem]; exact ⟨rfl, rfl⟩)
set_option maxRecDepth 100000 in
theorem rcount_9 (ty dst imm sym el : Int) (A GA FA : Option Addr) (n c gn gc fn fc : Nat) (nw : Bool) (w : World) : Calls Tryd.prog 67 #[.agg #[.int .i64 9, .int .i64 ty, .int .i64 dst, .slice A n c, .int .i64 imm, .int .i64 sym, .int .i64 el, .bool nw], .agg #[.slice GA gn gc, .slice FA fn fc]] w fun e w' => e = .returned (.tuple #[.int .i64 (rcnt 9 n), .bool (rcok 9 n)]) ∧ Below w.heap.size w w' := by
  obtain ⟨w1, hw1⟩ : ∃ z, (w.alloc (.cells #[.int .i64 9, .int .i64 ty, .int .i64 dst, .slice A n c, .int .i64 imm, .int .i64 sym, .int .i64 el, .bool nw] 78)).alloc (.cells #[.slice GA gn gc, .slice FA fn fc] 32) = z := ⟨_, rfl⟩
  have hb : Below w.heap.size w w1 := by rw [← hw1]; exact ((Below.refl _ _).alloc (Nat.le_refl _) _).alloc (by simp [go_sem]) _
  have HI : Hid (Whole w1 w.heap.size 78 #[.int .i64 9, .int .i64 ty, .int .i64 dst, .slice A n c, .int .i64 imm, .int .i64 sym, .int .i64 el, .bool nw]) := by show Whole _ _ _ _; rw [← hw1]; exact (Whole.new w _ _).alloc _
  have i0 : w1.cell? ⟨w.heap.size, 0, none⟩ = some (.int .i64 9) := HI.out.cell 0
  have i3 : w1.cell? ⟨w.heap.size, 3, none⟩ = some (.slice A n c) := HI.out.cell 3
  have HB := hide hb
  go_enter Tryd.func67, Tryd.ntmps67
  go_upto_region 1 with fail
  clear hb hw1
  go_wp2_with fail
  all_goals
    refine bodyPost_ret (v := .tuple #[.int .i64 (rcnt 9 n), .bool (rcok 9 n)]) ?_ rfl ⟨rfl, HB.out⟩
    first | (simp [results, Tryd.f67, go_sem]; done) | (simp [results, Tryd.f67, go_sem]; exact ⟨rfl, rfl⟩)
set_option maxRecDepth 100000 in
theorem rcount_10 (ty dst imm sym el : Int) (A GA FA : Option Addr) (n c gn gc fn fc : Nat) (nw : Bool) (w : World) : Calls Tryd.prog 67 #[.agg #[.int .i64 10, .int .i64 ty, .int .i64 dst, .slice A n c, .int .i64 imm, .int .i64 sym, .int .i64 el, .bool nw], .agg #[.slice GA gn gc, .slice FA fn fc]] w fun e w' => e = .returned (.tuple #[.int .i64 (rcnt 10 n), .bool (rcok 10 n)]) ∧ Below w.heap.size w w' := by
  obtain ⟨w1, hw1⟩ : ∃ z, (w.alloc (.cells #[.int .i64 10, .int .i64 ty, .int .i64 dst, .slice A n c, .int .i64 imm, .int .i64 sym, .int .i64 el, .bool nw] 78)).alloc (.cells #[.slice GA gn gc, .slice FA fn fc] 32) = z := ⟨_, rfl⟩
  have hb : Below w.heap.size w w1 := by rw [← hw1]; exact ((Below.refl _ _).alloc (Nat.le_refl _) _).alloc (by simp [go_sem]) _
  have HI : Hid (Whole w1 w.heap.size 78 #[.int .i64 10, .int .i64 ty, .int .i64 dst, .slice A n c, .int .i64 imm, .int .i64 sym, .int .i64 el, .bool nw]) := by show Whole _ _ _ _; rw [← hw1]; exact (Whole.new w _ _).alloc _
  have i0 : w1.cell? ⟨w.heap.size, 0, none⟩ = some (.int .i64 10) := HI.out.cell 0
  have i3 : w1.cell? ⟨w.heap.size, 3, none⟩ = some (.slice A n c) := HI.out.cell 3
  have HB := hide hb
  go_enter Tryd.func67, Tryd.ntmps67
  go_upto_region 1 with fail
  clear hb hw1
  go_wp2_with fail
  all_goals
    refine bodyPost_ret (v := .tuple #[.int .i64 (rcnt 10 n), .bool (rcok 10 n)]) ?_ rfl ⟨rfl, HB.out⟩
    first | (simp [results, Tryd.f67, go_sem]; done) | (simp [results, Tryd.f67, go_sem]; exact ⟨rfl, rfl⟩)
set_option maxRecDepth 100000 in
theorem rcount_11 (ty dst imm sym el : Int) (A GA FA : Option Addr) (n c gn gc fn fc : Nat) (nw : Bool) (w : World) : Calls Tryd.prog 67 #[.agg #[.int .i64 11, .int .i64 ty, .int .i64 dst, .slice A n c, .int .i64 imm, .int .i64 sym, .int .i64 el, .bool nw], .agg #[.slice GA gn gc, .slice FA fn fc]] w fun e w' => e = .returned (.tuple #[.int .i64 (rcnt 11 n), .bool (rcok 11 n)]) ∧ Below w.heap.size w w' := by
  obtain ⟨w1, hw1⟩ : ∃ z, (w.alloc (.cells #[.int .i64 11, .int .i64 ty, .int .i64 dst, .slice A n c, .int .i64 imm, .int .i64 sym, .int .i64 el, .bool nw] 78)).alloc (.cells #[.slice GA gn gc, .slice FA fn fc] 32) = z := ⟨_, rfl⟩
  have hb : Below w.heap.size w w1 := by rw [← hw1]; exact ((Below.refl _ _).alloc (Nat.le_refl _) _).alloc (by simp [go_sem]) _
  have HI : Hid (Whole w1 w.heap.size 78 #[.int .i64 11, .int .i64 ty, .int .i64 dst, .slice A n c, .int .i64 imm, .int .i64 sym, .int .i64 el, .bool nw]) := by show Whole _ _ _ _; rw [← hw1]; exact (Whole.new w _ _).alloc _
  have i0 : w1.cell? ⟨w.heap.size, 0, none⟩ = some (.int .i64 11) := HI.out.cell 0
  have i3 : w1.cell? ⟨w.heap.size, 3, none⟩ = some (.slice A n c) := HI.out.cell 3
  have HB := hide hb
  go_enter Tryd.func67, Tryd.ntmps67
  go_upto_region 1 with fail
  clear hb hw1
  go_wp2_with fail
  all_goals
    refine bodyPost_ret (v := .tuple #[.int .i64 (rcnt 11 n), .bool (rcok 11 n)]) ?_ rfl ⟨rfl, HB.out⟩
    first | (simp [results, Tryd.f67, go_sem]; done) | (simp [results, Tryd.f67, go_sem]; exact ⟨rfl, rfl⟩)
set_option maxRecDepth 100000 in
theorem rcount_12 (ty dst imm sym el : Int) (A GA FA : Option Addr) (n c gn gc fn fc : Nat) (nw : Bool) (w : World) : Calls Tryd.prog 67 #[.agg #[.int .i64 12, .int .i64 ty, .int .i64 dst, .slice A n c, .int .i64 imm, .int .i64 sym, .int .i64 el, .bool nw], .agg #[.slice GA gn gc, .slice FA fn fc]] w fun e w' => e = .returned (.tuple #[.int .i64 (rcnt 12 n), .bool (rcok 12 n)]) ∧ Below w.heap.size w w' := by
  obtain ⟨w1, hw1⟩ : ∃ z, (w.alloc (.cells #[.int .i64 12, .int .i64 ty, .int .i64 dst, .slice A n c, .int .i64 imm, .int .i64 sym, .int .i64 el, .bool nw] 78)).alloc (.cells #[.slice GA gn gc, .slice FA fn fc] 32) = z := ⟨_, rfl⟩
  have hb : Below w.heap.size w w1 := by rw [← hw1]; exact ((Below.refl _ _).alloc (Nat.le_refl _) _).alloc (by simp [go_sem]) _
  have HI : Hid (Whole w1 w.heap.size 78 #[.int .i64 12, .int .i64 ty, .int .i64 dst, .slice A n c, .int .i64 imm, .int .i64 sym, .int .i64 el, .bool nw]) := by show Whole _ _ _ _; rw [← hw1]; exact (Whole.new w _ _).alloc _
  have i0 : w1.cell? ⟨w.heap.size, 0, none⟩ = some (.int .i64 12) := HI.out.cell 0
  have i3 : w1.cell? ⟨w.heap.size, 3, none⟩ = some (.slice A n c) := HI.out.cell 3
  have HB := hide hb
  go_enter Tryd.func67, Tryd.ntmps67
  go_upto_region 1 with fail
  clear hb hw1
  go_wp2_with fail
  all_goals
    refine bodyPost_ret (v := .tuple #[.int .i64 (rcnt 12 n), .bool (rcok 12 n)]) ?_ rfl ⟨rfl, HB.out⟩
    first | (simp [results, Tryd.f67, go_sem]; done) | (simp [results, Tryd.f67, go_sem]; exact ⟨rfl, rfl⟩)
set_option maxRecDepth 100000 in
theorem rcount_13 (ty dst imm sym el : Int) (A GA FA : Option Addr) (n c gn gc fn fc : Nat) (nw : Bool) (w : World) : Calls Tryd.prog 67 #[.agg #[.int .i64 13, .int .i64 ty, .int .i64 dst, .slice A n c, .int .i64 imm, .int .i64 sym, .int .i64 el, .bool nw], .agg #[.slice GA gn gc, .slice FA fn fc]] w fun e w' => e = .returned (.tuple #[.int .i64 (rcnt 13 n), .bool (rcok 13 n)]) ∧ Below w.heap.size w w' := by
  obtain ⟨w1, hw1⟩ : ∃ z, (w.alloc (.cells #[.int .i64 13, .int .i64 ty, .int .i64 dst, .slice A n c, .int .i64 imm, .int .i64 sym, .int .i64 el, .bool nw] 78)).alloc (.cells #[.slice GA gn gc, .slice FA fn fc] 32) = z := ⟨_, rfl⟩
  have hb : Below w.heap.size w w1 := by rw [← hw1]; exact ((Below.refl _ _).alloc (Nat.le_refl _) _).alloc (by simp [go_sem]) _
  have HI : Hid (Whole w1 w.heap.size 78 #[.int .i64 13, .int .i64 ty, .int .i64 dst, .slice A n c, .int .i64 imm, .int .i64 sym, .int .i64 el, .bool nw]) := by show Whole _ _ _ _; rw [← hw1]; exact (Whole.new w _ _).alloc _
  have i0 : w1.cell? ⟨w.heap.size, 0, none⟩ = some (.int .i64 13) := HI.out.cell 0
  have i3 : w1.cell? ⟨w.heap.size, 3, none⟩ = some (.slice A n c) := HI.out.cell 3
  have HB := hide hb
  go_enter Tryd.func67, Tryd.ntmps67
  go_upto_region 1 with fail
  clear hb hw1
  go_wp2_with fail
  all_goals
    refine bodyPost_ret (v := .tuple #[.int .i64 (rcnt 13 n), .bool (rcok 13 n)]) ?_ rfl ⟨rfl, HB.out⟩
    first | (simp [results, Tryd.f67, go_sem]; done) | (simp [results, Tryd.f67, go_sem]; exact ⟨rfl, rfl⟩)
set_option maxRecDepth 100000 in
theorem rcount_14 (ty dst imm sym el : Int) (A GA FA : Option Addr) (n c gn gc fn fc : Nat) (nw : Bool) (w : World) : Calls Tryd.prog 67 #[.agg #[.int .i64 14, .int .i64 ty, .int .i64 dst, .slice A n c, .int .i64 imm, .int .i64 sym, .int .i64 el, .bool nw], .agg #[.slice GA gn gc, .slice FA fn fc]] w fun e w' => e = .returned (.tuple #[.int .i64 (rcnt 14 n), .bool (rcok 14 n)]) ∧ Below w.heap.size w w' := by
  obtain ⟨w1, hw1⟩ : ∃ z, (w.alloc (.cells #[.int .i64 14, .int .i64 ty, .int .i64 dst, .slice A n c, .int .i64 imm, .int .i64 sym, .int .i64 el, .bool nw] 78)).alloc (.cells #[.slice GA gn gc, .slice FA fn fc] 32) = z := ⟨_, rfl⟩
  have hb : Below w.heap.size w w1 := by rw [← hw1]; exact ((Below.refl _ _).alloc (Nat.le_refl _) _).alloc (by simp [go_sem]) _
  have HI : Hid (Whole w1 w.heap.size 78 #[.int .i64 14, .int .i64 ty, .int .i64 dst, .slice A n c, .int .i64 imm, .int .i64 sym, .int .i64 el, .bool nw]) := by show Whole _ _ _ _; rw [← hw1]; exact (Whole.new w _ _).alloc _
  have i0 : w1.cell? ⟨w.heap.size, 0, none⟩ = some (.int .i64 14) := HI.out.cell 0
  have i3 : w1.cell? ⟨w.heap.size, 3, none⟩ = some (.slice A n c) := HI.out.cell 3
  have HB := hide hb
  go_enter Tryd.func67, Tryd.ntmps67
  go_upto_region 1 with fail
  clear hb hw1
  go_wp2_with fail
  all_goals
    refine bodyPost_ret (v := .tuple #[.int .i64 (rcnt 14 n), .bool (rcok 14 n)]) ?_ rfl ⟨rfl, HB.out⟩
    first | (simp [results, Tryd.f67, go_sem]; done) | (simp [results, Tryd.f67, go_sem]; exact ⟨rfl, rfl⟩)
set_option maxRecDepth 100000 in
theorem rcount_15 (ty dst imm sym el : Int) (A GA FA : Option Addr) (n c gn gc fn fc : Nat) (nw : Bool) (w : World) : Calls Tryd.prog 67 #[.agg #[.int .i64 15, .int .i64 ty, .int .i64 dst, .slice A n c, .int .i64 imm, .int .i64 sym, .int .i64 el, .bool nw], .agg #[.slice GA gn gc, .slice FA fn fc]] w fun e w' => e = .returned (.tuple #[.int .i64 (rcnt 15 n), .bool (rcok 15 n)]) ∧ Below w.heap.size w w' := by
  obtain ⟨w1, hw1⟩ : ∃ z, (w.alloc (.cells #[.int .i64 15, .int .i64 ty, .int .i64 dst, .slice A n c, .int .i64 imm, .int .i64 sym, .int .i64 el, .bool nw] 78)).alloc (.cells #[.slice GA gn gc, .slice FA fn fc] 32) = z := ⟨_, rfl⟩
  have hb : Below w.heap.size w w1 := by rw [← hw1]; exact ((Below.refl _ _).alloc (Nat.le_refl _) _).alloc (by simp [go_sem]) _
  have HI : Hid (Whole w1 w.heap.size 78 #[.int .i64 15, .int .i64 ty, .int .i64 dst, .slice A n c, .int .i64 imm, .int .i64 sym, .int .i64 el, .bool nw]) := by show Whole _ _ _ _; rw [← hw1]; exact (Whole.new w _ _).alloc _
  have i0 : w1.cell? ⟨w.heap.size, 0, none⟩ = some (.int .i64 15) := HI.out.cell 0
  have i3 : w1.cell? ⟨w.heap.size, 3, none⟩ = some (.slice A n c) := HI.out.cell 3
  have HB := hide hb
  go_enter Tryd.func67, Tryd.ntmps67
  go_upto_region 1 with fail
  clear hb hw1
  go_wp2_with fail
  all_goals
    refine bodyPost_ret (v := .tuple #[.int .i64 (rcnt 15 n), .bool (rcok 15 n)]) ?_ rfl ⟨rfl, HB.out⟩
    first | (simp [results, Tryd.f67, go_sem]; done) | (simp [results, Tryd.f67, go_sem]; exact ⟨rfl, rfl⟩)
set_option maxRecDepth 100000 in
theorem rcount_16 (ty dst imm sym el : Int) (A GA FA : Option Addr) (n c gn gc fn fc : Nat) (nw : Bool) (w : World) : Calls Tryd.prog 67 #[.agg #[.int .i64 16, .int .i64 ty, .int .i64 dst, .slice A n c, .int .i64 imm, .int .i64 sym, .int .i64 el, .bool nw], .agg #[.slice GA gn gc, .slice FA fn fc]] w fun e w' => e = .returned (.tuple #[.int .i64 (rcnt 16 n), .bool (rcok 16 n)]) ∧ Below w.heap.size w w' := by
  obtain ⟨w1, hw1⟩ : ∃ z, (w.alloc (.cells #[.int .i64 16, .int .i64 ty, .int .i64 dst, .slice A n c, .int .i64 imm, .int .i64 sym, .int .i64 el, .bool nw] 78)).alloc (.cells #[.slice GA gn gc, .slice FA fn fc] 32) = z := ⟨_, rfl⟩
  have hb : Below w.heap.size w w1 := by rw [← hw1]; exact ((Below.refl _ _).alloc (Nat.le_refl _) _).alloc (by simp [go_sem]) _
  have HI : Hid (Whole w1 w.heap.size 78 #[.int .i64 16, .int .i64 ty, .int .i64 dst, .slice A n c, .int .i64 imm, .int .i64 sym, .int .i64 el, .bool nw]) := by show Whole _ _ _ _; rw [← hw1]; exact (Whole.new w _ _).alloc _
  have i0 : w1.cell? ⟨w.heap.size, 0, none⟩ = some (.int .i64 16) := HI.out.cell 0
  have i3 : w1.cell? ⟨w.heap.size, 3, none⟩ = some (.slice A n c) := HI.out.cell 3
  have HB := hide hb
  go_enter Tryd.func67, Tryd.ntmps67
  go_upto_region 1 with fail
  clear hb hw1
  go_wp2_with fail
  all_goals
    refine bodyPost_ret (v := .tuple #[.int .i64 (rcnt 16 n), .bool (rcok 16 n)]) ?_ rfl ⟨rfl, HB.out⟩
    first | (simp [results, Tryd.f67, go_sem]; done) | (simp [results, Tryd.f67, go_sem]; exact ⟨rfl, rfl⟩)
set_option maxRecDepth 100000 in
theorem rcount_17 (ty dst imm sym el : Int) (A GA FA : Option Addr) (n c gn gc fn fc : Nat) (nw : Bool) (w : World) : Calls Tryd.prog 67 #[.agg #[.int .i64 17, .int .i64 ty, .int .i64 dst, .slice A n c, .int .i64 imm, .int .i64 sym, .int .i64 el, .bool nw], .agg #[.slice GA gn gc, .slice FA fn fc]] w fun e w' => e = .returned (.tuple #[.int .i64 (rcnt 17 n), .bool (rcok 17 n)]) ∧ Below w.heap.size w w' := by
  obtain ⟨w1, hw1⟩ : ∃ z, (w.alloc (.cells #[.int .i64 17, .int .i64 ty, .int .i64 dst, .slice A n c, .int .i64 imm, .int .i64 sym, .int .i64 el, .bool nw] 78)).alloc (.cells #[.slice GA gn gc, .slice FA fn fc] 32) = z := ⟨_, rfl⟩
  have hb : Below w.heap.size w w1 := by rw [← hw1]; exact ((Below.refl _ _).alloc (Nat.le_refl _) _).alloc (by simp [go_sem]) _
  have HI : Hid (Whole w1 w.heap.size 78 #[.int .i64 17, .int .i64 ty, .int .i64 dst, .slice A n c, .int .i64 imm, .int .i64 sym, .int .i64 el, .bool nw]) := by show Whole _ _ _ _; rw [← hw1]; exact (Whole.new w _ _).alloc _
  have i0 : w1.cell? ⟨w.heap.size, 0, none⟩ = some (.int .i64 17) := HI.out.cell 0
  have i3 : w1.cell? ⟨w.heap.size, 3, none⟩ = some (.slice A n c) := HI.out.cell 3
  have HB := hide hb
  go_enter Tryd.func67, Tryd.ntmps67
  go_upto_region 1 with fail
  clear hb hw1
  go_wp2_with fail
  all_goals
    refine bodyPost_ret (v := .tuple #[.int .i64 (rcnt 17 n), .bool (rcok 17 n)]) ?_ rfl ⟨rfl, HB.out⟩
    first | (simp [results, Tryd.f67, go_sem]; done) | (simp [results, Tryd.f67, go_sem]; exact ⟨rfl, rfl⟩)
set_option maxRecDepth 100000 in
theorem rcount_18 (ty dst imm sym el : Int) (A GA FA : Option Addr) (n c gn gc fn fc : Nat) (nw : Bool) (w : World) : Calls Tryd.prog 67 #[.agg #[.int .i64 18, .int .i64 ty, .int .i64 dst, .slice A n c, .int .i64 imm, .int .i64 sym, .int .i64 el, .bool nw], .agg #[.slice GA gn gc, .slice FA fn fc]] w fun e w' => e = .returned (.tuple #[.int .i64 (rcnt 18 n), .bool (rcok 18 n)]) ∧ Below w.heap.size w w' := by
  obtain ⟨w1, hw1⟩ : ∃ z, (w.alloc (.cells #[.int .i64 18, .int .i64 ty, .int .i64 dst, .slice A n c, .int .i64 imm, .int .i64 sym, .int .i64 el, .bool nw] 78)).alloc (.cells #[.slice GA gn gc, .slice FA fn fc] 32) = z := ⟨_, rfl⟩
  have hb : Below w.heap.size w w1 := by rw [← hw1]; exact ((Below.refl _ _).alloc (Nat.le_refl _) _).alloc (by simp [go_sem]) _
  have HI : Hid (Whole w1 w.heap.size 78 #[.int .i64 18, .int .i64 ty, .int .i64 dst, .slice A n c, .int .i64 imm, .int .i64 sym, .int .i64 el, .bool nw]) := by show Whole _ _ _ _; rw [← hw1]; exact (Whole.new w _ _).alloc _
  have i0 : w1.cell? ⟨w.heap.size, 0, none⟩ = some (.int .i64 18) := HI.out.cell 0
  have i3 : w1.cell? ⟨w.heap.size, 3, none⟩ = some (.slice A n c) := HI.out.cell 3
  have HB := hide hb
  go_enter Tryd.func67, Tryd.ntmps67
  go_upto_region 1 with fail
  clear hb hw1
  go_wp2_with fail
  all_goals
    refine bodyPost_ret (v := .tuple #[.int .i64 (rcnt 18 n), .bool (rcok 18 n)]) ?_ rfl ⟨rfl, HB.out⟩
    first | (simp [results, Tryd.f67, go_sem]; done) | (simp [results, Tryd.f67, go_sem]; exact ⟨rfl, rfl⟩)
set_option maxRecDepth 100000 in
theorem rcount_19 (ty dst imm sym el : Int) (A GA FA : Option Addr) (n c gn gc fn fc : Nat) (nw : Bool) (w : World) : Calls Tryd.prog 67 #[.agg #[.int .i64 19, .int .i64 ty, .int .i64 dst, .slice A n c, .int .i64 imm, .int .i64 sym, .int .i64 el, .bool nw], .agg #[.slice GA gn gc, .slice FA fn fc]] w fun e w' => e = .returned (.tuple #[.int .i64 (rcnt 19 n), .bool (rcok 19 n)]) ∧ Below w.heap.size w w' := by
  obtain ⟨w1, hw1⟩ : ∃ z, (w.alloc (.cells #[.int .i64 19, .int .i64 ty, .int .i64 dst, .slice A n c, .int .i64 imm, .int .i64 sym, .int .i64 el, .bool nw] 78)).alloc (.cells #[.slice GA gn gc, .slice FA fn fc] 32) = z := ⟨_, rfl⟩
  have hb : Below w.heap.size w w1 := by rw [← hw1]; exact ((Below.refl _ _).alloc (Nat.le_refl _) _).alloc (by simp [go_sem]) _
  have HI : Hid (Whole w1 w.heap.size 78 #[.int .i64 19, .int .i64 ty, .int .i64 dst, .slice A n c, .int .i64 imm, .int .i64 sym, .int .i64 el, .bool nw]) := by show Whole _ _ _ _; rw [← hw1]; exact (Whole.new w _ _).alloc _
  have i0 : w1.cell? ⟨w.heap.size, 0, none⟩ = some (.int .i64 19) := HI.out.cell 0
  have i3 : w1.cell? ⟨w.heap.size, 3, none⟩ = some (.slice A n c) := HI.out.cell 3
  have HB := hide hb
  go_enter Tryd.func67, Tryd.ntmps67
  go_upto_region 1 with fail
  clear hb hw1
  go_wp2_with fail
  all_goals
    refine bodyPost_ret (v := .tuple #[.int .i64 (rcnt 19 n), .bool (rcok 19 n)]) ?_ rfl ⟨rfl, HB.out⟩
    first | (simp [results, Tryd.f67, go_sem]; done) | (simp [results, Tryd.f67, go_sem]; exact ⟨rfl, rfl⟩)
set_option maxRecDepth 100000 in
theorem rcount_20 (ty dst imm sym el : Int) (A GA FA : Option Addr) (n c gn gc fn fc : Nat) (nw : Bool) (w : World) : Calls Tryd.prog 67 #[.agg #[.int .i64 20, .int .i64 ty, .int .i64 dst, .slice A n c, .int .i64 imm, .int .i64 sym, .int .i64 el, .bool nw], .agg #[.slice GA gn gc, .slice FA fn fc]] w fun e w' => e = .returned (.tuple #[.int .i64 (rcnt 20 n), .bool (rcok 20 n)]) ∧ Below w.heap.size w w' := by
  obtain ⟨w1, hw1⟩ : ∃ z, (w.alloc (.cells #[.int .i64 20, .int .i64 ty, .int .i64 dst, .slice A n c, .int .i64 imm, .int .i64 sym, .int .i64 el, .bool nw] 78)).alloc (.cells #[.slice GA gn gc, .slice FA fn fc] 32) = z := ⟨_, rfl⟩
  have hb : Below w.heap.size w w1 := by rw [← hw1]; exact ((Below.refl _ _).alloc (Nat.le_refl _) _).alloc (by simp [go_sem]) _
  have HI : Hid (Whole w1 w.heap.size 78 #[.int .i64 20, .int .i64 ty, .int .i64 dst, .slice A n c, .int .i64 imm, .int .i64 sym, .int .i64 el, .bool nw]) := by show Whole _ _ _ _; rw [← hw1]; exact (Whole.new w _ _).alloc _
  have i0 : w1.cell? ⟨w.heap.size, 0, none⟩ = some (.int .i64 20) := HI.out.cell 0
  have i3 : w1.cell? ⟨w.heap.size, 3, none⟩ = some (.slice A n c) := HI.out.cell 3
  have HB := hide hb
  go_enter Tryd.func67, Tryd.ntmps67
  go_upto_region 1 with fail
  clear hb hw1
  go_wp2_with fail
  all_goals
    refine bodyPost_ret (v := .tuple #[.int .i64 (rcnt 20 n), .bool (rcok 20 n)]) ?_ rfl ⟨rfl, HB.out⟩
    first | (simp [results, Tryd.f67, go_sem]; done) | (simp [results, Tryd.f67, go_sem]; exact ⟨rfl, rfl⟩)
set_option maxRecDepth 100000 in
theorem rcount_21 (ty dst imm sym el : Int) (A GA FA : Option Addr) (n c gn gc fn fc : Nat) (nw : Bool) (w : World) : Calls Tryd.prog 67 #[.agg #[.int .i64 21, .int .i64 ty, .int .i64 dst, .slice A n c, .int .i64 imm, .int .i64 sym, .int .i64 el, .bool nw], .agg #[.slice GA gn gc, .slice FA fn fc]] w fun e w' => e = .returned (.tuple #[.int .i64 (rcnt 21 n), .bool (rcok 21 n)]) ∧ Below w.heap.size w w' := by
  obtain ⟨w1, hw1⟩ : ∃ z, (w.alloc (.cells #[.int .i64 21, .int .i64 ty, .int .i64 dst, .slice A n c, .int .i64 imm, .int .i64 sym, .int .i64 el, .bool nw] 78)).alloc (.cells #[.slice GA gn gc, .slice FA fn fc] 32) = z := ⟨_, rfl⟩
  have hb : Below w.heap.size w w1 := by rw [← hw1]; exact ((Below.refl _ _).alloc (Nat.le_refl _) _).alloc (by simp [go_sem]) _
  have HI : Hid (Whole w1 w.heap.size 78 #[.int .i64 21, .int .i64 ty, .int .i64 dst, .slice A n c, .int .i64 imm, .int .i64 sym, .int .i64 el, .bool nw]) := by show Whole _ _ _ _; rw [← hw1]; exact (Whole.new w _ _).alloc _
  have i0 : w1.cell? ⟨w.heap.size, 0, none⟩ = some (.int .i64 21) := HI.out.cell 0
  have i3 : w1.cell? ⟨w.heap.size, 3, none⟩ = some (.slice A n c) := HI.out.cell 3
  have HB := hide hb
  go_enter Tryd.func67, Tryd.ntmps67
  go_upto_region 1 with fail
  clear hb hw1
  go_wp2_with fail
  all_goals
    refine bodyPost_ret (v := .tuple #[.int .i64 (rcnt 21 n), .bool (rcok 21 n)]) ?_ rfl ⟨rfl, HB.out⟩
    first | (simp [results, Tryd.f67, go_sem]; done) | (simp [results, Tryd.f67, go_sem]; exact ⟨rfl, rfl⟩)
set_option maxRecDepth 100000 in
theorem rcount_22 (ty dst imm sym el : Int) (A GA FA : Option Addr) (n c gn gc fn fc : Nat) (nw : Bool) (w : World) : Calls Tryd.prog 67 #[.agg #[.int .i64 22, .int .i64 ty, .int .i64 dst, .slice A n c, .int .i64 imm, .int .i64 sym, .int .i64 el, .bool nw], .agg #[.slice GA gn gc, .slice FA fn fc]] w fun e w' => e = .returned (.tuple #[.int .i64 (rcnt 22 n), .bool (rcok 22 n)]) ∧ Below w.heap.size w w' := by
  obtain ⟨w1, hw1⟩ : ∃ z, (w.alloc (.cells #[.int .i64 22, .int .i64 ty, .int .i64 dst, .slice A n c, .int .i64 imm, .int .i64 sym, .int .i64 el, .bool nw] 78)).alloc (.cells #[.slice GA gn gc, .slice FA fn fc] 32) = z := ⟨_, rfl⟩
  have hb : Below w.heap.size w w1 := by rw [← hw1]; exact ((Below.refl _ _).alloc (Nat.le_refl _) _).alloc (by simp [go_sem]) _
  have HI : Hid (Whole w1 w.heap.size 78 #[.int .i64 22, .int .i64 ty, .int .i64 dst, .slice A n c, .int .i64 imm, .int .i64 sym, .int .i64 el, .bool nw]) := by show Whole _ _ _ _; rw [← hw1]; exact (Whole.new w _ _).alloc _
  have i0 : w1.cell? ⟨w.heap.size, 0, none⟩ = some (.int .i64 22) := HI.out.cell 0
  have i3 : w1.cell? ⟨w.heap.size, 3, none⟩ = some (.slice A n c) := HI.out.cell 3
  have HB := hide hb
  go_enter Tryd.func67, Tryd.ntmps67
  go_upto_region 1 with fail
  clear hb hw1
  go_wp2_with fail
  all_goals
    refine bodyPost_ret (v := .tuple #[.int .i64 (rcnt 22 n), .bool (rcok 22 n)]) ?_ rfl ⟨rfl, HB.out⟩
    first | (simp [results, Tryd.f67, go_sem]; done) | (simp [results, Tryd.f67, go_sem]; exact ⟨rfl, rfl⟩)
set_option maxRecDepth 100000 in
theorem rcount_23 (ty dst imm sym el : Int) (A GA FA : Option Addr) (n c gn gc fn fc : Nat) (nw : Bool) (w : World) : Calls Tryd.prog 67 #[.agg #[.int .i64 23, .int .i64 ty, .int .i64 dst, .slice A n c, .int .i64 imm, .int .i64 sym, .int .i64 el, .bool nw], .agg #[.slice GA gn gc, .slice FA fn fc]] w fun e w' => e = .returned (.tuple #[.int .i64 (rcnt 23 n), .bool (rcok 23 n)]) ∧ Below w.heap.size w w' := by
  obtain ⟨w1, hw1⟩ : ∃ z, (w.alloc (.cells #[.int .i64 23, .int .i64 ty, .int .i64 dst, .slice A n c, .int .i64 imm, .int .i64 sym, .int .i64 el, .bool nw] 78)).alloc (.cells #[.slice GA gn gc, .slice FA fn fc] 32) = z := ⟨_, rfl⟩
  have hb : Below w.heap.size w w1 := by rw [← hw1]; exact ((Below.refl _ _).alloc (Nat.le_refl _) _).alloc (by simp [go_sem]) _
  have HI : Hid (Whole w1 w.heap.size 78 #[.int .i64 23, .int .i64 ty, .int .i64 dst, .slice A n c, .int .i64 imm, .int .i64 sym, .int .i64 el, .bool nw]) := by show Whole _ _ _ _; rw [← hw1]; exact (Whole.new w _ _).alloc _
  have i0 : w1.cell? ⟨w.heap.size, 0, none⟩ = some (.int .i64 23) := HI.out.cell 0
  have i3 : w1.cell? ⟨w.heap.size, 3, none⟩ = some (.slice A n c) := HI.out.cell 3
  have HB := hide hb
  go_enter Tryd.func67, Tryd.ntmps67
  go_upto_region 1 with fail
  clear hb hw1
  go_wp2_with fail
  all_goals
    refine bodyPost_ret (v := .tuple #[.int .i64 (rcnt 23 n), .bool (rcok 23 n)]) ?_ rfl ⟨rfl, HB.out⟩
    first | (simp [results, Tryd.f67, go_sem]; done) | (simp [results, Tryd.f67, go_sem]; exact ⟨rfl, rfl⟩)
set_option maxRecDepth 100000 in
theorem rcount_24 (ty dst imm sym el : Int) (A GA FA : Option Addr) (n c gn gc fn fc : Nat) (nw : Bool) (w : World) : Calls Tryd.prog 67 #[.agg #[.int .i64 24, .int .i64 ty, .int .i64 dst, .slice A n c, .int .i64 imm, .int .i64 sym, .int .i64 el, .bool nw], .agg #[.slice GA gn gc, .slice FA fn fc]] w fun e w' => e = .returned (.tuple #[.int .i64 (rcnt 24 n), .bool (rcok 24 n)]) ∧ Below w.heap.size w w' := by
  obtain ⟨w1, hw1⟩ : ∃ z, (w.alloc (.cells #[.int .i64 24, .int .i64 ty, .int .i64 dst, .slice A n c, .int .i64 imm, .int .i64 sym, .int .i64 el, .bool nw] 78)).alloc (.cells #[.slice GA gn gc, .slice FA fn fc] 32) = z := ⟨_, rfl⟩
  have hb : Below w.heap.size w w1 := by rw [← hw1]; exact ((Below.refl _ _).alloc (Nat.le_refl _) _).alloc (by simp [go_sem]) _
  have HI : Hid (Whole w1 w.heap.size 78 #[.int .i64 24, .int .i64 ty, .int .i64 dst, .slice A n c, .int .i64 imm, .int .i64 sym, .int .i64 el, .bool nw]) := by show Whole _ _ _ _; rw [← hw1]; exact (Whole.new w _ _).alloc _
  have i0 : w1.cell? ⟨w.heap.size, 0, none⟩ = some (.int .i64 24) := HI.out.cell 0
  have i3 : w1.cell? ⟨w.heap.size, 3, none⟩ = some (.slice A n c) := HI.out.cell 3
  have HB := hide hb
  go_enter Tryd.func67, Tryd.ntmps67
  go_upto_region 1 with fail
  clear hb hw1
  go_wp2_with fail
  all_goals
    refine bodyPost_ret (v := .tuple #[.int .i64 (rcnt 24 n), .bool (rcok 24 n)]) ?_ rfl ⟨rfl, HB.out⟩
    first | (simp [results, Tryd.f67, go_sem]; done) | (simp [results, Tryd.f67, go_sem]; exact ⟨rfl, rfl⟩)
set_option maxRecDepth 100000 in
theorem rcount_25 (ty dst imm sym el : Int) (A GA FA : Option Addr) (n c gn gc fn fc : Nat) (nw : Bool) (w : World) : Calls Tryd.prog 67 #[.agg #[.int .i64 25, .int .i64 ty, .int .i64 dst, .slice A n c, .int .i64 imm, .int .i64 sym, .int .i64 el, .bool nw], .agg #[.slice GA gn gc, .slice FA fn fc]] w fun e w' => e = .returned (.tuple #[.int .i64 (rcnt 25 n), .bool (rcok 25 n)]) ∧ Below w.heap.size w w' := by
  obtain ⟨w1, hw1⟩ : ∃ z, (w.alloc (.cells #[.int .i64 25, .int .i64 ty, .int .i64 dst, .slice A n c, .int .i64 imm, .int .i64 sym, .int .i64 el, .bool nw] 78)).alloc (.cells #[.slice GA gn gc, .slice FA fn fc] 32) = z := ⟨_, rfl⟩
  have hb : Below w.heap.size w w1 := by rw [← hw1]; exact ((Below.refl _ _).alloc (Nat.le_refl _) _).alloc (by simp [go_sem]) _
  have HI : Hid (Whole w1 w.heap.size 78 #[.int .i64 25, .int .i64 ty, .int .i64 dst, .slice A n c, .int .i64 imm, .int .i64 sym, .int .i64 el, .bool nw]) := by show Whole _ _ _ _; rw [← hw1]; exact (Whole.new w _ _).alloc _
  have i0 : w1.cell? ⟨w.heap.size, 0, none⟩ = some (.int .i64 25) := HI.out.cell 0
  have i3 : w1.cell? ⟨w.heap.size, 3, none⟩ = some (.slice A n c) := HI.out.cell 3
  have HB := hide hb
  go_enter Tryd.func67, Tryd.ntmps67
  go_upto_region 1 with fail
  clear hb hw1
  go_wp2_with fail
  all_goals
    refine bodyPost_ret (v := .tuple #[.int .i64 (rcnt 25 n), .bool (rcok 25 n)]) ?_ rfl ⟨rfl, HB.out⟩
    first | (simp [results, Tryd.f67, go_sem]; done) | (simp [results, Tryd.f67, go_sem]; exact ⟨rfl, rfl⟩)
set_option maxRecDepth 100000 in
theorem rcount_26 (ty dst imm sym el : Int) (A GA FA : Option Addr) (n c gn gc fn fc : Nat) (nw : Bool) (w : World) : Calls Tryd.prog 67 #[.agg #[.int .i64 26, .int .i64 ty, .int .i64 dst, .slice A n c, .int .i64 imm, .int .i64 sym, .int .i64 el, .bool nw], .agg #[.slice GA gn gc, .slice FA fn fc]] w fun e w' => e = .returned (.tuple #[.int .i64 (rcnt 26 n), .bool (rcok 26 n)]) ∧ Below w.heap.size w w' := by
  obtain ⟨w1, hw1⟩ : ∃ z, (w.alloc (.cells #[.int .i64 26, .int .i64 ty, .int .i64 dst, .slice A n c, .int .i64 imm, .int .i64 sym, .int .i64 el, .bool nw] 78)).alloc (.cells #[.slice GA gn gc, .slice FA fn fc] 32) = z := ⟨_, rfl⟩
  have hb : Below w.heap.size w w1 := by rw [← hw1]; exact ((Below.refl _ _).alloc (Nat.le_refl _) _).alloc (by simp [go_sem]) _
  have HI : Hid (Whole w1 w.heap.size 78 #[.int .i64 26, .int .i64 ty, .int .i64 dst, .slice A n c, .int .i64 imm, .int .i64 sym, .int .i64 el, .bool nw]) := by show Whole _ _ _ _; rw [← hw1]; exact (Whole.new w _ _).alloc _
  have i0 : w1.cell? ⟨w.heap.size, 0, none⟩ = some (.int .i64 26) := HI.out.cell 0
  have i3 : w1.cell? ⟨w.heap.size, 3, none⟩ = some (.slice A n c) := HI.out.cell 3
  have HB := hide hb
  go_enter Tryd.func67, Tryd.ntmps67
  go_upto_region 1 with fail
  clear hb hw1
  go_wp2_with fail
  all_goals
    refine bodyPost_ret (v := .tuple #[.int .i64 (rcnt 26 n), .bool (rcok 26 n)]) ?_ rfl ⟨rfl, HB.out⟩
    first | (simp [results, Tryd.f67, go_sem]; done) | (simp [results, Tryd.f67, go_sem]; exact ⟨rfl, rfl⟩)
set_option maxRecDepth 100000 in
theorem rcount_27 (ty dst imm sym el : Int) (A GA FA : Option Addr) (n c gn gc fn fc : Nat) (nw : Bool) (w : World) : Calls Tryd.prog 67 #[.agg #[.int .i64 27, .int .i64 ty, .int .i64 dst, .slice A n c, .int .i64 imm, .int .i64 sym, .int .i64 el, .bool nw], .agg #[.slice GA gn gc, .slice FA fn fc]] w fun e w' => e = .returned (.tuple #[.int .i64 (rcnt 27 n), .bool (rcok 27 n)]) ∧ Below w.heap.size w w' := by
  obtain ⟨w1, hw1⟩ : ∃ z, (w.alloc (.cells #[.int .i64 27, .int .i64 ty, .int .i64 dst, .slice A n c, .int .i64 imm, .int .i64 sym, .int .i64 el, .bool nw] 78)).alloc (.cells #[.slice GA gn gc, .slice FA fn fc] 32) = z := ⟨_, rfl⟩
  have hb : Below w.heap.size w w1 := by rw [← hw1]; exact ((Below.refl _ _).alloc (Nat.le_refl _) _).alloc (by simp [go_sem]) _
  have HI : Hid (Whole w1 w.heap.size 78 #[.int .i64 27, .int .i64 ty, .int .i64 dst, .slice A n c, .int .i64 imm, .int .i64 sym, .int .i64 el, .bool nw]) := by show Whole _ _ _ _; rw [← hw1]; exact (Whole.new w _ _).alloc _
  have i0 : w1.cell? ⟨w.heap.size, 0, none⟩ = some (.int .i64 27) := HI.out.cell 0
  have i3 : w1.cell? ⟨w.heap.size, 3, none⟩ = some (.slice A n c) := HI.out.cell 3
  have HB := hide hb
  go_enter Tryd.func67, Tryd.ntmps67
  go_upto_region 1 with fail
  clear hb hw1
  go_wp2_with fail
  all_goals
    refine bodyPost_ret (v := .tuple #[.int .i64 (rcnt 27 n), .bool (rcok 27 n)]) ?_ rfl ⟨rfl, HB.out⟩
    first | (simp [results, Tryd.f67, go_sem]; done) | (simp [results, Tryd.f67, go_sem]; exact ⟨rfl, rfl⟩)
set_option maxRecDepth 100000 in
theorem rcount_28 (ty dst imm sym el : Int) (A GA FA : Option Addr) (n c gn gc fn fc : Nat) (nw : Bool) (w : World) : Calls Tryd.prog 67 #[.agg #[.int .i64 28, .int .i64 ty, .int .i64 dst, .slice A n c, .int .i64 imm, .int .i64 sym, .int .i64 el, .bool nw], .agg #[.slice GA gn gc, .slice FA fn fc]] w fun e w' => e = .returned (.tuple #[.int .i64 (rcnt 28 n), .bool (rcok 28 n)]) ∧ Below w.heap.size w w' := by
  obtain ⟨w1, hw1⟩ : ∃ z, (w.alloc (.cells #[.int .i64 28, .int .i64 ty, .int .i64 dst, .slice A n c, .int .i64 imm, .int .i64 sym, .int .i64 el, .bool nw] 78)).alloc (.cells #[.slice GA gn gc, .slice FA fn fc] 32) = z := ⟨_, rfl⟩
  have hb : Below w.heap.size w w1 := by rw [← hw1]; exact ((Below.refl _ _).alloc (Nat.le_refl _) _).alloc (by simp [go_sem]) _
  have HI : Hid (Whole w1 w.heap.size 78 #[.int .i64 28, .int .i64 ty, .int .i64 dst, .slice A n c, .int .i64 imm, .int .i64 sym, .int .i64 el, .bool nw]) := by show Whole _ _ _ _; rw [← hw1]; exact (Whole.new w _ _).alloc _
  have i0 : w1.cell? ⟨w.heap.size, 0, none⟩ = some (.int .i64 28) := HI.out.cell 0
  have i3 : w1.cell? ⟨w.heap.size, 3, none⟩ = some (.slice A n c) := HI.out.cell 3
  have HB := hide hb
  go_enter Tryd.func67, Tryd.ntmps67
  go_upto_region 1 with fail
  clear hb hw1
  go_wp2_with fail
  all_goals
    refine bodyPost_ret (v := .tuple #[.int .i64 (rcnt 28 n), .bool (rcok 28 n)]) ?_ rfl ⟨rfl, HB.out⟩
    first | (simp [results, Tryd.f67, go_sem]; done) | (simp [results, Tryd.f67, go_sem]; exact ⟨rfl, rfl⟩)
set_option maxRecDepth 100000 in
theorem rcount_29 (ty dst imm sym el : Int) (A GA FA : Option Addr) (n c gn gc fn fc : Nat) (nw : Bool) (w : World) : Calls Tryd.prog 67 #[.agg #[.int .i64 29, .int .i64 ty, .int .i64 dst, .slice A n c, .int .i64 imm, .int .i64 sym, .int .i64 el, .bool nw], .agg #[.slice GA gn gc, .slice FA fn fc]] w fun e w' => e = .returned (.tuple #[.int .i64 (rcnt 29 n), .bool (rcok 29 n)]) ∧ Below w.heap.size w w' := by
  obtain ⟨w1, hw1⟩ : ∃ z, (w.alloc (.cells #[.int .i64 29, .int .i64 ty, .int .i64 dst, .slice A n c, .int .i64 imm, .int .i64 sym, .int .i64 el, .bool nw] 78)).alloc (.cells #[.slice GA gn gc, .slice FA fn fc] 32) = z := ⟨_, rfl⟩
  have hb : Below w.heap.size w w1 := by rw [← hw1]; exact ((Below.refl _ _).alloc (Nat.le_refl _) _).alloc (by simp [go_sem]) _
  have HI : Hid (Whole w1 w.heap.size 78 #[.int .i64 29, .int .i64 ty, .int .i64 dst, .slice A n c, .int .i64 imm, .int .i64 sym, .int .i64 el, .bool nw]) := by show Whole _ _ _ _; rw [← hw1]; exact (Whole.new w _ _).alloc _
  have i0 : w1.cell? ⟨w.heap.size, 0, none⟩ = some (.int .i64 29) := HI.out.cell 0
  have i3 : w1.cell? ⟨w.heap.size, 3, none⟩ = some (.slice A n c) := HI.out.cell 3
  have HB := hide hb
  go_enter Tryd.func67, Tryd.ntmps67
  go_upto_region 1 with fail
  clear hb hw1
  go_wp2_with fail
  all_goals
    refine bodyPost_ret (v := .tuple #[.int .i64 (rcnt 29 n), .bool (rcok 29 n)]) ?_ rfl ⟨rfl, HB.out⟩
    first | (simp [results, Tryd.f67, go_sem]; done) | (simp [results, Tryd.f67, go_sem]; exact ⟨rfl, rfl⟩)
set_option maxRecDepth 100000 in
theorem rcount_31 (ty dst imm sym el : Int) (A GA FA : Option Addr) (n c gn gc fn fc : Nat) (nw : Bool) (w : World) : Calls Tryd.prog 67 #[.agg #[.int .i64 31, .int .i64 ty, .int .i64 dst, .slice A n c, .int .i64 imm, .int .i64 sym, .int .i64 el, .bool nw], .agg #[.slice GA gn gc, .slice FA fn fc]] w fun e w' => e = .returned (.tuple #[.int .i64 (rcnt 31 n), .bool (rcok 31 n)]) ∧ Below w.heap.size w w' := by
  obtain ⟨w1, hw1⟩ : ∃ z, (w.alloc (.cells #[.int .i64 31, .int .i64 ty, .int .i64 dst, .slice A n c, .int .i64 imm, .int .i64 sym, .int .i64 el, .bool nw] 78)).alloc (.cells #[.slice GA gn gc, .slice FA fn fc] 32) = z := ⟨_, rfl⟩
  have hb : Below w.heap.size w w1 := by rw [← hw1]; exact ((Below.refl _ _).alloc (Nat.le_refl _) _).alloc (by simp [go_sem]) _
  have HI : Hid (Whole w1 w.heap.size 78 #[.int .i64 31, .int .i64 ty, .int .i64 dst, .slice A n c, .int .i64 imm, .int .i64 sym, .int .i64 el, .bool nw]) := by show Whole _ _ _ _; rw [← hw1]; exact (Whole.new w _ _).alloc _
  have i0 : w1.cell? ⟨w.heap.size, 0, none⟩ = some (.int .i64 31) := HI.out.cell 0
  have i3 : w1.cell? ⟨w.heap.size, 3, none⟩ = some (.slice A n c) := HI.out.cell 3
  have HB := hide hb
  go_enter Tryd.func67, Tryd.ntmps67
  go_upto_region 1 with fail
  clear hb hw1
  go_wp2_with fail
  all_goals
    refine bodyPost_ret (v := .tuple #[.int .i64 (rcnt 31 n), .bool (rcok 31 n)]) ?_ rfl ⟨rfl, HB.out⟩
    first | (simp [results, Tryd.f67, go_sem]; done) | (simp [results, Tryd.f67, go_sem]; exact ⟨rfl, rfl⟩)
set_option maxRecDepth 100000 in
theorem rcount_32 (ty dst imm sym el : Int) (A GA FA : Option Addr) (n c gn gc fn fc : Nat) (nw : Bool) (w : World) : Calls Tryd.prog 67 #[.agg #[.int .i64 32, .int .i64 ty, .int .i64 dst, .slice A n c, .int .i64 imm, .int .i64 sym, .int .i64 el, .bool nw], .agg #[.slice GA gn gc, .slice FA fn fc]] w fun e w' => e = .returned (.tuple #[.int .i64 (rcnt 32 n), .bool (rcok 32 n)]) ∧ Below w.heap.size w w' := by
  obtain ⟨w1, hw1⟩ : ∃ z, (w.alloc (.cells #[.int .i64 32, .int .i64 ty, .int .i64 dst, .slice A n c, .int .i64 imm, .int .i64 sym, .int .i64 el, .bool nw] 78)).alloc (.cells #[.slice GA gn gc, .slice FA fn fc] 32) = z := ⟨_, rfl⟩
  have hb : Below w.heap.size w w1 := by rw [← hw1]; exact ((Below.refl _ _).alloc (Nat.le_refl _) _).alloc (by simp [go_sem]) _
  have HI : Hid (Whole w1 w.heap.size 78 #[.int .i64 32, .int .i64 ty, .int .i64 dst, .slice A n c, .int .i64 imm, .int .i64 sym, .int .i64 el, .bool nw]) := by show Whole _ _ _ _; rw [← hw1]; exact (Whole.new w _ _).alloc _
  have i0 : w1.cell? ⟨w.heap.size, 0, none⟩ = some (.int .i64 32) := HI.out.cell 0
  have i3 : w1.cell? ⟨w.heap.size, 3, none⟩ = some (.slice A n c) := HI.out.cell 3
  have HB := hide hb
  obtain ⟨R, hR⟩ : ∃ R, rcok 32 n = R := ⟨_, rfl⟩
  have HR : Hid (decide (n = 2 ∨ n = 4) = R) := hide hR
  rw [hR, show rcnt 32 n = (n : Int) from rfl]
  clear hR
  cases g2 : ((n : Int) == 2) with
  | true =>
    obtain rfl : true = R := by rw [← HR.out]; symm; simp at g2 ⊢; omega
    go_enter Tryd.func67, Tryd.ntmps67
    go_upto_region 1 with fail
    clear hb hw1
    go_wp2_with fail
    go_quiet (fail)
    go_wp2_with fail
    refine bodyPost_ret (v := .tuple #[.int .i64 (n : Int), .bool true]) ?_ rfl ⟨rfl, Below.drewN' HB.out _⟩
    simp [results, Tryd.f67, go_sem]
  | false =>
    have g4 : ((n : Int) == 4) = R := by rw [← HR.out, Bool.eq_iff_iff]; simp at g2 ⊢; omega
    go_enter Tryd.func67, Tryd.ntmps67
    go_upto_region 1 with fail
    clear hb hw1
    go_wp2_with fail
    go_quiet (fail)
    go_wp2_with fail
    refine bodyPost_ret (v := .tuple #[.int .i64 (n : Int), .bool R]) ?_ rfl ⟨rfl, Below.drewN' HB.out _⟩
    simp [results, Tryd.f67, go_sem]
set_option maxRecDepth 100000 in
theorem rcount_33 (ty dst imm sym el : Int) (A GA FA : Option Addr) (n c gn gc fn fc : Nat) (nw : Bool) (w : World) : Calls Tryd.prog 67 #[.agg #[.int .i64 33, .int .i64 ty, .int .i64 dst, .slice A n c, .int .i64 imm, .int .i64 sym, .int .i64 el, .bool nw], .agg #[.slice GA gn gc, .slice FA fn fc]] w fun e w' => e = .returned (.tuple #[.int .i64 (rcnt 33 n), .bool (rcok 33 n)]) ∧ Below w.heap.size w w' := by
  obtain ⟨w1, hw1⟩ : ∃ z, (w.alloc (.cells #[.int .i64 33, .int .i64 ty, .int .i64 dst, .slice A n c, .int .i64 imm, .int .i64 sym, .int .i64 el, .bool nw] 78)).alloc (.cells #[.slice GA gn gc, .slice FA fn fc] 32) = z := ⟨_, rfl⟩
  have hb : Below w.heap.size w w1 := by rw [← hw1]; exact ((Below.refl _ _).alloc (Nat.le_refl _) _).alloc (by simp [go_sem]) _
  have HI : Hid (Whole w1 w.heap.size 78 #[.int .i64 33, .int .i64 ty, .int .i64 dst, .slice A n c, .int .i64 imm, .int .i64 sym, .int .i64 el, .bool nw]) := by show Whole _ _ _ _; rw [← hw1]; exact (Whole.new w _ _).alloc _
  have i0 : w1.cell? ⟨w.heap.size, 0, none⟩ = some (.int .i64 33) := HI.out.cell 0
  have i3 : w1.cell? ⟨w.heap.size, 3, none⟩ = some (.slice A n c) := HI.out.cell 3
  have HB := hide hb
  go_enter Tryd.func67, Tryd.ntmps67
  go_upto_region 1 with fail
  clear hb hw1
  go_wp2_with fail
  all_goals
    refine bodyPost_ret (v := .tuple #[.int .i64 (rcnt 33 n), .bool (rcok 33 n)]) ?_ rfl ⟨rfl, HB.out⟩
    first | (simp [results, Tryd.f67, go_sem]; done) | (simp [results, Tryd.f67, go_sem]; exact ⟨rfl, rfl⟩)
end Go.Proofs.YtnhaanjpcnnifaaDoor

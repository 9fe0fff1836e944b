/-
  Layer 14 (the reference): equalInstr, of what says the same.
-/
import Derived.Test.YtppglnkaoflljaaCfEq
import Derived.Test.YtppglnkaoflljaaCfFins
import Derived.Test.YtppglnkaoflljaaCfG
import Derived.Deep.RegionHeld3
import Derived.Deep.Cut
namespace Go.Proofs.Ytppglnkaoflljaa
open Go.RowKit Go.Deep

theorem eqsame_int (u v : Value) (l : List Int) (w : World) (hu : Rd w .i64 u l) (hv : Rd w .i64 v l) : Calls Try.prog 19 #[u, v] w fun e w' => e = .returned (.bool true) ∧ Below w.heap.size w w' :=
  (equal_int u v l l w hu hv).mono fun e w' ⟨h1, h2⟩ => ⟨by rw [h1, decide_eq_true rfl], h2⟩
theorem eqsame_ty (u v : Value) (l : List Int) (w : World) (hu : Rd w .i64 u l) (hv : Rd w .i64 v l) : Calls Try.prog 44 #[u, v] w fun e w' => e = .returned (.bool true) ∧ Below w.heap.size w w' :=
  (equal_ty u v l l w hu hv).mono fun e w' ⟨h1, h2⟩ => ⟨by rw [h1, decide_eq_true rfl], h2⟩
theorem eqsame_i64 (u v : Value) (l : List Int) (w : World) (hu : Rd w .i64 u l) (hv : Rd w .i64 v l) : Calls Try.prog 55 #[u, v] w fun e w' => e = .returned (.bool true) ∧ Below w.heap.size w w' :=
  (equal_i64 u v l l w hu hv).mono fun e w' ⟨h1, h2⟩ => ⟨by rw [h1, decide_eq_true rfl], h2⟩
set_option maxRecDepth 100000 in
set_option maxHeartbeats 4000000 in
theorem eqins_any (a b : InD) (w : World) (ha : a.ok w) (hb : b.ok w) (he : a.pure = b.pure) : Calls Try.prog 56 #[.agg a.cells.toArray, .agg b.cells.toArray] w fun e w' => e = .returned (.bool true) ∧ Below w.heap.size w w' := by
  have hargs : b.args = a.args := (congrArg InP.args he).symm
  obtain ⟨q, hq⟩ : ∃ q, w.heap.size = q := ⟨_, rfl⟩
  obtain ⟨w1, hw1⟩ : ∃ z, (w.alloc (.cells a.cells.toArray 70)).alloc (.cells b.cells.toArray 70) = z := ⟨_, rfl⟩
  have HB : Hid (Below w.heap.size w w1) := hide (by rw [← hw1]; exact ((Below.refl _ _).alloc (Nat.le_refl _) _).alloc (by simp) _)
  have HA : Hid (Whole w1 q 70 a.cells.toArray) := hide (by rw [← hw1, ← hq]; exact (Whole.new w _ _).alloc _)
  have HC : Hid (Whole w1 (q + 1) 70 b.cells.toArray) := hide (by
    rw [← hw1, ← hq, show w.heap.size + 1 = (w.alloc (.cells a.cells.toArray 70)).heap.size by simp]; exact Whole.new _ _ _)
  have hQ : Hid (w.heap.size = q) := hide hq
  have a0 : w1.cell? ⟨q, 0, none⟩ = some (.int .i64 a.op) := HA.out.cell 0
  have b0 : w1.cell? ⟨q + 1, 0, none⟩ = some (.int .i64 a.op) := by rw [show a.op = b.op from congrArg InP.op he]; exact HC.out.cell 0
  have a1 : w1.cell? ⟨q, 1, none⟩ = some (.int .i64 a.ty) := HA.out.cell 1
  have b1 : w1.cell? ⟨q + 1, 1, none⟩ = some (.int .i64 a.ty) := by rw [show a.ty = b.ty from congrArg InP.ty he]; exact HC.out.cell 1
  have a2 : w1.cell? ⟨q, 2, none⟩ = some (.int .i64 a.dst) := HA.out.cell 2
  have b2 : w1.cell? ⟨q + 1, 2, none⟩ = some (.int .i64 a.dst) := by rw [show a.dst = b.dst from congrArg InP.dst he]; exact HC.out.cell 2
  have a4 : w1.cell? ⟨q, 4, none⟩ = some (.int .i64 a.imm) := HA.out.cell 4
  have b4 : w1.cell? ⟨q + 1, 4, none⟩ = some (.int .i64 a.imm) := by rw [show a.imm = b.imm from congrArg InP.imm he]; exact HC.out.cell 4
  have a5 : w1.cell? ⟨q, 5, none⟩ = some (.int .i64 a.sym) := HA.out.cell 5
  have b5 : w1.cell? ⟨q + 1, 5, none⟩ = some (.int .i64 a.sym) := by rw [show a.sym = b.sym from congrArg InP.sym he]; exact HC.out.cell 5
  have a6 : w1.cell? ⟨q, 6, none⟩ = some (.int .i64 a.el) := HA.out.cell 6
  have b6 : w1.cell? ⟨q + 1, 6, none⟩ = some (.int .i64 a.el) := by rw [show a.el = b.el from congrArg InP.el he]; exact HC.out.cell 6
  have a7 : w1.cell? ⟨q, 7, none⟩ = some (.bool a.nw) := HA.out.cell 7
  have b7 : w1.cell? ⟨q + 1, 7, none⟩ = some (.bool a.nw) := by rw [show a.nw = b.nw from congrArg InP.nw he]; exact HC.out.cell 7
  have a3 : w1.cell? ⟨q, 3, none⟩ = some (.slice a.argsA a.args.length a.argsc) := HA.out.cell 3
  have b3 : w1.cell? ⟨q + 1, 3, none⟩ = some (.slice b.argsA a.args.length b.argsc) := by rw [← hargs]; exact HC.out.cell 3
  have HRa : Hid (Rd w1 .i64 (.slice a.argsA a.args.length a.argsc) a.args) := hide (ha.args.below' HB.out)
  have HRb : Hid (Rd w1 .i64 (.slice b.argsA a.args.length b.argsc) a.args) := hide (by have := hb.args.below' HB.out; rwa [hargs] at this)
  clear ha hb he hargs
  go_enter Try.func56, Try.ntmps56
  go_upto_region 1 with fail
  clear hw1 hq
  go_wp2_with (go_at_call 19; refine (eqsame_int _ _ a.args _ HRa.out HRb.out).mono ?_; rintro en w2 ⟨rfl, hb⟩; replace HB := hide (Below.all HB.out hb); clear hb)
  go_ret
  exact ⟨by first | rfl | simp, HB.out⟩
end Go.Proofs.Ytppglnkaoflljaa

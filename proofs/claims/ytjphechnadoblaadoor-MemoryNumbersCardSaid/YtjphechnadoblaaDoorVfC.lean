/-
  Layer 14 (verify): Module of a module without functions in which nothing is wrong.
-/
import Derived.Defers
import Derived.Recover
import Derived.Test.YtjphechnadoblaaDoorVfB
namespace Go.Proofs.YtjphechnadoblaaDoor
open Go.RowKit Go.Maps

set_option maxRecDepth 100000 in
theorem chksig_none (A : Option Addr) (c : Nat) (w : World) :
    Calls Tryd.prog 46 #[.slice A 0 c] w fun e w' => e = .returned (.tuple #[]) ∧ Below w.heap.size w w' := by
  go_enter Tryd.func46, Tryd.ntmps46
  go_wp2_with fail
  refine (part_any 2 (-1) _).mono ?_
  rintro en x1 ⟨rfl, hb1⟩
  go_wp2_with fail
  refine (failno_any _ _ _ _ _ _ _).mono ?_
  rintro en x2 ⟨rfl, hb2⟩
  go_wp2_with fail
  refine (repnew_any _).mono ?_
  rintro en x3 ⟨rfl, _, hb3⟩
  have HB := hide (Below.all hb1 (Below.all hb2 hb3))
  clear hb1 hb2 hb3
  go_wp2_with fail
  go_loopw [16] (fun v W => v = .int .i64 0 ∧ W = x3) (fun _ _ => 0)
  case atStart => exact ⟨rfl, rfl⟩
  case round =>
    obtain ⟨rfl, rfl⟩ := hrel
    go_wp2_with fail
    first
      | (go_end0; exact ⟨rfl, HB.out⟩)
      | (go_ret; exact ⟨rfl, HB.out⟩)
/-- What Module runs, for a module without functions. -/
theorem mod1_ok (GA FA : Option Addr) (gc fc mb : Nat) (gs : List GD) (h32 : gs.length ≤ 32) (hok : ∀ d ∈ gs, OkG d) (hdis : ∀ i d, gs[i]? = some d → inB (Bs d.nm) (seenL gs i) = false) (w : World) (hT : Tab w) (hG : GlobAt w GA gc gs)
    (hM : Whole w mb 25 #[.slice GA gs.length gc, .slice FA 0 fc]) :
    Calls Tryd.prog 44 #[.pointer (some ⟨mb, 0, none⟩)] w fun e w' => e = .returned (.tuple #[]) ∧ Below w.heap.size w w' := by
  have m0 := hM.cell 0
  have m1 := hM.cell 1
  have HM := hide hM
  have HC := hide (chkglob_ok GA gc gs h32 hok hdis w hT hG)
  clear hM hT hG hok hdis
  go_enter Tryd.func44, Tryd.ntmps44
  go_wp2_with fail
  refine HC.out.mono ?_
  rintro en x1 ⟨rfl, hb1⟩
  replace HM := hide (HM.out.below' hb1)
  have HB := hide hb1
  clear m0 m1 hb1
  have m1 : x1.cell? ⟨mb, 1, none⟩ = some (.slice FA 0 fc) := HM.out.cell 1
  go_wp2_with fail
  refine (chksig_none FA fc _).mono ?_
  rintro en x2 ⟨rfl, hb2⟩
  replace HM := hide (HM.out.below' hb2)
  replace HB := hide (Below.all HB.out hb2)
  clear m1 hb2
  have m1 : x2.cell? ⟨mb, 1, none⟩ = some (.slice FA 0 fc) := HM.out.cell 1
  go_wp2_with fail
  go_loopw [11] (fun v W => v = .int .i64 0 ∧ W = x2) (fun _ _ => 0)
  case atStart => exact ⟨rfl, rfl⟩
  case round =>
    obtain ⟨rfl, rfl⟩ := hrel
    go_wp2_with fail
    first
      | (go_end0; exact ⟨rfl, HB.out⟩)
      | (go_ret; exact ⟨rfl, HB.out⟩)
/-- What firstError defers, behind a check that found nothing. -/
theorem fe1_idle (p : Addr) (w : World) : CallsD Tryd.prog 65 #[.pointer (some p)] .returning w fun e u' w' => e = .returned (.tuple #[]) ∧ u' = .returning ∧ w' = w := by
  have hne : ∀ W : World, (binOp .neq 20 .nilIface .nilIface).run Tryd.prog W = .ok (.bool false) W := fun _ => by kernel_rfl
  refine callsD_of_wpS Tryd.func65 rfl fun c₀ cs hu => ?_
  apply wpS_seq
  apply wpS_region
  simp [wpOpsS, go_sem, recoverD, hu, Tryd.ntmps65, Exit.thenS]
  apply wpS_seq
  apply wpS_region
  simp [wpOpsS, go_sem, hne, Exit.thenS]
  refine wpS_cond (t := false) (by simp [Act.eval, Array.replicate]) ?_
  simp only [Bool.false_eq_true, if_false]
  refine wpS_of_wp (wp_skip ?_)
  cases c₀
  simp_all [bodyPostS, results, Tryd.results65]

/-- The diagnostic that says nothing. -/
abbrev okD : Value := .agg #[.int .i64 0, .int .i64 0, .int .i64 0, .int .i64 0, .int .i64 0]
set_option maxRecDepth 100000 in
theorem firsterr_ok (mb : Nat) (w : World) (hf : ∀ W, Below w.heap.size w W → Calls Tryd.prog 44 #[.pointer (some ⟨mb, 0, none⟩)] W fun e w' => e = .returned (.tuple #[]) ∧ Below W.heap.size W w') :
    Calls Tryd.prog 43 #[.func (.func 44) #[] #[.pointer (some ⟨mb, 0, none⟩)]] w fun e w' => e = .returned okD ∧ Below w.heap.size w w' := by
  have hmf : ∀ (fn : Fn) (first cap : Array Value) (w : World), (Instr.makeFunc fn first cap).run Tryd.prog w = .ok (.func fn first cap) w := fun _ _ _ _ => rfl
  have HF := hide hf
  clear hf
  go_enter_defers Tryd.func43, Tryd.ntmps43
  go_upto_region 2 with fail
  obtain ⟨w1, hw1⟩ : ∃ x, w.alloc (.cells #[.int .i64 0, .int .i64 0, .int .i64 0, .int .i64 0, .int .i64 0] 79) = x := ⟨_, rfl⟩
  obtain ⟨q, hq⟩ : ∃ x, w.heap.size = x := ⟨_, rfl⟩
  have HB1 : Hid (Below w.heap.size w w1) := hide (by rw [← hw1]; exact (Below.refl _ _).alloc (Nat.le_refl _) _)
  have HW : Hid (Whole w1 q 79 #[.int .i64 0, .int .i64 0, .int .i64 0, .int .i64 0, .int .i64 0]) := hide (by rw [← hw1, ← hq]; exact Whole.new _ _ _)
  simp only [hw1, hq]
  have HQ := hide hq
  clear hw1 hq
  go_wp2_with fail
  refine (HF.out _ HB1.out).mono ?_
  rintro en x2 ⟨rfl, hb2⟩
  replace HW := hide (HW.out.below' hb2)
  replace HB1 := hide (Below.all HB1.out hb2)
  clear hb2
  obtain ⟨c0, c1, c2, c3, c4⟩ : x2.cell? ⟨q, 0, none⟩ = some (.int .i64 0) ∧ x2.cell? ⟨q, 1, none⟩ = some (.int .i64 0) ∧ x2.cell? ⟨q, 2, none⟩ = some (.int .i64 0) ∧ x2.cell? ⟨q, 3, none⟩ = some (.int .i64 0) ∧ x2.cell? ⟨q, 4, none⟩ = some (.int .i64 0) := ⟨HW.out.cell 0, HW.out.cell 1, HW.out.cell 2, HW.out.cell 3, HW.out.cell 4⟩
  obtain ⟨f0, f1, f2, f3, f4⟩ : x2.frozen? ⟨q, 0, none⟩ = false ∧ x2.frozen? ⟨q, 1, none⟩ = false ∧ x2.frozen? ⟨q, 2, none⟩ = false ∧ x2.frozen? ⟨q, 3, none⟩ = false ∧ x2.frozen? ⟨q, 4, none⟩ = false := ⟨HW.out.free 0, HW.out.free 1, HW.out.free 2, HW.out.free 3, HW.out.free 4⟩
  go_wp2_with fail
  refine leaves_cons (f := 65) (args := #[.pointer (some ⟨q, 0, none⟩)]) (by simp) (by simp [go_sem]) ?_
  refine (fe1_idle ⟨q, 0, none⟩ _).mono ?_
  rintro e u' w'' ⟨rfl, rfl, rfl⟩
  have HW5 := ((((HW.out.set 0 (.int .i64 0)).set 1 (.int .i64 0)).set 2 (.int .i64 0)).set 3 (.int .i64 0)).set 4 (.int .i64 0)
  have hb5 : Below w.heap.size w (((((x2.setCell ⟨q, 0, none⟩ (.int .i64 0)).setCell ⟨q, 1, none⟩ (.int .i64 0)).setCell ⟨q, 2, none⟩ (.int .i64 0)).setCell ⟨q, 3, none⟩ (.int .i64 0)).setCell ⟨q, 4, none⟩ (.int .i64 0)) :=
    ((((HB1.out.setCell (by rw [← HQ.out]; exact Nat.le_refl _) _).setCell (by rw [← HQ.out]; exact Nat.le_refl _) _).setCell (by rw [← HQ.out]; exact Nat.le_refl _) _).setCell (by rw [← HQ.out]; exact Nat.le_refl _) _).setCell (by rw [← HQ.out]; exact Nat.le_refl _) _
  have d0 := HW5.cell 0
  have d1 := HW5.cell 1
  have d2 := HW5.cell 2
  have d3 := HW5.cell 3
  have d4 := HW5.cell 4
  have HB5 := hide hb5
  clear HW5 hb5
  simp [Leaves, settle, results, Tryd.f43, go_sem, d0, d1, d2, d3, d4]
  exact HB5.out
end Go.Proofs.YtjphechnadoblaaDoor

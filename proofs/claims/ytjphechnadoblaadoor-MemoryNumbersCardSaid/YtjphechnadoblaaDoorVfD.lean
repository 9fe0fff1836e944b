/-
  Layer 14 (verify): Module itself, of a module without functions in which nothing is wrong.
-/
import Derived.Test.YtjphechnadoblaaDoorVfC
namespace Go.Proofs.YtjphechnadoblaaDoor
open Go.RowKit Go.Maps

set_option maxRecDepth 100000 in
theorem module_ok (GA FA : Option Addr) (gc fc : Nat) (gs : List GD) (h32 : gs.length ≤ 32) (hok : ∀ d ∈ gs, OkG d) (hdis : ∀ i d, gs[i]? = some d → inB (Bs d.nm) (seenL gs i) = false) (w : World) (hT : Tab w) (hG : GlobAt w GA gc gs) :
    Calls Tryd.prog 26 #[.agg #[.slice GA gs.length gc, .slice FA 0 fc]] w fun e w' => e = .returned okD ∧ Below w.heap.size w w' := by
  have hmf : ∀ (fn : Fn) (first cap : Array Value) (w : World), (Instr.makeFunc fn first cap).run Tryd.prog w = .ok (.func fn first cap) w := fun _ _ _ _ => rfl
  obtain ⟨q, hq⟩ : ∃ x, w.heap.size = x := ⟨_, rfl⟩
  obtain ⟨w1, hw1⟩ : ∃ x, (w.alloc (.cells #[.slice GA gs.length gc, .slice FA 0 fc] 25)).alloc (.cells #[.int .i64 0, .int .i64 0, .int .i64 0, .int .i64 0, .int .i64 0] 79) = x := ⟨_, rfl⟩
  have HB1 : Hid (Below w.heap.size w w1) := hide (by rw [← hw1]; exact ((Below.refl _ _).alloc (Nat.le_refl _) _).alloc (by simp [go_sem]) _)
  have HM : Hid (Whole w1 q 25 #[.slice GA gs.length gc, .slice FA 0 fc]) := hide (by rw [← hw1, ← hq]; exact (Whole.new w _ _).alloc _)
  have HD : Hid (Whole w1 (q + 1) 79 #[.int .i64 0, .int .i64 0, .int .i64 0, .int .i64 0, .int .i64 0]) := hide (by rw [← hw1, ← hq]; have h0 := Whole.new (w.alloc (.cells #[.slice GA gs.length gc, .slice FA 0 fc] 25)) 79 #[.int .i64 0, .int .i64 0, .int .i64 0, .int .i64 0, .int .i64 0]; simpa [go_sem] using h0)
  have HF : Hid (∀ W, Below w1.heap.size w1 W → Calls Tryd.prog 44 #[.pointer (some ⟨q, 0, none⟩)] W fun e w' => e = .returned (.tuple #[]) ∧ Below W.heap.size W w') := hide (fun W hb => by
    have h2 := Below.all HB1.out hb
    exact mod1_ok GA FA gc fc q gs h32 hok hdis W (hT.below h2) (hG.below h2) (HM.out.below' hb))
  have HC : Hid (gs.length ≤ gc) := hide (by obtain ⟨_, A', c', e, h1, _⟩ := hG.rows; rw [List.length_map] at e h1; injection e with _ _ e3; subst e3; exact h1)
  have HQ := hide hq
  clear hT hG hok hdis hq
  go_enter Tryd.func26, Tryd.ntmps26
  go_upto_region 1 with fail
  simp only [HQ.out]
  clear hw1
  go_wp2_with fail
  refine (firsterr_ok q w1 HF.out).mono ?_
  rintro en x2 ⟨rfl, hb2⟩
  replace HD := hide (HD.out.below' hb2)
  replace HB1 := hide (Below.all HB1.out hb2)
  clear hb2
  obtain ⟨c0, c1, c2, c3, c4⟩ : x2.cell? ⟨q + 1, 0, none⟩ = some (.int .i64 0) ∧ x2.cell? ⟨q + 1, 1, none⟩ = some (.int .i64 0) ∧ x2.cell? ⟨q + 1, 2, none⟩ = some (.int .i64 0) ∧ x2.cell? ⟨q + 1, 3, none⟩ = some (.int .i64 0) ∧ x2.cell? ⟨q + 1, 4, none⟩ = some (.int .i64 0) := ⟨HD.out.cell 0, HD.out.cell 1, HD.out.cell 2, HD.out.cell 3, HD.out.cell 4⟩
  obtain ⟨f0, f1, f2, f3, f4⟩ : x2.frozen? ⟨q + 1, 0, none⟩ = false ∧ x2.frozen? ⟨q + 1, 1, none⟩ = false ∧ x2.frozen? ⟨q + 1, 2, none⟩ = false ∧ x2.frozen? ⟨q + 1, 3, none⟩ = false ∧ x2.frozen? ⟨q + 1, 4, none⟩ = false := ⟨HD.out.free 0, HD.out.free 1, HD.out.free 2, HD.out.free 3, HD.out.free 4⟩
  go_wp2_with fail
  have HW5 := ((((HD.out.set 0 (.int .i64 0)).set 1 (.int .i64 0)).set 2 (.int .i64 0)).set 3 (.int .i64 0)).set 4 (.int .i64 0)
  have hk : w.heap.size ≤ q + 1 := by rw [HQ.out]; omega
  have hb5 : Below w.heap.size w (((((x2.setCell ⟨q + 1, 0, none⟩ (.int .i64 0)).setCell ⟨q + 1, 1, none⟩ (.int .i64 0)).setCell ⟨q + 1, 2, none⟩ (.int .i64 0)).setCell ⟨q + 1, 3, none⟩ (.int .i64 0)).setCell ⟨q + 1, 4, none⟩ (.int .i64 0)) :=
    ((((HB1.out.setCell hk _).setCell hk _).setCell hk _).setCell hk _).setCell hk _
  have d0 := HW5.cell 0
  have d1 := HW5.cell 1
  have d2 := HW5.cell 2
  have d3 := HW5.cell 3
  have d4 := HW5.cell 4
  refine bodyPost_ret (v := okD) ?_ rfl ⟨rfl, hb5⟩
  simp [results, Tryd.f26, go_sem, d0, d1, d2, d3, d4]
end Go.Proofs.YtjphechnadoblaaDoor

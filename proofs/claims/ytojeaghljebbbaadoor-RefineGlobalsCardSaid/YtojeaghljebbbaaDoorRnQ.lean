/-
  Layer 19 (refine): an outcome with one known cell changed.
-/
import Derived.Test.YtojeaghljebbbaaDoorRnK
namespace Go.Proofs.YtojeaghljebbbaaDoor
open Go.RowKit Go.Deep

/-- A known number. -/
def knV (t m : Int) : VD := ⟨t, 0, ⟨m, false, false⟩, zL, zL, zL⟩
theorem known {x : VD} (h : validD x = true) (ht : 2 ≤ x.t ∧ x.t ≤ 4) (hp : x.a.p = false) (hu : x.a.u = false) : x = knV x.t x.a.n := by
  obtain ⟨t, o, a, b, c, d⟩ := x
  obtain ⟨an, ap, au⟩ := a
  simp only at ht hp hu
  subst hp hu
  have hn : numL t = 1 := cell_1 ⟨ht.1, by omega⟩
  unfold validD validB at h
  simp only [Bool.and_eq_true, oks, decide_eq_true_eq] at h
  obtain ⟨⟨-, ⟨⟨-, hb⟩, hc⟩, hd⟩, ho⟩ := h
  have h5 : points t false = false := by
    unfold points
    have : (t == 5) = false := by simp; omega
    rw [this]; rfl
  rw [h5] at ho
  simp at ho
  have eb := zeroL_eq (okAt_far hb (by omega))
  have ec := zeroL_eq (okAt_far hc (by omega))
  have ed := zeroL_eq (okAt_far hd (by omega))
  subst eb ec ed ho
  rfl
theorem refD_kn {t k m : Int} (h : k ≠ m) : refD (knV t k) (knV t m) = false := by
  unfold refD refV knV
  have : refL ⟨k, false, false⟩ ⟨m, false, false⟩ = false := by
    unfold refL
    simp [h]
  simp only [rls, this]
  simp
theorem difD_five {a b : OD} (ha : a.kind = 1) (hb : b.kind = 1) (h1 : allR refD a.out b.out = true) (h2 : resR a.res b.res = true) (h3 : allR refL2 a.cls b.cls = false) : difD a b = 5 := by
  unfold difD
  rw [h1, h2, h3, ha, hb]
  rfl
/-- The outcome p: o but for the list at g, in which the value at i is w. -/
def chg (o : OD) (A : Option Addr) (c : Nat) (g : Nat) (l : LD) : OD := { o with clA := A, clc := c, cls := o.cls.set g l }
theorem valid_parts {o : OD} (h : validO o = true) : allR refD o.out o.out = true ∧ resR o.res o.res = true ∧ ∀ l ∈ o.cls, ∀ x ∈ l.vs, validD x = true := by
  unfold validO at h
  simp only [Bool.and_eq_true, List.all_eq_true] at h
  refine ⟨allR_refl _ (fun x hx => refD_refl (h.1 x hx)), ?_, h.2.1⟩
  unfold resR
  by_cases ht : o.res.t = 0
  · simp [ht]
  · have := h.2.2
    simp [ht] at this
    simp [refD_refl this]
theorem chg_dif {o : OD} {A : Option Addr} {c g i : Nat} {l l' : LD} {x : VD} {k : Int} (hv : validO o = true) (hk : o.kind = 1) (hl : o.cls[g]? = some l) (hx : l.vs[i]? = some x) (hl' : l'.vs = l.vs.set i (knV x.t k)) (hkn : x = knV x.t x.a.n) (hne : k ≠ x.a.n) :
    difD (chg o A c g l') o = 5 ∧ difD o (chg o A c g l') = 5 := by
  obtain ⟨p1, p2, -⟩ := valid_parts hv
  have hg := (List.getElem?_eq_some_iff.1 hl).1
  have hi := (List.getElem?_eq_some_iff.1 hx).1
  have e1 : (o.cls.set g l')[g]? = some l' := by rw [List.getElem?_set_self hg]
  have e2 : l'.vs[i]? = some (knV x.t k) := by rw [hl', List.getElem?_set_self hi]
  have r1 : refD (knV x.t k) x = false := by rw [hkn]; exact refD_kn hne
  have r2 : refD x (knV x.t k) = false := by
    have := refD_kn (t := x.t) (k := x.a.n) (m := k) (fun h => hne h.symm)
    rwa [← hkn] at this
  refine ⟨difD_five hk hk p1 p2 ?_, difD_five hk hk p1 p2 ?_⟩
  · exact allR_false _ _ g l' l e1 hl (allR_false _ _ i _ x e2 hx r1)
  · exact allR_false _ _ g l l' hl e1 (allR_false _ _ i x _ hx e2 r2)
set_option maxRecDepth 100000 in
theorem eqkn (t k m : Int) (W : World) : Sem.run Tryd.prog (binOp .eql 27 (.agg (knV t k).cl.toArray) (.agg (knV t m).cl.toArray)) W = .ok (.bool (k == m)) W := by
  show Sem.run Tryd.prog (binOp .eql 27 (.agg #[.int .i64 t, .int .i64 0, .int .i64 k, .bool false, .bool false, .int .i64 0, .bool false, .bool false, .int .i64 0, .bool false, .bool false, .int .i64 0, .bool false, .bool false]) (.agg #[.int .i64 t, .int .i64 0, .int .i64 m, .bool false, .bool false, .int .i64 0, .bool false, .bool false, .int .i64 0, .bool false, .bool false, .int .i64 0, .bool false, .bool false])) W = _
  rw [run_eql_struct]
  simp [go_sem]
  have ht : Tryd.prog.underlying 25 = some (.array 4 24) := by kernel_rfl
  have hsz : ∀ w, (sizeOf 24).run Tryd.prog w = .ok 3 w := fun w => by kernel_rfl
  rw [show (9999 : Nat) = 9998 + 1 from rfl, Op.equalIn]
  simp only [Sem.run_bind, run_underlying ht, Result.andThen_ok, hsz, Std.Legacy.Range.forIn_eq_forIn_range', Std.Legacy.Range.size, Nat.sub_zero, Nat.add_sub_cancel, Nat.div_one]
  cases e : k == m <;> simp [go_sem, List.range', e]
end Go.Proofs.YtojeaghljebbbaaDoor

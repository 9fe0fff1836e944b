/-
  Layer 17 (memory): loads at a place; the law's module of two cells, and its memory.
-/
import Derived.StillTailTactics
import Derived.Test.YtjphechnadoblaaDoorMemG
import Derived.Lib.SliceRun
import Derived.Test.YtjphechnadoblaaDoorVEq
namespace Go.Proofs.YtjphechnadoblaaDoor
open Go.RowKit Go.ChangeShapes Go.WideShapes

/-- What an access is to, and the status. -/
def tgtM (os : List OD) (p : VD) (t : Int) : OD × Int :=
  if (p.ok && (p.t == 5) && !(accN t == 0)) = false then (goneO, 1) else if p.a.p = true then (goneO, 2) else if p.a.u = true then (goneO, 3)
  else if (decide (p.o < 0) || decide ((os.length : Int) ≤ p.o)) = true then (goneO, 0) else (os.getD p.o.toNat goneO, 0)
theorem sl_form (o : OD) : ∃ A n, o.sl = .slice A n n := by
  unfold OD.sl
  split
  · exact ⟨none, 0, rfl⟩
  · exact ⟨_, _, rfl⟩
/-- What target keeps. -/
structure TgS (w W : World) (B x pb ob : Nat) (p : VD) (OV : Value) (gl : Int) (os : List OD) : Prop where
  m : MemAt W B x OV gl os
  b : Below w.heap.size w W
  p : Whole W pb 46 #[.int .i64 p.t, .int .i64 p.o, .int .i64 p.a.n, .bool p.a.p, .bool p.a.u, .int .i64 p.b.n, .bool p.b.p, .bool p.b.u, .int .i64 p.c.n, .bool p.c.p, .bool p.c.u, .int .i64 p.d.n, .bool p.d.p, .bool p.d.u]
  o : Whole W ob 86 #[.int .i64 0, .slice none 0 0, .bool false]
  tab : Tab W
  lo : w.heap.size ≤ ob
theorem TgS.next {w W W' : World} {B x pb ob : Nat} {p : VD} {OV : Value} {gl : Int} {os : List OD} (h : TgS w W B x pb ob p OV gl os) (hb : Below W.heap.size W W') : TgS w W' B x pb ob p OV gl os :=
  ⟨h.m.below hb, h.b.trans (hb.mono h.b.size), h.p.below' hb, h.o.below' hb, h.tab.below hb, h.lo⟩
set_option maxRecDepth 100000 in
set_option maxHeartbeats 4000000 in
theorem target_any {w : World} {B x : Nat} {OV : Value} {gl : Int} {os : List OD} (h : MemAt w B x OV gl os) (hos : os.length ≤ 1000) (p : VD) (t : Int) (hT : Tab w) :
    Calls Tryd.prog 29 #[.pointer (some ⟨x, 0, none⟩), .agg #[.int .i64 p.t, .int .i64 p.o, .int .i64 p.a.n, .bool p.a.p, .bool p.a.u, .int .i64 p.b.n, .bool p.b.p, .bool p.b.u, .int .i64 p.c.n, .bool p.c.p, .bool p.c.u, .int .i64 p.d.n, .bool p.d.p, .bool p.d.u], .int .i64 t] w fun e w' => e = .returned (.tuple #[.agg #[.int .i64 (tgtM os p t).1.el, (tgtM os p t).1.sl, .bool (tgtM os p t).1.ro], .int .i64 (tgtM os p t).2]) ∧ Below w.heap.size w w' := by
  have HV : Hid (∀ W, MemAt W B x OV gl os → _) := hide (fun W h => mvalid_any h)
  obtain ⟨R, hR⟩ : ∃ R, tgtM os p t = R := ⟨_, rfl⟩
  have HR : Hid (R = tgtM os p t) := hide hR.symm
  rw [hR]
  unfold tgtM at HR
  obtain ⟨A, c, hOV, hc⟩ := h.form
  obtain ⟨an, han⟩ : ∃ a, accN t = a := ⟨_, rfl⟩
  have hac := acc_any t
  rw [han] at hac HR
  have HAC := hide hac
  have HVV := hide (fun W hT => vvalid p W hT)
  obtain ⟨pok, hpok⟩ : ∃ b, p.ok = b := ⟨_, rfl⟩
  rw [hpok] at HVV HR
  obtain ⟨pb, hpb⟩ : ∃ x, w.heap.size = x := ⟨_, rfl⟩
  obtain ⟨w1, hw1⟩ : ∃ x, (w.alloc (.cells #[.int .i64 p.t, .int .i64 p.o, .int .i64 p.a.n, .bool p.a.p, .bool p.a.u, .int .i64 p.b.n, .bool p.b.p, .bool p.b.u, .int .i64 p.c.n, .bool p.c.p, .bool p.c.u, .int .i64 p.d.n, .bool p.d.p, .bool p.d.u] 46)).alloc (.cells #[.int .i64 0, .slice none 0 0, .bool false] 86) = x := ⟨_, rfl⟩
  have HS : Hid (TgS w w1 B x pb (pb + 1) p OV gl os) := hide (by
    have hb : Below w.heap.size w w1 := by rw [← hw1]; exact ((Below.refl _ _).alloc (Nat.le_refl _) _).alloc (by simp [go_sem]) _
    refine ⟨h.below hb, hb, by rw [← hw1, ← hpb]; exact (Whole.new _ _ _).alloc _, ?_, hT.below hb, by omega⟩
    rw [← hw1, ← hpb]
    have h0 := Whole.new (w.alloc (.cells #[.int .i64 p.t, .int .i64 p.o, .int .i64 p.a.n, .bool p.a.p, .bool p.a.u, .int .i64 p.b.n, .bool p.b.p, .bool p.b.u, .int .i64 p.c.n, .bool p.c.p, .bool p.c.u, .int .i64 p.d.n, .bool p.d.p, .bool p.d.u] 46)) 86 #[.int .i64 0, .slice none 0 0, .bool false]
    rw [World.size_alloc] at h0
    exact h0)
  have HOS := hide hos
  subst hOV
  clear h hT hR han hac hpok hc hos
  go_enter Tryd.func29, Tryd.ntmps29
  go_upto_region 1 with fail
  clear hw1
  obtain ⟨ob, hob⟩ : ∃ x, pb + 1 = x := ⟨_, rfl⟩
  rw [hob]
  rw [hob] at HS
  clear hpb hob
  go_wp2_with fail
  refine (HAC.out _).mono ?_
  rintro en wn ⟨rfl, rfl⟩
  go_wp2_with fail
  refine (HV.out _ HS.out.m).mono ?_
  rintro en wn ⟨rfl, rfl⟩
  have p0 : World.cell? _ ⟨pb, 0, none⟩ = some (.int .i64 p.t) := HS.out.p.cell 0
  have p1 : World.cell? _ ⟨pb, 1, none⟩ = some (.int .i64 p.o) := HS.out.p.cell 1
  have p2 : World.cell? _ ⟨pb, 2, none⟩ = some (.int .i64 p.a.n) := HS.out.p.cell 2
  have p3 : World.cell? _ ⟨pb, 3, none⟩ = some (.bool p.a.p) := HS.out.p.cell 3
  have p4 : World.cell? _ ⟨pb, 4, none⟩ = some (.bool p.a.u) := HS.out.p.cell 4
  have p5 : World.cell? _ ⟨pb, 5, none⟩ = some (.int .i64 p.b.n) := HS.out.p.cell 5
  have p6 : World.cell? _ ⟨pb, 6, none⟩ = some (.bool p.b.p) := HS.out.p.cell 6
  have p7 : World.cell? _ ⟨pb, 7, none⟩ = some (.bool p.b.u) := HS.out.p.cell 7
  have p8 : World.cell? _ ⟨pb, 8, none⟩ = some (.int .i64 p.c.n) := HS.out.p.cell 8
  have p9 : World.cell? _ ⟨pb, 9, none⟩ = some (.bool p.c.p) := HS.out.p.cell 9
  have p10 : World.cell? _ ⟨pb, 10, none⟩ = some (.bool p.c.u) := HS.out.p.cell 10
  have p11 : World.cell? _ ⟨pb, 11, none⟩ = some (.int .i64 p.d.n) := HS.out.p.cell 11
  have p12 : World.cell? _ ⟨pb, 12, none⟩ = some (.bool p.d.p) := HS.out.p.cell 12
  have p13 : World.cell? _ ⟨pb, 13, none⟩ = some (.bool p.d.u) := HS.out.p.cell 13
  go_wp2_with fail
  refine (HVV.out _ HS.out.tab).mono ?_
  rintro en w2 ⟨rfl, hb2⟩
  replace HS := hide (HS.out.next hb2)
  clear hb2 p0 p1 p2 p3 p4 p5 p6 p7 p8 p9 p10 p11 p12 p13
  have p0 : World.cell? _ ⟨pb, 0, none⟩ = some (.int .i64 p.t) := HS.out.p.cell 0
  have p1 : World.cell? _ ⟨pb, 1, none⟩ = some (.int .i64 p.o) := HS.out.p.cell 1
  have p2 : World.cell? _ ⟨pb, 2, none⟩ = some (.int .i64 p.a.n) := HS.out.p.cell 2
  have p3 : World.cell? _ ⟨pb, 3, none⟩ = some (.bool p.a.p) := HS.out.p.cell 3
  have p4 : World.cell? _ ⟨pb, 4, none⟩ = some (.bool p.a.u) := HS.out.p.cell 4
  have o0 : World.cell? _ ⟨ob, 0, none⟩ = some (.int .i64 0) := HS.out.o.cell 0
  have o1 : World.cell? _ ⟨ob, 1, none⟩ = some (.slice none 0 0) := HS.out.o.cell 1
  have o2 : World.cell? _ ⟨ob, 2, none⟩ = some (.bool false) := HS.out.o.cell 2
  have of := HS.out.o.free
  cases pok with
  | false =>
    have hr : R = (goneO, 1) := HR.out
    replace HR := hide hr
    clear hr
    go_wp2_with fail
    have hR := ((HS.out.o.set 0 (.int .i64 0)).set 1 (.slice none 0 0)).set 2 (.bool false)
    have k0 := hR.cell 0
    have k1 := hR.cell 1
    have k2 := hR.cell 2
    refine bodyPost_ret (v := .tuple #[.agg #[.int .i64 0, .slice none 0 0, .bool false], .int .i64 1]) ?_ rfl ⟨by rw [HR.out]; rfl, ((HS.out.b.setCell HS.out.lo _).setCell HS.out.lo _).setCell HS.out.lo _⟩
    simp [results, Tryd.f29, go_sem, k0, k1, k2]
  | true =>
    cases t5 : (p.t == 5) with
    | false =>
      have t6 : (p.t != 5) = true := by simp [bne, t5]
      have hr : R = (goneO, 1) := by have := HR.out; rw [t5] at this; exact this
      replace HR := hide hr
      clear hr t5
      go_wp2_with fail
      have hR := ((HS.out.o.set 0 (.int .i64 0)).set 1 (.slice none 0 0)).set 2 (.bool false)
      have k0 := hR.cell 0
      have k1 := hR.cell 1
      have k2 := hR.cell 2
      refine bodyPost_ret (v := .tuple #[.agg #[.int .i64 0, .slice none 0 0, .bool false], .int .i64 1]) ?_ rfl ⟨by rw [HR.out]; rfl, ((HS.out.b.setCell HS.out.lo _).setCell HS.out.lo _).setCell HS.out.lo _⟩
      simp [results, Tryd.f29, go_sem, k0, k1, k2]
    | true =>
      have t6 : (p.t != 5) = false := by simp [bne, t5]
      cases t7 : (an == 0) with
      | true =>
        have hr : R = (goneO, 1) := by have := HR.out; rw [t5, t7] at this; exact this
        replace HR := hide hr
        clear hr t5
        go_wp2_with fail
        have hR := ((HS.out.o.set 0 (.int .i64 0)).set 1 (.slice none 0 0)).set 2 (.bool false)
        have k0 := hR.cell 0
        have k1 := hR.cell 1
        have k2 := hR.cell 2
        refine bodyPost_ret (v := .tuple #[.agg #[.int .i64 0, .slice none 0 0, .bool false], .int .i64 1]) ?_ rfl ⟨by rw [HR.out]; rfl, ((HS.out.b.setCell HS.out.lo _).setCell HS.out.lo _).setCell HS.out.lo _⟩
        simp [results, Tryd.f29, go_sem, k0, k1, k2]
      | false =>
        have hr := HR.out
        rw [t5, t7] at hr
        replace HR := hide (hr.trans (if_neg (by simp)))
        clear hr t5
        cases t8 : p.a.p with
        | true =>
          have hr : R = (goneO, 2) := by have := HR.out; rw [t8] at this; exact this
          replace HR := hide hr
          rw [t8] at p3
          clear hr t8
          go_wp2_with fail
          have hR := ((HS.out.o.set 0 (.int .i64 0)).set 1 (.slice none 0 0)).set 2 (.bool false)
          have k0 := hR.cell 0
          have k1 := hR.cell 1
          have k2 := hR.cell 2
          refine bodyPost_ret (v := .tuple #[.agg #[.int .i64 0, .slice none 0 0, .bool false], .int .i64 2]) ?_ rfl ⟨by rw [HR.out]; rfl, ((HS.out.b.setCell HS.out.lo _).setCell HS.out.lo _).setCell HS.out.lo _⟩
          simp [results, Tryd.f29, go_sem, k0, k1, k2]
        | false =>
          have hr := HR.out
          rw [t8] at hr
          replace HR := hide (hr.trans (if_neg (by simp)))
          rw [t8] at p3
          clear hr t8
          cases t9 : p.a.u with
          | true =>
            have hr : R = (goneO, 3) := by have := HR.out; rw [t9] at this; exact this
            replace HR := hide hr
            rw [t9] at p4
            clear hr t9
            go_wp2_with fail
            have hR := ((HS.out.o.set 0 (.int .i64 0)).set 1 (.slice none 0 0)).set 2 (.bool false)
            have k0 := hR.cell 0
            have k1 := hR.cell 1
            have k2 := hR.cell 2
            refine bodyPost_ret (v := .tuple #[.agg #[.int .i64 0, .slice none 0 0, .bool false], .int .i64 3]) ?_ rfl ⟨by rw [HR.out]; rfl, ((HS.out.b.setCell HS.out.lo _).setCell HS.out.lo _).setCell HS.out.lo _⟩
            simp [results, Tryd.f29, go_sem, k0, k1, k2]
          | false =>
            have hr := HR.out
            rw [t9] at hr
            replace HR := hide (hr.trans (if_neg (by simp)))
            rw [t9] at p4
            clear hr t9
            have m0 : World.cell? _ ⟨x, 0, none⟩ = some (.slice A os.length c) := HS.out.m.m.cell 0
            cases s0 : decide (p.o < 0) with
            | true =>
              have hr : R = (goneO, 0) := by have := HR.out; rw [s0] at this; exact this
              replace HR := hide hr
              clear hr
              go_wp2_with fail
              go_quiet (fail)
              replace HS := hide (HS.out.next (Below.drewN' (Below.refl _ _) nq))
              go_wp2_with fail
              have hR := ((HS.out.o.set 0 (.int .i64 0)).set 1 (.slice none 0 0)).set 2 (.bool false)
              have k0 := hR.cell 0
              have k1 := hR.cell 1
              have k2 := hR.cell 2
              refine bodyPost_ret (v := .tuple #[.agg #[.int .i64 0, .slice none 0 0, .bool false], .int .i64 0]) ?_ rfl ⟨by rw [HR.out]; rfl, ((HS.out.b.setCell HS.out.lo _).setCell HS.out.lo _).setCell HS.out.lo _⟩
              simp [results, Tryd.f29, go_sem, k0, k1, k2]
            | false =>
              cases s1 : decide ((os.length : Int) ≤ p.o) with
              | true =>
                have hr : R = (goneO, 0) := by have := HR.out; rw [s0, s1] at this; exact this
                replace HR := hide hr
                clear hr
                go_wp2_with fail
                go_quiet (fail)
                replace HS := hide (HS.out.next (Below.drewN' (Below.refl _ _) nq))
                go_wp2_with fail
                have hR := ((HS.out.o.set 0 (.int .i64 0)).set 1 (.slice none 0 0)).set 2 (.bool false)
                have k0 := hR.cell 0
                have k1 := hR.cell 1
                have k2 := hR.cell 2
                refine bodyPost_ret (v := .tuple #[.agg #[.int .i64 0, .slice none 0 0, .bool false], .int .i64 0]) ?_ rfl ⟨by rw [HR.out]; rfl, ((HS.out.b.setCell HS.out.lo _).setCell HS.out.lo _).setCell HS.out.lo _⟩
                simp [results, Tryd.f29, go_sem, k0, k1, k2]
              | false =>
                obtain ⟨k, hk⟩ : ∃ k : Nat, p.o = k := ⟨p.o.toNat, by simp at s0; omega⟩
                have hkl : k < os.length := by simp at s1; omega
                obtain ⟨o, ho⟩ : ∃ o, os[k]? = some o := ⟨_, List.getElem?_eq_getElem hkl⟩
                have hr : R = (o, 0) := by
                  have := HR.out
                  rw [s0, s1] at this
                  rw [this, hk]; simp [List.getD, ho]
                replace HR := hide hr
                obtain ⟨g, c', hA, hc9⟩ := HS.out.m.formA (by omega)
                injection hA with hA1 hA2 hA3
                subst hA1 hA3
                obtain ⟨r0, r1, r2, _⟩ := HS.out.m.at rfl ho
                obtain ⟨SA, sn, hsl⟩ := sl_form o
                rw [hsl] at r1
                have HSL := hide hsl
                rw [hk] at p1 s0 s1
                have q0 : (0 : Int) ≤ (k : Int) := by omega
                have q1 : (k : Int) < (os.length : Int) := by omega
                have HPO := hide hk
                clear hr hk hkl ho hsl hc9
                go_wp2_with fail
                go_quiet (fail)
                replace HS := hide (HS.out.next (Below.drewN' (Below.refl _ _) nq))
                go_wp2_with fail
                obtain ⟨w5, hw5⟩ : ∃ X, w2.drewN nq = X := ⟨_, rfl⟩
                rw [hw5] at HS
                simp only [hw5]
                replace p1 : w5.cell? ⟨pb, 1, none⟩ = some (.int .i64 (k : Int)) := by rw [← hw5]; exact p1
                replace m0 : w5.cell? ⟨x, 0, none⟩ = some (.slice (some ⟨g, 0, none⟩) os.length c) := by rw [← hw5]; exact m0
                replace r0 : w5.cell? ⟨g, k * 3, none⟩ = some (.int .i64 o.el) := by rw [← hw5]; exact r0
                replace r1 : w5.cell? ⟨g, k * 3 + 1, none⟩ = some (.slice SA sn sn) := by rw [← hw5]; exact r1
                replace r2 : w5.cell? ⟨g, k * 3 + 2, none⟩ = some (.bool o.ro) := by rw [← hw5]; exact r2
                replace o0 : w5.cell? ⟨ob, 0, none⟩ = some (.int .i64 0) := HS.out.o.cell 0
                replace o1 : w5.cell? ⟨ob, 1, none⟩ = some (.slice none 0 0) := HS.out.o.cell 1
                replace o2 : w5.cell? ⟨ob, 2, none⟩ = some (.bool false) := HS.out.o.cell 2
                replace of := HS.out.o.free
                clear hw5 p0 p2 p3 p4 s0 s1
                go_still_tail 8, (by kernel_rfl)
                change wpList _ _ _ _ _ w5.drew
                have h5 := HS.out.o
                have k0 := (h5.set 0 (.int .i64 o.el)).cell 0
                have k1 := ((h5.set 0 (.int .i64 o.el)).set 1 (.slice SA sn sn)).cell 1
                have k2 := (((h5.set 0 (.int .i64 o.el)).set 1 (.slice SA sn sn)).set 2 (.bool o.ro)).cell 2
                have H5 := hide h5
                have HK := hide (And.intro k0 (And.intro k1 k2))
                clear h5 k0 k1 k2
                replace HS := hide (HS.out.next (Below.refl _ _).drew)
                go_wp2_with fail
                obtain ⟨k0, k1, k2⟩ := HK.out
                refine bodyPost_ret (v := .tuple #[.agg #[.int .i64 o.el, .slice SA sn sn, .bool o.ro], .int .i64 0]) ?_ rfl ⟨by rw [HR.out, HSL.out], ((HS.out.b.setCell HS.out.lo _).setCell HS.out.lo _).setCell HS.out.lo _⟩
                simp [results, Tryd.f29, go_sem, k0, k1, k2]
end Go.Proofs.YtjphechnadoblaaDoor
namespace Go.Proofs.YtjphechnadoblaaDoor
open Go.RowKit Go.ChangeShapes Go.WideShapes

set_option maxRecDepth 100000 in
theorem span_out (el off t : Int) (A : Option Addr) (n : Nat) (hn : n ≤ 256) (hbad : accT t ≠ el ∨ off < 0 ∨ (n : Int) - accN t < off) (w : World) :
    Calls Tryd.prog 56 #[.agg #[.int .i64 el, .slice A n n], .int .i64 off, .int .i64 t] w fun e w' => e = .returned (.slice none 0 0) ∧ Below w.heap.size w w' := by
  obtain ⟨am, ham⟩ : ∃ a, accT t = a := ⟨_, rfl⟩
  obtain ⟨an, han⟩ : ∃ a, accN t = a := ⟨_, rfl⟩
  have hac := acc_any t
  have han2 : 0 ≤ an ∧ an ≤ 4 := by rw [← han]; unfold accN; split <;> (try split) <;> (try split) <;> omega
  rw [han, ham] at hac
  rw [han, ham] at hbad
  have HAC := hide hac
  obtain ⟨cb, hcb⟩ : ∃ x, w.heap.size = x := ⟨_, rfl⟩
  obtain ⟨w1, hw1⟩ : ∃ x, w.alloc (.cells #[.int .i64 el, .slice A n n] 84) = x := ⟨_, rfl⟩
  have HB : Hid (Below w.heap.size w w1) := hide (by rw [← hw1]; exact (Below.refl _ _).alloc (Nat.le_refl _) _)
  have HW : Hid (Whole w1 cb 84 #[.int .i64 el, .slice A n n]) := hide (by rw [← hw1, ← hcb]; exact Whole.new _ _ _)
  have c0 : w1.cell? ⟨cb, 0, none⟩ = some (.int .i64 el) := HW.out.cell 0
  have c1 : w1.cell? ⟨cb, 1, none⟩ = some (.slice A n n) := HW.out.cell 1
  have hn9 : n ≤ 9223372036854775807 := by omega
  clear hac han ham
  cases b1 : (am != el) with
  | true =>
    clear hbad
    go_enter Tryd.func56, Tryd.ntmps56
    go_upto_region 1 with fail
    clear hw1 hcb
    go_wp2_with fail
    refine (HAC.out _).mono ?_
    rintro en wn ⟨rfl, rfl⟩
    go_wp2_with fail
    go_ret
    exact ⟨rfl, HB.out⟩
  | false =>
    cases b2 : decide (off < 0) with
    | true =>
      clear hbad
      go_enter Tryd.func56, Tryd.ntmps56
      go_upto_region 1 with fail
      clear hw1 hcb
      go_wp2_with fail
      refine (HAC.out _).mono ?_
      rintro en wn ⟨rfl, rfl⟩
      go_wp2_with fail
      go_ret
      exact ⟨rfl, HB.out⟩
    | false =>
      have b3 : decide ((n : Int) - an < off) = true := by
        simp at b1 b2 ⊢
        rcases hbad with h | h | h
        · exact absurd b1 h
        · omega
        · exact h
      clear hbad
      go_enter Tryd.func56, Tryd.ntmps56
      go_upto_region 1 with fail
      clear hw1 hcb
      go_wp2_with fail
      refine (HAC.out _).mono ?_
      rintro en wn ⟨rfl, rfl⟩
      go_wp2_with fail
      go_ret
      exact ⟨rfl, HB.out⟩
set_option maxRecDepth 100000 in
theorem span_in (t : Int) (g n k m : Nat) (hn : n ≤ 256) (hm : accN t = m) (hm1 : 1 ≤ m) (hkm : k + m ≤ n) (w : World) :
    Calls Tryd.prog 56 #[.agg #[.int .i64 (accT t), .slice (some ⟨g, 0, none⟩) n n], .int .i64 (k : Int), .int .i64 t] w fun e w' => e = .returned (.slice (some ⟨g, k * 14, none⟩) m (n - k)) ∧ Below w.heap.size w w' := by
  obtain ⟨am, ham⟩ : ∃ a, accT t = a := ⟨_, rfl⟩
  have hac := acc_any t
  rw [hm, ham] at hac
  rw [ham]
  have HAC := hide hac
  obtain ⟨cb, hcb⟩ : ∃ x, w.heap.size = x := ⟨_, rfl⟩
  obtain ⟨w1, hw1⟩ : ∃ x, w.alloc (.cells #[.int .i64 am, .slice (some ⟨g, 0, none⟩) n n] 84) = x := ⟨_, rfl⟩
  have HB : Hid (Below w.heap.size w w1) := hide (by rw [← hw1]; exact (Below.refl _ _).alloc (Nat.le_refl _) _)
  have HW : Hid (Whole w1 cb 84 #[.int .i64 am, .slice (some ⟨g, 0, none⟩) n n]) := hide (by rw [← hw1, ← hcb]; exact Whole.new _ _ _)
  have c0 : w1.cell? ⟨cb, 0, none⟩ = some (.int .i64 am) := HW.out.cell 0
  have c1 : w1.cell? ⟨cb, 1, none⟩ = some (.slice (some ⟨g, 0, none⟩) n n) := HW.out.cell 1
  have hn9 : n ≤ 9223372036854775807 := by omega
  have b1 : (am != am) = false := by simp
  have b2 : decide ((k : Int) < 0) = false := by simp
  have b3 : decide ((n : Int) - (m : Int) < (k : Int)) = false := by simp; omega
  have r0 : (0 : Int) ≤ (k : Int) := by omega
  have r1 : (k : Int) ≤ (k : Int) + (m : Int) := by omega
  have r2 : (k : Int) + (m : Int) ≤ (n : Int) := by omega
  have r3 : (k : Int) + (m : Int) ≤ 256 := by omega
  have r4 : ¬ n = k := by omega
  have r5 : k < n := by omega
  have HK := hide (And.intro hkm hm1)
  clear hac ham hm hkm hm1
  go_enter Tryd.func56, Tryd.ntmps56
  go_upto_region 1 with fail
  clear hw1 hcb
  go_wp2_with fail
  refine (HAC.out _).mono ?_
  rintro en wn ⟨rfl, rfl⟩
  go_wp2_with fail
  rw [show k + m - k = m by have := HK.out; omega]
  go_ret
  exact ⟨rfl, HB.out⟩
/-- The lanes that a reading has laid. -/
def laneV (vs : List VD) (k j : Nat) : LaneD := ((vs[k + j]?).map VD.a).getD zL
def rdV (t o : Int) (vs : List VD) (k i : Nat) : VD := ⟨t, o, if 0 < i then laneV vs k 0 else zL, if 1 < i then laneV vs k 1 else zL, if 2 < i then laneV vs k 2 else zL, if 3 < i then laneV vs k 3 else zL⟩
set_option maxRecDepth 100000 in
set_option maxHeartbeats 4000000 in
theorem read_out (el off t : Int) (A : Option Addr) (n : Nat) (hn : n ≤ 256) (hbad : accT t ≠ el ∨ off < 0 ∨ (n : Int) - accN t < off) (w : World) :
    Calls Tryd.prog 30 #[.agg #[.int .i64 el, .slice A n n], .int .i64 off, .int .i64 t] w fun e w' => e = .returned (.tuple #[.agg #[.int .i64 0, .int .i64 0, .int .i64 0, .bool false, .bool false, .int .i64 0, .bool false, .bool false, .int .i64 0, .bool false, .bool false, .int .i64 0, .bool false, .bool false], .bool false]) ∧ Below w.heap.size w w' := by
  have HSP := hide (fun W => span_out el off t A n hn hbad W)
  have hnil : ∀ W, (binOp .eql 66 (.slice none 0 0) (.slice none 0 0)).run Tryd.prog W = .ok (.bool true) W := fun W => Lib.run_eql_slice_nil W 66 46 none 0 0 0 0 Tryd.underlying66
  obtain ⟨cb, hcb⟩ : ∃ x, w.heap.size = x := ⟨_, rfl⟩
  obtain ⟨w1, hw1⟩ : ∃ x, (w.alloc (.cells #[.int .i64 el, .slice A n n] 84)).alloc (.cells #[.int .i64 0, .int .i64 0, .int .i64 0, .bool false, .bool false, .int .i64 0, .bool false, .bool false, .int .i64 0, .bool false, .bool false, .int .i64 0, .bool false, .bool false] 46) = x := ⟨_, rfl⟩
  have HB : Hid (Below w.heap.size w w1) := hide (by rw [← hw1]; exact ((Below.refl _ _).alloc (Nat.le_refl _) _).alloc (by simp [go_sem]) _)
  have HW : Hid (Whole w1 cb 84 #[.int .i64 el, .slice A n n]) := hide (by rw [← hw1, ← hcb]; exact (Whole.new _ _ _).alloc _)
  have HV : Hid (Whole w1 (cb + 1) 46 #[.int .i64 0, .int .i64 0, .int .i64 0, .bool false, .bool false, .int .i64 0, .bool false, .bool false, .int .i64 0, .bool false, .bool false, .int .i64 0, .bool false, .bool false]) := hide (by
    rw [← hw1, ← hcb]
    have h0 := Whole.new (w.alloc (.cells #[.int .i64 el, .slice A n n] 84)) 46 #[.int .i64 0, .int .i64 0, .int .i64 0, .bool false, .bool false, .int .i64 0, .bool false, .bool false, .int .i64 0, .bool false, .bool false, .int .i64 0, .bool false, .bool false]
    rw [World.size_alloc] at h0
    exact h0)
  have c0 : w1.cell? ⟨cb, 0, none⟩ = some (.int .i64 el) := HW.out.cell 0
  have c1 : w1.cell? ⟨cb, 1, none⟩ = some (.slice A n n) := HW.out.cell 1
  have HCB : Hid (w.heap.size ≤ cb + 1) := hide (by omega)
  go_enter Tryd.func30, Tryd.ntmps30
  go_upto_region 1 with fail
  clear hw1 hcb
  obtain ⟨vb, hvb⟩ : ∃ x, cb + 1 = x := ⟨_, rfl⟩
  rw [hvb] at HV HCB
  rw [hvb]
  clear hvb
  go_wp2_with fail
  refine (HSP.out _).mono ?_
  rintro en w2 ⟨rfl, hb2⟩
  have HV2 := hide (HV.out.below' hb2)
  have HB2 := hide (Below.all HB.out hb2)
  clear hb2 c0 c1
  have z0 : w2.cell? ⟨vb, 0, none⟩ = some (.int .i64 0) := HV2.out.cell 0
  have z1 : w2.cell? ⟨vb, 1, none⟩ = some (.int .i64 0) := HV2.out.cell 1
  have z2 : w2.cell? ⟨vb, 2, none⟩ = some (.int .i64 0) := HV2.out.cell 2
  have z3 : w2.cell? ⟨vb, 3, none⟩ = some (.bool false) := HV2.out.cell 3
  have z4 : w2.cell? ⟨vb, 4, none⟩ = some (.bool false) := HV2.out.cell 4
  have z5 : w2.cell? ⟨vb, 5, none⟩ = some (.int .i64 0) := HV2.out.cell 5
  have z6 : w2.cell? ⟨vb, 6, none⟩ = some (.bool false) := HV2.out.cell 6
  have z7 : w2.cell? ⟨vb, 7, none⟩ = some (.bool false) := HV2.out.cell 7
  have z8 : w2.cell? ⟨vb, 8, none⟩ = some (.int .i64 0) := HV2.out.cell 8
  have z9 : w2.cell? ⟨vb, 9, none⟩ = some (.bool false) := HV2.out.cell 9
  have z10 : w2.cell? ⟨vb, 10, none⟩ = some (.bool false) := HV2.out.cell 10
  have z11 : w2.cell? ⟨vb, 11, none⟩ = some (.int .i64 0) := HV2.out.cell 11
  have z12 : w2.cell? ⟨vb, 12, none⟩ = some (.bool false) := HV2.out.cell 12
  have z13 : w2.cell? ⟨vb, 13, none⟩ = some (.bool false) := HV2.out.cell 13
  have hfr := HV2.out.free
  go_wp2_with fail
  have hR : Whole (((((((((((((((w2.setCell ⟨vb, 0, none⟩ (.int .i64 0)).setCell ⟨vb, 1, none⟩ (.int .i64 0)).setCell ⟨vb, 2, none⟩ (.int .i64 0)).setCell ⟨vb, 3, none⟩ (.bool false)).setCell ⟨vb, 4, none⟩ (.bool false)).setCell ⟨vb, 5, none⟩ (.int .i64 0)).setCell ⟨vb, 6, none⟩ (.bool false)).setCell ⟨vb, 7, none⟩ (.bool false)).setCell ⟨vb, 8, none⟩ (.int .i64 0)).setCell ⟨vb, 9, none⟩ (.bool false)).setCell ⟨vb, 10, none⟩ (.bool false)).setCell ⟨vb, 11, none⟩ (.int .i64 0)).setCell ⟨vb, 12, none⟩ (.bool false)).setCell ⟨vb, 13, none⟩ (.bool false))) vb 46 #[.int .i64 0, .int .i64 0, .int .i64 0, .bool false, .bool false, .int .i64 0, .bool false, .bool false, .int .i64 0, .bool false, .bool false, .int .i64 0, .bool false, .bool false] := Whole.setW (l := [.int .i64 0, .int .i64 0, .int .i64 0, .bool false, .bool false, .int .i64 0, .bool false, .bool false, .int .i64 0, .bool false, .bool false, .int .i64 0, .bool false, .bool false]) [.int .i64 0, .int .i64 0, .int .i64 0, .bool false, .bool false, .int .i64 0, .bool false, .bool false, .int .i64 0, .bool false, .bool false, .int .i64 0, .bool false, .bool false] 0 HV2.out
  have hB := below_setW (g := vb) HCB.out [.int .i64 0, .int .i64 0, .int .i64 0, .bool false, .bool false, .int .i64 0, .bool false, .bool false, .int .i64 0, .bool false, .bool false, .int .i64 0, .bool false, .bool false] 0 HB2.out
  have k0 := hR.cell 0
  have k1 := hR.cell 1
  have k2 := hR.cell 2
  have k3 := hR.cell 3
  have k4 := hR.cell 4
  have k5 := hR.cell 5
  have k6 := hR.cell 6
  have k7 := hR.cell 7
  have k8 := hR.cell 8
  have k9 := hR.cell 9
  have k10 := hR.cell 10
  have k11 := hR.cell 11
  have k12 := hR.cell 12
  have k13 := hR.cell 13
  refine bodyPost_ret (v := .tuple #[.agg #[.int .i64 0, .int .i64 0, .int .i64 0, .bool false, .bool false, .int .i64 0, .bool false, .bool false, .int .i64 0, .bool false, .bool false, .int .i64 0, .bool false, .bool false], .bool false]) ?_ rfl ⟨rfl, hB⟩
  simp [results, Tryd.f30, go_sem, k0, k1, k2, k3, k4, k5, k6, k7, k8, k9, k10, k11, k12, k13]
/-- The cells of a row, from place k on. -/
theorem row_lane {w : World} {g : Nat} {T : TypeId} {vs : List VD} {k i : Nat} (_ : Whole w g T (rowA vs)) (hi : k + i < vs.length) : ∃ v, vs[k + i]? = some v ∧ v.a = laneV vs k i := by
  refine ⟨vs[k + i], List.getElem?_eq_getElem hi, ?_⟩
  unfold laneV
  rw [List.getElem?_eq_getElem hi]; rfl
/-- What the rounds of a reading keep. -/
structure RdS (w W : World) (g vb : Nat) (t o : Int) (vs : List VD) (k i : Nat) : Prop where
  b : Below w.heap.size w W
  r : Whole W g 46 (rowA vs)
  v : Whole W vb 46 (rdV t o vs k i).arr
  lb : w.heap.size ≤ vb
  ne : g ≠ vb
theorem RdS.put0 {w W : World} {g vb : Nat} {t o : Int} {vs : List VD} {k : Nat} (h : RdS w W g vb t o vs k 0) (ob : Obj) : RdS w ((((W.setCell ⟨vb, 2, none⟩ (.int .i64 (laneV vs k 0).n)).setCell ⟨vb, 3, none⟩ (.bool (laneV vs k 0).p)).setCell ⟨vb, 4, none⟩ (.bool (laneV vs k 0).u)).alloc ob) g vb t o vs k 1 := by
  have hb := ((h.b.setCell h.lb (p := ⟨vb, 2, none⟩) (.int .i64 (laneV vs k 0).n)).setCell h.lb (p := ⟨vb, 3, none⟩) (.bool (laneV vs k 0).p)).setCell h.lb (p := ⟨vb, 4, none⟩) (.bool (laneV vs k 0).u)
  exact ⟨hb.alloc hb.size ob, (((h.r.far (p := ⟨vb, 2, none⟩) h.ne _).far (p := ⟨vb, 3, none⟩) h.ne _).far (p := ⟨vb, 4, none⟩) h.ne _).alloc ob, (((h.v.set 2 (.int .i64 (laneV vs k 0).n)).set 3 (.bool (laneV vs k 0).p)).set 4 (.bool (laneV vs k 0).u)).alloc ob, h.lb, h.ne⟩
theorem RdS.put1 {w W : World} {g vb : Nat} {t o : Int} {vs : List VD} {k : Nat} (h : RdS w W g vb t o vs k 1) (ob : Obj) : RdS w ((((W.setCell ⟨vb, 5, none⟩ (.int .i64 (laneV vs k 1).n)).setCell ⟨vb, 6, none⟩ (.bool (laneV vs k 1).p)).setCell ⟨vb, 7, none⟩ (.bool (laneV vs k 1).u)).alloc ob) g vb t o vs k 2 := by
  have hb := ((h.b.setCell h.lb (p := ⟨vb, 5, none⟩) (.int .i64 (laneV vs k 1).n)).setCell h.lb (p := ⟨vb, 6, none⟩) (.bool (laneV vs k 1).p)).setCell h.lb (p := ⟨vb, 7, none⟩) (.bool (laneV vs k 1).u)
  exact ⟨hb.alloc hb.size ob, (((h.r.far (p := ⟨vb, 5, none⟩) h.ne _).far (p := ⟨vb, 6, none⟩) h.ne _).far (p := ⟨vb, 7, none⟩) h.ne _).alloc ob, (((h.v.set 5 (.int .i64 (laneV vs k 1).n)).set 6 (.bool (laneV vs k 1).p)).set 7 (.bool (laneV vs k 1).u)).alloc ob, h.lb, h.ne⟩
theorem RdS.put2 {w W : World} {g vb : Nat} {t o : Int} {vs : List VD} {k : Nat} (h : RdS w W g vb t o vs k 2) (ob : Obj) : RdS w ((((W.setCell ⟨vb, 8, none⟩ (.int .i64 (laneV vs k 2).n)).setCell ⟨vb, 9, none⟩ (.bool (laneV vs k 2).p)).setCell ⟨vb, 10, none⟩ (.bool (laneV vs k 2).u)).alloc ob) g vb t o vs k 3 := by
  have hb := ((h.b.setCell h.lb (p := ⟨vb, 8, none⟩) (.int .i64 (laneV vs k 2).n)).setCell h.lb (p := ⟨vb, 9, none⟩) (.bool (laneV vs k 2).p)).setCell h.lb (p := ⟨vb, 10, none⟩) (.bool (laneV vs k 2).u)
  exact ⟨hb.alloc hb.size ob, (((h.r.far (p := ⟨vb, 8, none⟩) h.ne _).far (p := ⟨vb, 9, none⟩) h.ne _).far (p := ⟨vb, 10, none⟩) h.ne _).alloc ob, (((h.v.set 8 (.int .i64 (laneV vs k 2).n)).set 9 (.bool (laneV vs k 2).p)).set 10 (.bool (laneV vs k 2).u)).alloc ob, h.lb, h.ne⟩
theorem RdS.put3 {w W : World} {g vb : Nat} {t o : Int} {vs : List VD} {k : Nat} (h : RdS w W g vb t o vs k 3) (ob : Obj) : RdS w ((((W.setCell ⟨vb, 11, none⟩ (.int .i64 (laneV vs k 3).n)).setCell ⟨vb, 12, none⟩ (.bool (laneV vs k 3).p)).setCell ⟨vb, 13, none⟩ (.bool (laneV vs k 3).u)).alloc ob) g vb t o vs k 4 := by
  have hb := ((h.b.setCell h.lb (p := ⟨vb, 11, none⟩) (.int .i64 (laneV vs k 3).n)).setCell h.lb (p := ⟨vb, 12, none⟩) (.bool (laneV vs k 3).p)).setCell h.lb (p := ⟨vb, 13, none⟩) (.bool (laneV vs k 3).u)
  exact ⟨hb.alloc hb.size ob, (((h.r.far (p := ⟨vb, 11, none⟩) h.ne _).far (p := ⟨vb, 12, none⟩) h.ne _).far (p := ⟨vb, 13, none⟩) h.ne _).alloc ob, (((h.v.set 11 (.int .i64 (laneV vs k 3).n)).set 12 (.bool (laneV vs k 3).p)).set 13 (.bool (laneV vs k 3).u)).alloc ob, h.lb, h.ne⟩
set_option maxRecDepth 100000 in
set_option maxHeartbeats 8000000 in
theorem read_in1 (t o : Int) (g n k : Nat) (vs : List VD) (hn : n ≤ 256) (hl : vs.length = n) (hm : accN t = 1) (hkm : k + 1 ≤ n) (ho : (vs[k]?).map VD.o = some o) (w : World) (hr : Whole w g 46 (rowA vs)) :
    Calls Tryd.prog 30 #[.agg #[.int .i64 (accT t), .slice (some ⟨g, 0, none⟩) n n], .int .i64 (k : Int), .int .i64 t] w fun e w' => e = .returned (.tuple #[.agg #[.int .i64 t, .int .i64 o, .int .i64 (laneV vs k 0).n, .bool (laneV vs k 0).p, .bool (laneV vs k 0).u, .int .i64 0, .bool false, .bool false, .int .i64 0, .bool false, .bool false, .int .i64 0, .bool false, .bool false], .bool true]) ∧ Below w.heap.size w w' := by
  have HSP := hide (fun W => span_in t g n k 1 hn hm (by omega) hkm W)
  have hnil : ∀ W, (binOp .eql 66 (.slice (some ⟨g, k * 14, none⟩) 1 (n - k)) (.slice none 0 0)).run Tryd.prog W = .ok (.bool false) W := fun W => Lib.run_eql_slice_nil W 66 46 _ _ _ 0 0 Tryd.underlying66
  obtain ⟨at', hat⟩ : ∃ x, accT t = x := ⟨_, rfl⟩
  rw [hat] at HSP
  rw [hat]
  obtain ⟨nk, hnk⟩ : ∃ x, n - k = x := ⟨_, rfl⟩
  rw [hnk] at HSP hnil
  obtain ⟨v0, hv0⟩ : ∃ v, vs[k]? = some v := ⟨_, List.getElem?_eq_getElem (by omega)⟩
  have hov : v0.o = o := by rw [hv0] at ho; simpa using ho
  have HV0 := hide hv0
  have HOV := hide hov
  have HL := hide (And.intro hl (And.intro hkm hn))
  have hnk1 : 1 ≤ nk := by omega
  have hnk9 : nk ≤ 9223372036854775807 := by omega
  obtain ⟨cb, hcb⟩ : ∃ x, w.heap.size = x := ⟨_, rfl⟩
  obtain ⟨w1, hw1⟩ : ∃ x, (w.alloc (.cells #[.int .i64 at', .slice (some ⟨g, 0, none⟩) n n] 84)).alloc (.cells #[.int .i64 0, .int .i64 0, .int .i64 0, .bool false, .bool false, .int .i64 0, .bool false, .bool false, .int .i64 0, .bool false, .bool false, .int .i64 0, .bool false, .bool false] 46) = x := ⟨_, rfl⟩
  have HB : Hid (Below w.heap.size w w1) := hide (by rw [← hw1]; exact ((Below.refl _ _).alloc (Nat.le_refl _) _).alloc (by simp [go_sem]) _)
  have HR : Hid (Whole w1 g 46 (rowA vs)) := hide (hr.below' HB.out)
  have HW : Hid (Whole w1 cb 84 #[.int .i64 at', .slice (some ⟨g, 0, none⟩) n n]) := hide (by rw [← hw1, ← hcb]; exact (Whole.new _ _ _).alloc _)
  have HV : Hid (Whole w1 (cb + 1) 46 #[.int .i64 0, .int .i64 0, .int .i64 0, .bool false, .bool false, .int .i64 0, .bool false, .bool false, .int .i64 0, .bool false, .bool false, .int .i64 0, .bool false, .bool false]) := hide (by
    rw [← hw1, ← hcb]
    have h0 := Whole.new (w.alloc (.cells #[.int .i64 at', .slice (some ⟨g, 0, none⟩) n n] 84)) 46 #[.int .i64 0, .int .i64 0, .int .i64 0, .bool false, .bool false, .int .i64 0, .bool false, .bool false, .int .i64 0, .bool false, .bool false, .int .i64 0, .bool false, .bool false]
    rw [World.size_alloc] at h0
    exact h0)
  have c0 : w1.cell? ⟨cb, 0, none⟩ = some (.int .i64 at') := HW.out.cell 0
  have c1 : w1.cell? ⟨cb, 1, none⟩ = some (.slice (some ⟨g, 0, none⟩) n n) := HW.out.cell 1
  have HCB : Hid (w.heap.size ≤ cb + 1 ∧ g ≠ cb + 1) := hide (by have := hr.lt; omega)
  clear hn hl hm hkm ho hr hat hnk hv0 hov
  go_enter Tryd.func30, Tryd.ntmps30
  go_upto_region 1 with fail
  clear hw1 hcb
  obtain ⟨vb, hvb⟩ : ∃ x, cb + 1 = x := ⟨_, rfl⟩
  rw [hvb] at HV HCB
  rw [hvb]
  clear hvb
  go_wp2_with fail
  refine (HSP.out _).mono ?_
  rintro en w2 ⟨rfl, hb2⟩
  replace HR := hide (HR.out.below' hb2)
  have HV2 := hide (HV.out.below' hb2)
  have HB2 := hide (Below.all HB.out hb2)
  clear hb2 c0 c1
  have z0 : w2.cell? ⟨vb, 0, none⟩ = some (.int .i64 0) := HV2.out.cell 0
  have z1 : w2.cell? ⟨vb, 1, none⟩ = some (.int .i64 0) := HV2.out.cell 1
  have z2 : w2.cell? ⟨vb, 2, none⟩ = some (.int .i64 0) := HV2.out.cell 2
  have z3 : w2.cell? ⟨vb, 3, none⟩ = some (.bool false) := HV2.out.cell 3
  have z4 : w2.cell? ⟨vb, 4, none⟩ = some (.bool false) := HV2.out.cell 4
  have z5 : w2.cell? ⟨vb, 5, none⟩ = some (.int .i64 0) := HV2.out.cell 5
  have z6 : w2.cell? ⟨vb, 6, none⟩ = some (.bool false) := HV2.out.cell 6
  have z7 : w2.cell? ⟨vb, 7, none⟩ = some (.bool false) := HV2.out.cell 7
  have z8 : w2.cell? ⟨vb, 8, none⟩ = some (.int .i64 0) := HV2.out.cell 8
  have z9 : w2.cell? ⟨vb, 9, none⟩ = some (.bool false) := HV2.out.cell 9
  have z10 : w2.cell? ⟨vb, 10, none⟩ = some (.bool false) := HV2.out.cell 10
  have z11 : w2.cell? ⟨vb, 11, none⟩ = some (.int .i64 0) := HV2.out.cell 11
  have z12 : w2.cell? ⟨vb, 12, none⟩ = some (.bool false) := HV2.out.cell 12
  have z13 : w2.cell? ⟨vb, 13, none⟩ = some (.bool false) := HV2.out.cell 13
  have hfr := HV2.out.free
  have y1 : w2.cell? ⟨g, k * 14 + 1, none⟩ = some (.int .i64 o) := by
    obtain ⟨_, h1, _⟩ := row_cells HR.out HV0.out
    rw [← HOV.out]; exact h1
  go_upto_region 5 with fail
  obtain ⟨w3, hw3⟩ : ∃ X, ((((((((((((((w2.setCell ⟨vb, 0, none⟩ (.int .i64 t)).setCell ⟨vb, 1, none⟩ (.int .i64 o)).setCell ⟨vb, 2, none⟩ (.int .i64 0)).setCell ⟨vb, 3, none⟩ (.bool false)).setCell ⟨vb, 4, none⟩ (.bool false)).setCell ⟨vb, 5, none⟩ (.int .i64 0)).setCell ⟨vb, 6, none⟩ (.bool false)).setCell ⟨vb, 7, none⟩ (.bool false)).setCell ⟨vb, 8, none⟩ (.int .i64 0)).setCell ⟨vb, 9, none⟩ (.bool false)).setCell ⟨vb, 10, none⟩ (.bool false)).setCell ⟨vb, 11, none⟩ (.int .i64 0)).setCell ⟨vb, 12, none⟩ (.bool false)).setCell ⟨vb, 13, none⟩ (.bool false)) = X := ⟨_, rfl⟩
  have HV3 : Hid (Whole w3 vb 46 #[.int .i64 t, .int .i64 o, .int .i64 0, .bool false, .bool false, .int .i64 0, .bool false, .bool false, .int .i64 0, .bool false, .bool false, .int .i64 0, .bool false, .bool false]) := hide (by rw [← hw3]; exact Whole.setW (l := [.int .i64 0, .int .i64 0, .int .i64 0, .bool false, .bool false, .int .i64 0, .bool false, .bool false, .int .i64 0, .bool false, .bool false, .int .i64 0, .bool false, .bool false]) [.int .i64 t, .int .i64 o, .int .i64 0, .bool false, .bool false, .int .i64 0, .bool false, .bool false, .int .i64 0, .bool false, .bool false, .int .i64 0, .bool false, .bool false] 0 HV2.out)
  have hg3 : w2.grownBy w3 (some vb) := by rw [← hw3]; exact only_setW (g := vb) [.int .i64 t, .int .i64 o, .int .i64 0, .bool false, .bool false, .int .i64 0, .bool false, .bool false, .int .i64 0, .bool false, .bool false, .int .i64 0, .bool false, .bool false] 0 (only_refl w2 vb)
  have HB3 : Hid (Below w.heap.size w w3) := hide (HB2.out.grown hg3 HB2.out.size (fun k hk => by have := Option.some.inj hk; subst this; exact HCB.out.1))
  have HR3 : Hid (Whole w3 g 46 (rowA vs)) := hide (HR.out.grown hg3 (fun e => HCB.out.2 (Option.some.inj e)))
  simp only [hw3]
  clear hw3 hg3 hfr y1 z0 z1 z2 z3 z4 z5 z6 z7 z8 z9 z10 z11 z12 z13
  have HS : Hid (RdS w w3 g vb t o vs k 0) := hide ⟨HB3.out, HR3.out, HV3.out, HCB.out.1, HCB.out.2⟩
  go_wp2_with fail
  go_loopw [26] (fun v W => ∃ i : Nat, v = .int .i64 (i : Int) ∧ i ≤ 1 ∧ RdS w W g vb t o vs k i) (fun v _ => 1 - (intOf v).toNat)
  case atStart => exact ⟨0, rfl, by omega, HS.out⟩
  case round =>
    obtain ⟨i, rfl, hi, hS⟩ := hrel
    replace HS := hide hS
    clear hS
    rcases (show i = 0 ∨ i = 1 by omega) with rfl | rfl
    · obtain ⟨v, hv, hla⟩ := row_lane HS.out.r (k := k) (i := 0) (by have := HL.out; omega)
      obtain ⟨y0, y1, y2, y3, y4, y5, y6, y7, y8, y9, y10, y11, y12, y13⟩ := row_cells HS.out.r hv
      rw [show (k + 0) * 14 = k * 14 by omega] at y0 y1 y2 y3 y4 y5 y6 y7 y8 y9 y10 y11 y12 y13
      rw [hla] at y2 y3 y4
      have x2 : World.cell? _ ⟨vb, 2, none⟩ = some (.int .i64 0) := HS.out.v.cell 2
      have x3 : World.cell? _ ⟨vb, 3, none⟩ = some (.bool false) := HS.out.v.cell 3
      have x4 : World.cell? _ ⟨vb, 4, none⟩ = some (.bool false) := HS.out.v.cell 4
      have hfr := HS.out.v.free
      have hvl := HS.out.v.lt
      clear hv hla
      go_wp2_with fail
      go_roundw
      case rel => exact ⟨1, rfl, by omega, HS.out.put0 _⟩
      case measure => simp [intOf]
    · clear hi
      have x0 : World.cell? _ ⟨vb, 0, none⟩ = some (.int .i64 t) := HS.out.v.cell 0
      have x1 : World.cell? _ ⟨vb, 1, none⟩ = some (.int .i64 o) := HS.out.v.cell 1
      have x2 : World.cell? _ ⟨vb, 2, none⟩ = some (.int .i64 (laneV vs k 0).n) := HS.out.v.cell 2
      have x3 : World.cell? _ ⟨vb, 3, none⟩ = some (.bool (laneV vs k 0).p) := HS.out.v.cell 3
      have x4 : World.cell? _ ⟨vb, 4, none⟩ = some (.bool (laneV vs k 0).u) := HS.out.v.cell 4
      have x5 : World.cell? _ ⟨vb, 5, none⟩ = some (.int .i64 0) := HS.out.v.cell 5
      have x6 : World.cell? _ ⟨vb, 6, none⟩ = some (.bool false) := HS.out.v.cell 6
      have x7 : World.cell? _ ⟨vb, 7, none⟩ = some (.bool false) := HS.out.v.cell 7
      have x8 : World.cell? _ ⟨vb, 8, none⟩ = some (.int .i64 0) := HS.out.v.cell 8
      have x9 : World.cell? _ ⟨vb, 9, none⟩ = some (.bool false) := HS.out.v.cell 9
      have x10 : World.cell? _ ⟨vb, 10, none⟩ = some (.bool false) := HS.out.v.cell 10
      have x11 : World.cell? _ ⟨vb, 11, none⟩ = some (.int .i64 0) := HS.out.v.cell 11
      have x12 : World.cell? _ ⟨vb, 12, none⟩ = some (.bool false) := HS.out.v.cell 12
      have x13 : World.cell? _ ⟨vb, 13, none⟩ = some (.bool false) := HS.out.v.cell 13
      have hfr := HS.out.v.free
      go_wp2_with fail
      have hR : Whole (((((((((((((((wr.setCell ⟨vb, 0, none⟩ (.int .i64 t)).setCell ⟨vb, 1, none⟩ (.int .i64 o)).setCell ⟨vb, 2, none⟩ (.int .i64 (laneV vs k 0).n)).setCell ⟨vb, 3, none⟩ (.bool (laneV vs k 0).p)).setCell ⟨vb, 4, none⟩ (.bool (laneV vs k 0).u)).setCell ⟨vb, 5, none⟩ (.int .i64 0)).setCell ⟨vb, 6, none⟩ (.bool false)).setCell ⟨vb, 7, none⟩ (.bool false)).setCell ⟨vb, 8, none⟩ (.int .i64 0)).setCell ⟨vb, 9, none⟩ (.bool false)).setCell ⟨vb, 10, none⟩ (.bool false)).setCell ⟨vb, 11, none⟩ (.int .i64 0)).setCell ⟨vb, 12, none⟩ (.bool false)).setCell ⟨vb, 13, none⟩ (.bool false))) vb 46 #[.int .i64 t, .int .i64 o, .int .i64 (laneV vs k 0).n, .bool (laneV vs k 0).p, .bool (laneV vs k 0).u, .int .i64 0, .bool false, .bool false, .int .i64 0, .bool false, .bool false, .int .i64 0, .bool false, .bool false] := Whole.setW (l := [.int .i64 t, .int .i64 o, .int .i64 (laneV vs k 0).n, .bool (laneV vs k 0).p, .bool (laneV vs k 0).u, .int .i64 0, .bool false, .bool false, .int .i64 0, .bool false, .bool false, .int .i64 0, .bool false, .bool false]) [.int .i64 t, .int .i64 o, .int .i64 (laneV vs k 0).n, .bool (laneV vs k 0).p, .bool (laneV vs k 0).u, .int .i64 0, .bool false, .bool false, .int .i64 0, .bool false, .bool false, .int .i64 0, .bool false, .bool false] 0 HS.out.v
      have hB := below_setW (g := vb) HS.out.lb [.int .i64 t, .int .i64 o, .int .i64 (laneV vs k 0).n, .bool (laneV vs k 0).p, .bool (laneV vs k 0).u, .int .i64 0, .bool false, .bool false, .int .i64 0, .bool false, .bool false, .int .i64 0, .bool false, .bool false] 0 HS.out.b
      have k0 := hR.cell 0
      have k1 := hR.cell 1
      have k2 := hR.cell 2
      have k3 := hR.cell 3
      have k4 := hR.cell 4
      have k5 := hR.cell 5
      have k6 := hR.cell 6
      have k7 := hR.cell 7
      have k8 := hR.cell 8
      have k9 := hR.cell 9
      have k10 := hR.cell 10
      have k11 := hR.cell 11
      have k12 := hR.cell 12
      have k13 := hR.cell 13
      refine bodyPost_ret (v := .tuple #[.agg #[.int .i64 t, .int .i64 o, .int .i64 (laneV vs k 0).n, .bool (laneV vs k 0).p, .bool (laneV vs k 0).u, .int .i64 0, .bool false, .bool false, .int .i64 0, .bool false, .bool false, .int .i64 0, .bool false, .bool false], .bool true]) ?_ rfl ⟨rfl, hB⟩
      simp [results, Tryd.f30, go_sem, k0, k1, k2, k3, k4, k5, k6, k7, k8, k9, k10, k11, k12, k13]
set_option maxRecDepth 100000 in
set_option maxHeartbeats 8000000 in
theorem read_in2 (t o : Int) (g n k : Nat) (vs : List VD) (hn : n ≤ 256) (hl : vs.length = n) (hm : accN t = 2) (hkm : k + 2 ≤ n) (ho : (vs[k]?).map VD.o = some o) (w : World) (hr : Whole w g 46 (rowA vs)) :
    Calls Tryd.prog 30 #[.agg #[.int .i64 (accT t), .slice (some ⟨g, 0, none⟩) n n], .int .i64 (k : Int), .int .i64 t] w fun e w' => e = .returned (.tuple #[.agg #[.int .i64 t, .int .i64 o, .int .i64 (laneV vs k 0).n, .bool (laneV vs k 0).p, .bool (laneV vs k 0).u, .int .i64 (laneV vs k 1).n, .bool (laneV vs k 1).p, .bool (laneV vs k 1).u, .int .i64 0, .bool false, .bool false, .int .i64 0, .bool false, .bool false], .bool true]) ∧ Below w.heap.size w w' := by
  have HSP := hide (fun W => span_in t g n k 2 hn hm (by omega) hkm W)
  have hnil : ∀ W, (binOp .eql 66 (.slice (some ⟨g, k * 14, none⟩) 2 (n - k)) (.slice none 0 0)).run Tryd.prog W = .ok (.bool false) W := fun W => Lib.run_eql_slice_nil W 66 46 _ _ _ 0 0 Tryd.underlying66
  obtain ⟨at', hat⟩ : ∃ x, accT t = x := ⟨_, rfl⟩
  rw [hat] at HSP
  rw [hat]
  obtain ⟨nk, hnk⟩ : ∃ x, n - k = x := ⟨_, rfl⟩
  rw [hnk] at HSP hnil
  obtain ⟨v0, hv0⟩ : ∃ v, vs[k]? = some v := ⟨_, List.getElem?_eq_getElem (by omega)⟩
  have hov : v0.o = o := by rw [hv0] at ho; simpa using ho
  have HV0 := hide hv0
  have HOV := hide hov
  have HL := hide (And.intro hl (And.intro hkm hn))
  have hnk1 : 2 ≤ nk := by omega
  have hnk9 : nk ≤ 9223372036854775807 := by omega
  obtain ⟨cb, hcb⟩ : ∃ x, w.heap.size = x := ⟨_, rfl⟩
  obtain ⟨w1, hw1⟩ : ∃ x, (w.alloc (.cells #[.int .i64 at', .slice (some ⟨g, 0, none⟩) n n] 84)).alloc (.cells #[.int .i64 0, .int .i64 0, .int .i64 0, .bool false, .bool false, .int .i64 0, .bool false, .bool false, .int .i64 0, .bool false, .bool false, .int .i64 0, .bool false, .bool false] 46) = x := ⟨_, rfl⟩
  have HB : Hid (Below w.heap.size w w1) := hide (by rw [← hw1]; exact ((Below.refl _ _).alloc (Nat.le_refl _) _).alloc (by simp [go_sem]) _)
  have HR : Hid (Whole w1 g 46 (rowA vs)) := hide (hr.below' HB.out)
  have HW : Hid (Whole w1 cb 84 #[.int .i64 at', .slice (some ⟨g, 0, none⟩) n n]) := hide (by rw [← hw1, ← hcb]; exact (Whole.new _ _ _).alloc _)
  have HV : Hid (Whole w1 (cb + 1) 46 #[.int .i64 0, .int .i64 0, .int .i64 0, .bool false, .bool false, .int .i64 0, .bool false, .bool false, .int .i64 0, .bool false, .bool false, .int .i64 0, .bool false, .bool false]) := hide (by
    rw [← hw1, ← hcb]
    have h0 := Whole.new (w.alloc (.cells #[.int .i64 at', .slice (some ⟨g, 0, none⟩) n n] 84)) 46 #[.int .i64 0, .int .i64 0, .int .i64 0, .bool false, .bool false, .int .i64 0, .bool false, .bool false, .int .i64 0, .bool false, .bool false, .int .i64 0, .bool false, .bool false]
    rw [World.size_alloc] at h0
    exact h0)
  have c0 : w1.cell? ⟨cb, 0, none⟩ = some (.int .i64 at') := HW.out.cell 0
  have c1 : w1.cell? ⟨cb, 1, none⟩ = some (.slice (some ⟨g, 0, none⟩) n n) := HW.out.cell 1
  have HCB : Hid (w.heap.size ≤ cb + 1 ∧ g ≠ cb + 1) := hide (by have := hr.lt; omega)
  clear hn hl hm hkm ho hr hat hnk hv0 hov
  go_enter Tryd.func30, Tryd.ntmps30
  go_upto_region 1 with fail
  clear hw1 hcb
  obtain ⟨vb, hvb⟩ : ∃ x, cb + 1 = x := ⟨_, rfl⟩
  rw [hvb] at HV HCB
  rw [hvb]
  clear hvb
  go_wp2_with fail
  refine (HSP.out _).mono ?_
  rintro en w2 ⟨rfl, hb2⟩
  replace HR := hide (HR.out.below' hb2)
  have HV2 := hide (HV.out.below' hb2)
  have HB2 := hide (Below.all HB.out hb2)
  clear hb2 c0 c1
  have z0 : w2.cell? ⟨vb, 0, none⟩ = some (.int .i64 0) := HV2.out.cell 0
  have z1 : w2.cell? ⟨vb, 1, none⟩ = some (.int .i64 0) := HV2.out.cell 1
  have z2 : w2.cell? ⟨vb, 2, none⟩ = some (.int .i64 0) := HV2.out.cell 2
  have z3 : w2.cell? ⟨vb, 3, none⟩ = some (.bool false) := HV2.out.cell 3
  have z4 : w2.cell? ⟨vb, 4, none⟩ = some (.bool false) := HV2.out.cell 4
  have z5 : w2.cell? ⟨vb, 5, none⟩ = some (.int .i64 0) := HV2.out.cell 5
  have z6 : w2.cell? ⟨vb, 6, none⟩ = some (.bool false) := HV2.out.cell 6
  have z7 : w2.cell? ⟨vb, 7, none⟩ = some (.bool false) := HV2.out.cell 7
  have z8 : w2.cell? ⟨vb, 8, none⟩ = some (.int .i64 0) := HV2.out.cell 8
  have z9 : w2.cell? ⟨vb, 9, none⟩ = some (.bool false) := HV2.out.cell 9
  have z10 : w2.cell? ⟨vb, 10, none⟩ = some (.bool false) := HV2.out.cell 10
  have z11 : w2.cell? ⟨vb, 11, none⟩ = some (.int .i64 0) := HV2.out.cell 11
  have z12 : w2.cell? ⟨vb, 12, none⟩ = some (.bool false) := HV2.out.cell 12
  have z13 : w2.cell? ⟨vb, 13, none⟩ = some (.bool false) := HV2.out.cell 13
  have hfr := HV2.out.free
  have y1 : w2.cell? ⟨g, k * 14 + 1, none⟩ = some (.int .i64 o) := by
    obtain ⟨_, h1, _⟩ := row_cells HR.out HV0.out
    rw [← HOV.out]; exact h1
  go_upto_region 5 with fail
  obtain ⟨w3, hw3⟩ : ∃ X, ((((((((((((((w2.setCell ⟨vb, 0, none⟩ (.int .i64 t)).setCell ⟨vb, 1, none⟩ (.int .i64 o)).setCell ⟨vb, 2, none⟩ (.int .i64 0)).setCell ⟨vb, 3, none⟩ (.bool false)).setCell ⟨vb, 4, none⟩ (.bool false)).setCell ⟨vb, 5, none⟩ (.int .i64 0)).setCell ⟨vb, 6, none⟩ (.bool false)).setCell ⟨vb, 7, none⟩ (.bool false)).setCell ⟨vb, 8, none⟩ (.int .i64 0)).setCell ⟨vb, 9, none⟩ (.bool false)).setCell ⟨vb, 10, none⟩ (.bool false)).setCell ⟨vb, 11, none⟩ (.int .i64 0)).setCell ⟨vb, 12, none⟩ (.bool false)).setCell ⟨vb, 13, none⟩ (.bool false)) = X := ⟨_, rfl⟩
  have HV3 : Hid (Whole w3 vb 46 #[.int .i64 t, .int .i64 o, .int .i64 0, .bool false, .bool false, .int .i64 0, .bool false, .bool false, .int .i64 0, .bool false, .bool false, .int .i64 0, .bool false, .bool false]) := hide (by rw [← hw3]; exact Whole.setW (l := [.int .i64 0, .int .i64 0, .int .i64 0, .bool false, .bool false, .int .i64 0, .bool false, .bool false, .int .i64 0, .bool false, .bool false, .int .i64 0, .bool false, .bool false]) [.int .i64 t, .int .i64 o, .int .i64 0, .bool false, .bool false, .int .i64 0, .bool false, .bool false, .int .i64 0, .bool false, .bool false, .int .i64 0, .bool false, .bool false] 0 HV2.out)
  have hg3 : w2.grownBy w3 (some vb) := by rw [← hw3]; exact only_setW (g := vb) [.int .i64 t, .int .i64 o, .int .i64 0, .bool false, .bool false, .int .i64 0, .bool false, .bool false, .int .i64 0, .bool false, .bool false, .int .i64 0, .bool false, .bool false] 0 (only_refl w2 vb)
  have HB3 : Hid (Below w.heap.size w w3) := hide (HB2.out.grown hg3 HB2.out.size (fun k hk => by have := Option.some.inj hk; subst this; exact HCB.out.1))
  have HR3 : Hid (Whole w3 g 46 (rowA vs)) := hide (HR.out.grown hg3 (fun e => HCB.out.2 (Option.some.inj e)))
  simp only [hw3]
  clear hw3 hg3 hfr y1 z0 z1 z2 z3 z4 z5 z6 z7 z8 z9 z10 z11 z12 z13
  have HS : Hid (RdS w w3 g vb t o vs k 0) := hide ⟨HB3.out, HR3.out, HV3.out, HCB.out.1, HCB.out.2⟩
  go_wp2_with fail
  go_loopw [26] (fun v W => ∃ i : Nat, v = .int .i64 (i : Int) ∧ i ≤ 2 ∧ RdS w W g vb t o vs k i) (fun v _ => 2 - (intOf v).toNat)
  case atStart => exact ⟨0, rfl, by omega, HS.out⟩
  case round =>
    obtain ⟨i, rfl, hi, hS⟩ := hrel
    replace HS := hide hS
    clear hS
    rcases (show i = 0 ∨ i = 1 ∨ i = 2 by omega) with rfl | rfl | rfl
    · obtain ⟨v, hv, hla⟩ := row_lane HS.out.r (k := k) (i := 0) (by have := HL.out; omega)
      obtain ⟨y0, y1, y2, y3, y4, y5, y6, y7, y8, y9, y10, y11, y12, y13⟩ := row_cells HS.out.r hv
      rw [show (k + 0) * 14 = k * 14 by omega] at y0 y1 y2 y3 y4 y5 y6 y7 y8 y9 y10 y11 y12 y13
      rw [hla] at y2 y3 y4
      have x2 : World.cell? _ ⟨vb, 2, none⟩ = some (.int .i64 0) := HS.out.v.cell 2
      have x3 : World.cell? _ ⟨vb, 3, none⟩ = some (.bool false) := HS.out.v.cell 3
      have x4 : World.cell? _ ⟨vb, 4, none⟩ = some (.bool false) := HS.out.v.cell 4
      have hfr := HS.out.v.free
      have hvl := HS.out.v.lt
      clear hv hla
      go_wp2_with fail
      go_roundw
      case rel => exact ⟨1, rfl, by omega, HS.out.put0 _⟩
      case measure => simp [intOf]
    · obtain ⟨v, hv, hla⟩ := row_lane HS.out.r (k := k) (i := 1) (by have := HL.out; omega)
      obtain ⟨y0, y1, y2, y3, y4, y5, y6, y7, y8, y9, y10, y11, y12, y13⟩ := row_cells HS.out.r hv
      rw [show (k + 1) * 14 = k * 14 + 14 by omega] at y0 y1 y2 y3 y4 y5 y6 y7 y8 y9 y10 y11 y12 y13
      simp only [Nat.add_assoc, Nat.reduceAdd] at y1 y2 y3 y4 y5 y6 y7 y8 y9 y10 y11 y12 y13
      rw [hla] at y2 y3 y4
      have x5 : World.cell? _ ⟨vb, 5, none⟩ = some (.int .i64 0) := HS.out.v.cell 5
      have x6 : World.cell? _ ⟨vb, 6, none⟩ = some (.bool false) := HS.out.v.cell 6
      have x7 : World.cell? _ ⟨vb, 7, none⟩ = some (.bool false) := HS.out.v.cell 7
      have hfr := HS.out.v.free
      have hvl := HS.out.v.lt
      clear hv hla
      go_wp2_with fail
      go_roundw
      case rel => exact ⟨2, rfl, by omega, HS.out.put1 _⟩
      case measure => simp [intOf]
    · clear hi
      have x0 : World.cell? _ ⟨vb, 0, none⟩ = some (.int .i64 t) := HS.out.v.cell 0
      have x1 : World.cell? _ ⟨vb, 1, none⟩ = some (.int .i64 o) := HS.out.v.cell 1
      have x2 : World.cell? _ ⟨vb, 2, none⟩ = some (.int .i64 (laneV vs k 0).n) := HS.out.v.cell 2
      have x3 : World.cell? _ ⟨vb, 3, none⟩ = some (.bool (laneV vs k 0).p) := HS.out.v.cell 3
      have x4 : World.cell? _ ⟨vb, 4, none⟩ = some (.bool (laneV vs k 0).u) := HS.out.v.cell 4
      have x5 : World.cell? _ ⟨vb, 5, none⟩ = some (.int .i64 (laneV vs k 1).n) := HS.out.v.cell 5
      have x6 : World.cell? _ ⟨vb, 6, none⟩ = some (.bool (laneV vs k 1).p) := HS.out.v.cell 6
      have x7 : World.cell? _ ⟨vb, 7, none⟩ = some (.bool (laneV vs k 1).u) := HS.out.v.cell 7
      have x8 : World.cell? _ ⟨vb, 8, none⟩ = some (.int .i64 0) := HS.out.v.cell 8
      have x9 : World.cell? _ ⟨vb, 9, none⟩ = some (.bool false) := HS.out.v.cell 9
      have x10 : World.cell? _ ⟨vb, 10, none⟩ = some (.bool false) := HS.out.v.cell 10
      have x11 : World.cell? _ ⟨vb, 11, none⟩ = some (.int .i64 0) := HS.out.v.cell 11
      have x12 : World.cell? _ ⟨vb, 12, none⟩ = some (.bool false) := HS.out.v.cell 12
      have x13 : World.cell? _ ⟨vb, 13, none⟩ = some (.bool false) := HS.out.v.cell 13
      have hfr := HS.out.v.free
      go_wp2_with fail
      have hR : Whole (((((((((((((((wr.setCell ⟨vb, 0, none⟩ (.int .i64 t)).setCell ⟨vb, 1, none⟩ (.int .i64 o)).setCell ⟨vb, 2, none⟩ (.int .i64 (laneV vs k 0).n)).setCell ⟨vb, 3, none⟩ (.bool (laneV vs k 0).p)).setCell ⟨vb, 4, none⟩ (.bool (laneV vs k 0).u)).setCell ⟨vb, 5, none⟩ (.int .i64 (laneV vs k 1).n)).setCell ⟨vb, 6, none⟩ (.bool (laneV vs k 1).p)).setCell ⟨vb, 7, none⟩ (.bool (laneV vs k 1).u)).setCell ⟨vb, 8, none⟩ (.int .i64 0)).setCell ⟨vb, 9, none⟩ (.bool false)).setCell ⟨vb, 10, none⟩ (.bool false)).setCell ⟨vb, 11, none⟩ (.int .i64 0)).setCell ⟨vb, 12, none⟩ (.bool false)).setCell ⟨vb, 13, none⟩ (.bool false))) vb 46 #[.int .i64 t, .int .i64 o, .int .i64 (laneV vs k 0).n, .bool (laneV vs k 0).p, .bool (laneV vs k 0).u, .int .i64 (laneV vs k 1).n, .bool (laneV vs k 1).p, .bool (laneV vs k 1).u, .int .i64 0, .bool false, .bool false, .int .i64 0, .bool false, .bool false] := Whole.setW (l := [.int .i64 t, .int .i64 o, .int .i64 (laneV vs k 0).n, .bool (laneV vs k 0).p, .bool (laneV vs k 0).u, .int .i64 (laneV vs k 1).n, .bool (laneV vs k 1).p, .bool (laneV vs k 1).u, .int .i64 0, .bool false, .bool false, .int .i64 0, .bool false, .bool false]) [.int .i64 t, .int .i64 o, .int .i64 (laneV vs k 0).n, .bool (laneV vs k 0).p, .bool (laneV vs k 0).u, .int .i64 (laneV vs k 1).n, .bool (laneV vs k 1).p, .bool (laneV vs k 1).u, .int .i64 0, .bool false, .bool false, .int .i64 0, .bool false, .bool false] 0 HS.out.v
      have hB := below_setW (g := vb) HS.out.lb [.int .i64 t, .int .i64 o, .int .i64 (laneV vs k 0).n, .bool (laneV vs k 0).p, .bool (laneV vs k 0).u, .int .i64 (laneV vs k 1).n, .bool (laneV vs k 1).p, .bool (laneV vs k 1).u, .int .i64 0, .bool false, .bool false, .int .i64 0, .bool false, .bool false] 0 HS.out.b
      have k0 := hR.cell 0
      have k1 := hR.cell 1
      have k2 := hR.cell 2
      have k3 := hR.cell 3
      have k4 := hR.cell 4
      have k5 := hR.cell 5
      have k6 := hR.cell 6
      have k7 := hR.cell 7
      have k8 := hR.cell 8
      have k9 := hR.cell 9
      have k10 := hR.cell 10
      have k11 := hR.cell 11
      have k12 := hR.cell 12
      have k13 := hR.cell 13
      refine bodyPost_ret (v := .tuple #[.agg #[.int .i64 t, .int .i64 o, .int .i64 (laneV vs k 0).n, .bool (laneV vs k 0).p, .bool (laneV vs k 0).u, .int .i64 (laneV vs k 1).n, .bool (laneV vs k 1).p, .bool (laneV vs k 1).u, .int .i64 0, .bool false, .bool false, .int .i64 0, .bool false, .bool false], .bool true]) ?_ rfl ⟨rfl, hB⟩
      simp [results, Tryd.f30, go_sem, k0, k1, k2, k3, k4, k5, k6, k7, k8, k9, k10, k11, k12, k13]
end Go.Proofs.YtjphechnadoblaaDoor
namespace Go.Proofs.YtjphechnadoblaaDoor
open Go.RowKit Go.ChangeShapes Go.WideShapes

/-- What Load keeps. -/
structure LdS (w W : World) (pb vb : Nat) (p u : VD) : Prop where
  b : Below w.heap.size w W
  p : Whole W pb 46 #[.int .i64 p.t, .int .i64 p.o, .int .i64 p.a.n, .bool p.a.p, .bool p.a.u, .int .i64 p.b.n, .bool p.b.p, .bool p.b.u, .int .i64 p.c.n, .bool p.c.p, .bool p.c.u, .int .i64 p.d.n, .bool p.d.p, .bool p.d.u]
  v : Whole W vb 46 #[.int .i64 u.t, .int .i64 u.o, .int .i64 u.a.n, .bool u.a.p, .bool u.a.u, .int .i64 u.b.n, .bool u.b.p, .bool u.b.u, .int .i64 u.c.n, .bool u.c.p, .bool u.c.u, .int .i64 u.d.n, .bool u.d.p, .bool u.d.u]
  lv : w.heap.size ≤ vb
theorem LdS.next {w W W' : World} {pb vb : Nat} {p u : VD} (h : LdS w W pb vb p u) (hb : Below W.heap.size W W') : LdS w W' pb vb p u :=
  ⟨h.b.trans (hb.mono h.b.size), h.p.below' hb, h.v.below' hb, h.lv⟩
set_option maxRecDepth 100000 in
set_option maxHeartbeats 2000000 in
theorem load_st {w : World} {B x : Nat} {OV : Value} {gl : Int} {os : List OD} (h : MemAt w B x OV gl os) (hos : os.length ≤ 1000) (p : VD) (t : Int) (hT : Tab w) (st : Int) (o : OD) (ht : tgtM os p t = (o, st)) (hst : st ≠ 0) :
    Calls Tryd.prog 12 #[.pointer (some ⟨x, 0, none⟩), .agg #[.int .i64 p.t, .int .i64 p.o, .int .i64 p.a.n, .bool p.a.p, .bool p.a.u, .int .i64 p.b.n, .bool p.b.p, .bool p.b.u, .int .i64 p.c.n, .bool p.c.p, .bool p.c.u, .int .i64 p.d.n, .bool p.d.p, .bool p.d.u], .int .i64 t] w fun e w' => e = .returned (.tuple #[.agg #[.int .i64 0, .int .i64 0, .int .i64 0, .bool false, .bool false, .int .i64 0, .bool false, .bool false, .int .i64 0, .bool false, .bool false, .int .i64 0, .bool false, .bool false], .int .i64 st]) ∧ Below w.heap.size w w' := by
  have hTG := fun W hM hT' => target_any (w := W) (B := B) (x := x) (OV := OV) (gl := gl) (os := os) hM hos p t hT'
  simp only [ht] at hTG
  obtain ⟨SA, sn, hsl⟩ := sl_form o
  simp only [hsl] at hTG
  have HTG := hide hTG
  have s1 : (st != 0) = true := by simpa [bne] using hst
  clear hTG ht hst hsl
  obtain ⟨pb, hpb⟩ : ∃ x, w.heap.size = x := ⟨_, rfl⟩
  obtain ⟨w1, hw1⟩ : ∃ x, (w.alloc (.cells #[.int .i64 p.t, .int .i64 p.o, .int .i64 p.a.n, .bool p.a.p, .bool p.a.u, .int .i64 p.b.n, .bool p.b.p, .bool p.b.u, .int .i64 p.c.n, .bool p.c.p, .bool p.c.u, .int .i64 p.d.n, .bool p.d.p, .bool p.d.u] 46)).alloc (.cells #[.int .i64 0, .int .i64 0, .int .i64 0, .bool false, .bool false, .int .i64 0, .bool false, .bool false, .int .i64 0, .bool false, .bool false, .int .i64 0, .bool false, .bool false] 46) = x := ⟨_, rfl⟩
  have HS : Hid (LdS w w1 pb (pb + 1) p zV) := hide (by
    refine ⟨by rw [← hw1]; exact ((Below.refl _ _).alloc (Nat.le_refl _) _).alloc (by simp [go_sem]) _, by rw [← hw1, ← hpb]; exact (Whole.new _ _ _).alloc _, ?_, by omega⟩
    rw [← hw1, ← hpb]
    have h0 := Whole.new (w.alloc (.cells #[.int .i64 p.t, .int .i64 p.o, .int .i64 p.a.n, .bool p.a.p, .bool p.a.u, .int .i64 p.b.n, .bool p.b.p, .bool p.b.u, .int .i64 p.c.n, .bool p.c.p, .bool p.c.u, .int .i64 p.d.n, .bool p.d.p, .bool p.d.u] 46)) 46 #[.int .i64 0, .int .i64 0, .int .i64 0, .bool false, .bool false, .int .i64 0, .bool false, .bool false, .int .i64 0, .bool false, .bool false, .int .i64 0, .bool false, .bool false]
    rw [World.size_alloc] at h0
    exact h0)
  have HM := hide (h.below HS.out.b)
  have HT1 := hide (hT.below HS.out.b)
  have p0 : w1.cell? ⟨pb, 0, none⟩ = some (.int .i64 p.t) := HS.out.p.cell 0
  have p1 : w1.cell? ⟨pb, 1, none⟩ = some (.int .i64 p.o) := HS.out.p.cell 1
  have p2 : w1.cell? ⟨pb, 2, none⟩ = some (.int .i64 p.a.n) := HS.out.p.cell 2
  have p3 : w1.cell? ⟨pb, 3, none⟩ = some (.bool p.a.p) := HS.out.p.cell 3
  have p4 : w1.cell? ⟨pb, 4, none⟩ = some (.bool p.a.u) := HS.out.p.cell 4
  have p5 : w1.cell? ⟨pb, 5, none⟩ = some (.int .i64 p.b.n) := HS.out.p.cell 5
  have p6 : w1.cell? ⟨pb, 6, none⟩ = some (.bool p.b.p) := HS.out.p.cell 6
  have p7 : w1.cell? ⟨pb, 7, none⟩ = some (.bool p.b.u) := HS.out.p.cell 7
  have p8 : w1.cell? ⟨pb, 8, none⟩ = some (.int .i64 p.c.n) := HS.out.p.cell 8
  have p9 : w1.cell? ⟨pb, 9, none⟩ = some (.bool p.c.p) := HS.out.p.cell 9
  have p10 : w1.cell? ⟨pb, 10, none⟩ = some (.bool p.c.u) := HS.out.p.cell 10
  have p11 : w1.cell? ⟨pb, 11, none⟩ = some (.int .i64 p.d.n) := HS.out.p.cell 11
  have p12 : w1.cell? ⟨pb, 12, none⟩ = some (.bool p.d.p) := HS.out.p.cell 12
  have p13 : w1.cell? ⟨pb, 13, none⟩ = some (.bool p.d.u) := HS.out.p.cell 13
  clear h hT
  go_enter Tryd.func12, Tryd.ntmps12
  go_upto_region 1 with fail
  clear hw1
  obtain ⟨vb, hvb⟩ : ∃ x, pb + 1 = x := ⟨_, rfl⟩
  rw [hvb]
  rw [hvb] at HS
  have HPV : Hid (pb ≠ vb) := hide (by omega)
  clear hpb hvb
  go_wp2_with fail
  refine (HTG.out _ HM.out HT1.out).mono ?_
  rintro en w2 ⟨rfl, hb2⟩
  replace HS := hide (HS.out.next hb2)
  clear HM HT1 hb2 p0 p1 p2 p3 p4 p5 p6 p7 p8 p9 p10 p11 p12 p13
  go_upto_region 3 with fail
  obtain ⟨ob, hob⟩ : ∃ x, w2.heap.size = x := ⟨_, rfl⟩
  rw [hob]
  obtain ⟨w3, hw3⟩ : ∃ x, w2.alloc (.cells #[.int .i64 o.el, .slice SA sn sn, .bool o.ro] 86) = x := ⟨_, rfl⟩
  have HO : Hid (Whole w3 ob 86 #[.int .i64 o.el, .slice SA sn sn, .bool o.ro]) := hide (by rw [← hw3, ← hob]; exact Whole.new _ _ _)
  replace HS : Hid (LdS w w3 pb vb p zV) := hide (HS.out.next (by rw [← hw3]; exact (Below.refl _ _).alloc (Nat.le_refl _) _))
  simp only [hw3]
  clear hw3 hob
  have z0 : w3.cell? ⟨vb, 0, none⟩ = some (.int .i64 0) := HS.out.v.cell 0
  have z1 : w3.cell? ⟨vb, 1, none⟩ = some (.int .i64 0) := HS.out.v.cell 1
  have z2 : w3.cell? ⟨vb, 2, none⟩ = some (.int .i64 0) := HS.out.v.cell 2
  have z3 : w3.cell? ⟨vb, 3, none⟩ = some (.bool false) := HS.out.v.cell 3
  have z4 : w3.cell? ⟨vb, 4, none⟩ = some (.bool false) := HS.out.v.cell 4
  have z5 : w3.cell? ⟨vb, 5, none⟩ = some (.int .i64 0) := HS.out.v.cell 5
  have z6 : w3.cell? ⟨vb, 6, none⟩ = some (.bool false) := HS.out.v.cell 6
  have z7 : w3.cell? ⟨vb, 7, none⟩ = some (.bool false) := HS.out.v.cell 7
  have z8 : w3.cell? ⟨vb, 8, none⟩ = some (.int .i64 0) := HS.out.v.cell 8
  have z9 : w3.cell? ⟨vb, 9, none⟩ = some (.bool false) := HS.out.v.cell 9
  have z10 : w3.cell? ⟨vb, 10, none⟩ = some (.bool false) := HS.out.v.cell 10
  have z11 : w3.cell? ⟨vb, 11, none⟩ = some (.int .i64 0) := HS.out.v.cell 11
  have z12 : w3.cell? ⟨vb, 12, none⟩ = some (.bool false) := HS.out.v.cell 12
  have z13 : w3.cell? ⟨vb, 13, none⟩ = some (.bool false) := HS.out.v.cell 13
  have hfr := HS.out.v.free
  have hvl := HS.out.v.lt
  go_wp2_with fail
  have hR : Whole (((((((((((((((w3.setCell ⟨vb, 0, none⟩ (.int .i64 0)).setCell ⟨vb, 1, none⟩ (.int .i64 0)).setCell ⟨vb, 2, none⟩ (.int .i64 0)).setCell ⟨vb, 3, none⟩ (.bool false)).setCell ⟨vb, 4, none⟩ (.bool false)).setCell ⟨vb, 5, none⟩ (.int .i64 0)).setCell ⟨vb, 6, none⟩ (.bool false)).setCell ⟨vb, 7, none⟩ (.bool false)).setCell ⟨vb, 8, none⟩ (.int .i64 0)).setCell ⟨vb, 9, none⟩ (.bool false)).setCell ⟨vb, 10, none⟩ (.bool false)).setCell ⟨vb, 11, none⟩ (.int .i64 0)).setCell ⟨vb, 12, none⟩ (.bool false)).setCell ⟨vb, 13, none⟩ (.bool false))) vb 46 #[.int .i64 0, .int .i64 0, .int .i64 0, .bool false, .bool false, .int .i64 0, .bool false, .bool false, .int .i64 0, .bool false, .bool false, .int .i64 0, .bool false, .bool false] := Whole.setW (l := [.int .i64 0, .int .i64 0, .int .i64 0, .bool false, .bool false, .int .i64 0, .bool false, .bool false, .int .i64 0, .bool false, .bool false, .int .i64 0, .bool false, .bool false]) [.int .i64 0, .int .i64 0, .int .i64 0, .bool false, .bool false, .int .i64 0, .bool false, .bool false, .int .i64 0, .bool false, .bool false, .int .i64 0, .bool false, .bool false] 0 HS.out.v
  have hB := below_setW (g := vb) HS.out.lv [.int .i64 0, .int .i64 0, .int .i64 0, .bool false, .bool false, .int .i64 0, .bool false, .bool false, .int .i64 0, .bool false, .bool false, .int .i64 0, .bool false, .bool false] 0 HS.out.b
  have k0 := hR.cell 0
  have k1 := hR.cell 1
  have k2 := hR.cell 2
  have k3 := hR.cell 3
  have k4 := hR.cell 4
  have k5 := hR.cell 5
  have k6 := hR.cell 6
  have k7 := hR.cell 7
  have k8 := hR.cell 8
  have k9 := hR.cell 9
  have k10 := hR.cell 10
  have k11 := hR.cell 11
  have k12 := hR.cell 12
  have k13 := hR.cell 13
  refine bodyPost_ret (v := .tuple #[.agg #[.int .i64 0, .int .i64 0, .int .i64 0, .bool false, .bool false, .int .i64 0, .bool false, .bool false, .int .i64 0, .bool false, .bool false, .int .i64 0, .bool false, .bool false], .int .i64 st]) ?_ rfl ⟨rfl, hB⟩
  simp [results, Tryd.f12, go_sem, k0, k1, k2, k3, k4, k5, k6, k7, k8, k9, k10, k11, k12, k13]
set_option maxRecDepth 100000 in
set_option maxHeartbeats 2000000 in
theorem load_yes {w : World} {B x : Nat} {OV : Value} {gl : Int} {os : List OD} (h : MemAt w B x OV gl os) (hos : os.length ≤ 1000) (p : VD) (t : Int) (hT : Tab w) (u : VD) (o : OD) (ht : tgtM os p t = (o, 0)) (hr : ∀ W, Below w.heap.size w W → Calls Tryd.prog 30 #[.agg #[.int .i64 o.el, o.sl], .int .i64 p.a.n, .int .i64 t] W fun e w' => e = .returned (.tuple #[.agg #[.int .i64 u.t, .int .i64 u.o, .int .i64 u.a.n, .bool u.a.p, .bool u.a.u, .int .i64 u.b.n, .bool u.b.p, .bool u.b.u, .int .i64 u.c.n, .bool u.c.p, .bool u.c.u, .int .i64 u.d.n, .bool u.d.p, .bool u.d.u], .bool true]) ∧ Below W.heap.size W w') :
    Calls Tryd.prog 12 #[.pointer (some ⟨x, 0, none⟩), .agg #[.int .i64 p.t, .int .i64 p.o, .int .i64 p.a.n, .bool p.a.p, .bool p.a.u, .int .i64 p.b.n, .bool p.b.p, .bool p.b.u, .int .i64 p.c.n, .bool p.c.p, .bool p.c.u, .int .i64 p.d.n, .bool p.d.p, .bool p.d.u], .int .i64 t] w fun e w' => e = .returned (.tuple #[.agg #[.int .i64 u.t, .int .i64 u.o, .int .i64 u.a.n, .bool u.a.p, .bool u.a.u, .int .i64 u.b.n, .bool u.b.p, .bool u.b.u, .int .i64 u.c.n, .bool u.c.p, .bool u.c.u, .int .i64 u.d.n, .bool u.d.p, .bool u.d.u], .int .i64 0]) ∧ Below w.heap.size w w' := by
  have hTG := fun W hM hT' => target_any (w := W) (B := B) (x := x) (OV := OV) (gl := gl) (os := os) hM hos p t hT'
  simp only [ht] at hTG
  obtain ⟨SA, sn, hsl⟩ := sl_form o
  simp only [hsl] at hTG hr
  have HTG := hide hTG
  have HRD := hide hr
  clear hTG ht hsl hr
  obtain ⟨pb, hpb⟩ : ∃ x, w.heap.size = x := ⟨_, rfl⟩
  obtain ⟨w1, hw1⟩ : ∃ x, (w.alloc (.cells #[.int .i64 p.t, .int .i64 p.o, .int .i64 p.a.n, .bool p.a.p, .bool p.a.u, .int .i64 p.b.n, .bool p.b.p, .bool p.b.u, .int .i64 p.c.n, .bool p.c.p, .bool p.c.u, .int .i64 p.d.n, .bool p.d.p, .bool p.d.u] 46)).alloc (.cells #[.int .i64 0, .int .i64 0, .int .i64 0, .bool false, .bool false, .int .i64 0, .bool false, .bool false, .int .i64 0, .bool false, .bool false, .int .i64 0, .bool false, .bool false] 46) = x := ⟨_, rfl⟩
  have HS : Hid (LdS w w1 pb (pb + 1) p zV) := hide (by
    refine ⟨by rw [← hw1]; exact ((Below.refl _ _).alloc (Nat.le_refl _) _).alloc (by simp [go_sem]) _, by rw [← hw1, ← hpb]; exact (Whole.new _ _ _).alloc _, ?_, by omega⟩
    rw [← hw1, ← hpb]
    have h0 := Whole.new (w.alloc (.cells #[.int .i64 p.t, .int .i64 p.o, .int .i64 p.a.n, .bool p.a.p, .bool p.a.u, .int .i64 p.b.n, .bool p.b.p, .bool p.b.u, .int .i64 p.c.n, .bool p.c.p, .bool p.c.u, .int .i64 p.d.n, .bool p.d.p, .bool p.d.u] 46)) 46 #[.int .i64 0, .int .i64 0, .int .i64 0, .bool false, .bool false, .int .i64 0, .bool false, .bool false, .int .i64 0, .bool false, .bool false, .int .i64 0, .bool false, .bool false]
    rw [World.size_alloc] at h0
    exact h0)
  have HM := hide (h.below HS.out.b)
  have HT1 := hide (hT.below HS.out.b)
  have p0 : w1.cell? ⟨pb, 0, none⟩ = some (.int .i64 p.t) := HS.out.p.cell 0
  have p1 : w1.cell? ⟨pb, 1, none⟩ = some (.int .i64 p.o) := HS.out.p.cell 1
  have p2 : w1.cell? ⟨pb, 2, none⟩ = some (.int .i64 p.a.n) := HS.out.p.cell 2
  have p3 : w1.cell? ⟨pb, 3, none⟩ = some (.bool p.a.p) := HS.out.p.cell 3
  have p4 : w1.cell? ⟨pb, 4, none⟩ = some (.bool p.a.u) := HS.out.p.cell 4
  have p5 : w1.cell? ⟨pb, 5, none⟩ = some (.int .i64 p.b.n) := HS.out.p.cell 5
  have p6 : w1.cell? ⟨pb, 6, none⟩ = some (.bool p.b.p) := HS.out.p.cell 6
  have p7 : w1.cell? ⟨pb, 7, none⟩ = some (.bool p.b.u) := HS.out.p.cell 7
  have p8 : w1.cell? ⟨pb, 8, none⟩ = some (.int .i64 p.c.n) := HS.out.p.cell 8
  have p9 : w1.cell? ⟨pb, 9, none⟩ = some (.bool p.c.p) := HS.out.p.cell 9
  have p10 : w1.cell? ⟨pb, 10, none⟩ = some (.bool p.c.u) := HS.out.p.cell 10
  have p11 : w1.cell? ⟨pb, 11, none⟩ = some (.int .i64 p.d.n) := HS.out.p.cell 11
  have p12 : w1.cell? ⟨pb, 12, none⟩ = some (.bool p.d.p) := HS.out.p.cell 12
  have p13 : w1.cell? ⟨pb, 13, none⟩ = some (.bool p.d.u) := HS.out.p.cell 13
  clear h hT
  go_enter Tryd.func12, Tryd.ntmps12
  go_upto_region 1 with fail
  clear hw1
  obtain ⟨vb, hvb⟩ : ∃ x, pb + 1 = x := ⟨_, rfl⟩
  rw [hvb]
  rw [hvb] at HS
  have HPV : Hid (pb ≠ vb) := hide (by omega)
  clear hpb hvb
  go_wp2_with fail
  refine (HTG.out _ HM.out HT1.out).mono ?_
  rintro en w2 ⟨rfl, hb2⟩
  replace HS := hide (HS.out.next hb2)
  clear HM HT1 hb2 p0 p1 p2 p3 p4 p5 p6 p7 p8 p9 p10 p11 p12 p13
  go_upto_region 4 with fail
  obtain ⟨ob, hob⟩ : ∃ x, w2.heap.size = x := ⟨_, rfl⟩
  rw [hob]
  obtain ⟨w3, hw3⟩ : ∃ x, w2.alloc (.cells #[.int .i64 o.el, .slice SA sn sn, .bool o.ro] 86) = x := ⟨_, rfl⟩
  have HO : Hid (Whole w3 ob 86 #[.int .i64 o.el, .slice SA sn sn, .bool o.ro]) := hide (by rw [← hw3, ← hob]; exact Whole.new _ _ _)
  replace HS : Hid (LdS w w3 pb vb p zV) := hide (HS.out.next (by rw [← hw3]; exact (Below.refl _ _).alloc (Nat.le_refl _) _))
  simp only [hw3]
  clear hw3 hob
  have o0 : w3.cell? ⟨ob, 0, none⟩ = some (.int .i64 o.el) := HO.out.cell 0
  have o1 : w3.cell? ⟨ob, 1, none⟩ = some (.slice SA sn sn) := HO.out.cell 1
  have p2 : w3.cell? ⟨pb, 2, none⟩ = some (.int .i64 p.a.n) := HS.out.p.cell 2
  go_wp2_with fail
  refine (HRD.out _ HS.out.b).mono ?_
  rintro en w4 ⟨rfl, hb4⟩
  replace HS := hide (HS.out.next hb4)
  clear HO hb4 o0 o1 p2
  have z0 : w4.cell? ⟨vb, 0, none⟩ = some (.int .i64 0) := HS.out.v.cell 0
  have z1 : w4.cell? ⟨vb, 1, none⟩ = some (.int .i64 0) := HS.out.v.cell 1
  have z2 : w4.cell? ⟨vb, 2, none⟩ = some (.int .i64 0) := HS.out.v.cell 2
  have z3 : w4.cell? ⟨vb, 3, none⟩ = some (.bool false) := HS.out.v.cell 3
  have z4 : w4.cell? ⟨vb, 4, none⟩ = some (.bool false) := HS.out.v.cell 4
  have z5 : w4.cell? ⟨vb, 5, none⟩ = some (.int .i64 0) := HS.out.v.cell 5
  have z6 : w4.cell? ⟨vb, 6, none⟩ = some (.bool false) := HS.out.v.cell 6
  have z7 : w4.cell? ⟨vb, 7, none⟩ = some (.bool false) := HS.out.v.cell 7
  have z8 : w4.cell? ⟨vb, 8, none⟩ = some (.int .i64 0) := HS.out.v.cell 8
  have z9 : w4.cell? ⟨vb, 9, none⟩ = some (.bool false) := HS.out.v.cell 9
  have z10 : w4.cell? ⟨vb, 10, none⟩ = some (.bool false) := HS.out.v.cell 10
  have z11 : w4.cell? ⟨vb, 11, none⟩ = some (.int .i64 0) := HS.out.v.cell 11
  have z12 : w4.cell? ⟨vb, 12, none⟩ = some (.bool false) := HS.out.v.cell 12
  have z13 : w4.cell? ⟨vb, 13, none⟩ = some (.bool false) := HS.out.v.cell 13
  have hfr := HS.out.v.free
  have hvl := HS.out.v.lt
  go_upto_region 5 with fail
  obtain ⟨w5, hw5⟩ : ∃ X, ((((((((((((((w4.setCell ⟨vb, 0, none⟩ (.int .i64 u.t)).setCell ⟨vb, 1, none⟩ (.int .i64 u.o)).setCell ⟨vb, 2, none⟩ (.int .i64 u.a.n)).setCell ⟨vb, 3, none⟩ (.bool u.a.p)).setCell ⟨vb, 4, none⟩ (.bool u.a.u)).setCell ⟨vb, 5, none⟩ (.int .i64 u.b.n)).setCell ⟨vb, 6, none⟩ (.bool u.b.p)).setCell ⟨vb, 7, none⟩ (.bool u.b.u)).setCell ⟨vb, 8, none⟩ (.int .i64 u.c.n)).setCell ⟨vb, 9, none⟩ (.bool u.c.p)).setCell ⟨vb, 10, none⟩ (.bool u.c.u)).setCell ⟨vb, 11, none⟩ (.int .i64 u.d.n)).setCell ⟨vb, 12, none⟩ (.bool u.d.p)).setCell ⟨vb, 13, none⟩ (.bool u.d.u)) = X := ⟨_, rfl⟩
  have HS5 : Hid (LdS w w5 pb vb p u) := hide (by
    have hv : Whole w5 vb 46 #[.int .i64 u.t, .int .i64 u.o, .int .i64 u.a.n, .bool u.a.p, .bool u.a.u, .int .i64 u.b.n, .bool u.b.p, .bool u.b.u, .int .i64 u.c.n, .bool u.c.p, .bool u.c.u, .int .i64 u.d.n, .bool u.d.p, .bool u.d.u] := by rw [← hw5]; exact Whole.setW (l := [.int .i64 0, .int .i64 0, .int .i64 0, .bool false, .bool false, .int .i64 0, .bool false, .bool false, .int .i64 0, .bool false, .bool false, .int .i64 0, .bool false, .bool false]) [.int .i64 u.t, .int .i64 u.o, .int .i64 u.a.n, .bool u.a.p, .bool u.a.u, .int .i64 u.b.n, .bool u.b.p, .bool u.b.u, .int .i64 u.c.n, .bool u.c.p, .bool u.c.u, .int .i64 u.d.n, .bool u.d.p, .bool u.d.u] 0 HS.out.v
    have hg : w4.grownBy w5 (some vb) := by rw [← hw5]; exact only_setW (g := vb) [.int .i64 u.t, .int .i64 u.o, .int .i64 u.a.n, .bool u.a.p, .bool u.a.u, .int .i64 u.b.n, .bool u.b.p, .bool u.b.u, .int .i64 u.c.n, .bool u.c.p, .bool u.c.u, .int .i64 u.d.n, .bool u.d.p, .bool u.d.u] 0 (only_refl w4 vb)
    have hB : Below w.heap.size w w5 := by rw [← hw5]; exact below_setW (g := vb) HS.out.lv [.int .i64 u.t, .int .i64 u.o, .int .i64 u.a.n, .bool u.a.p, .bool u.a.u, .int .i64 u.b.n, .bool u.b.p, .bool u.b.u, .int .i64 u.c.n, .bool u.c.p, .bool u.c.u, .int .i64 u.d.n, .bool u.d.p, .bool u.d.u] 0 HS.out.b
    exact ⟨hB, HS.out.p.grown hg (fun e => HPV.out (Option.some.inj e)), hv, HS.out.lv⟩)
  simp only [hw5]
  clear hw5 hfr hvl HS z0 z1 z2 z3 z4 z5 z6 z7 z8 z9 z10 z11 z12 z13
  have z0 : w5.cell? ⟨vb, 0, none⟩ = some (.int .i64 u.t) := HS5.out.v.cell 0
  have z1 : w5.cell? ⟨vb, 1, none⟩ = some (.int .i64 u.o) := HS5.out.v.cell 1
  have z2 : w5.cell? ⟨vb, 2, none⟩ = some (.int .i64 u.a.n) := HS5.out.v.cell 2
  have z3 : w5.cell? ⟨vb, 3, none⟩ = some (.bool u.a.p) := HS5.out.v.cell 3
  have z4 : w5.cell? ⟨vb, 4, none⟩ = some (.bool u.a.u) := HS5.out.v.cell 4
  have z5 : w5.cell? ⟨vb, 5, none⟩ = some (.int .i64 u.b.n) := HS5.out.v.cell 5
  have z6 : w5.cell? ⟨vb, 6, none⟩ = some (.bool u.b.p) := HS5.out.v.cell 6
  have z7 : w5.cell? ⟨vb, 7, none⟩ = some (.bool u.b.u) := HS5.out.v.cell 7
  have z8 : w5.cell? ⟨vb, 8, none⟩ = some (.int .i64 u.c.n) := HS5.out.v.cell 8
  have z9 : w5.cell? ⟨vb, 9, none⟩ = some (.bool u.c.p) := HS5.out.v.cell 9
  have z10 : w5.cell? ⟨vb, 10, none⟩ = some (.bool u.c.u) := HS5.out.v.cell 10
  have z11 : w5.cell? ⟨vb, 11, none⟩ = some (.int .i64 u.d.n) := HS5.out.v.cell 11
  have z12 : w5.cell? ⟨vb, 12, none⟩ = some (.bool u.d.p) := HS5.out.v.cell 12
  have z13 : w5.cell? ⟨vb, 13, none⟩ = some (.bool u.d.u) := HS5.out.v.cell 13
  have hfr := HS5.out.v.free
  have hvl := HS5.out.v.lt
  go_wp2_with fail
  have hR : Whole (((((((((((((((w5.setCell ⟨vb, 0, none⟩ (.int .i64 u.t)).setCell ⟨vb, 1, none⟩ (.int .i64 u.o)).setCell ⟨vb, 2, none⟩ (.int .i64 u.a.n)).setCell ⟨vb, 3, none⟩ (.bool u.a.p)).setCell ⟨vb, 4, none⟩ (.bool u.a.u)).setCell ⟨vb, 5, none⟩ (.int .i64 u.b.n)).setCell ⟨vb, 6, none⟩ (.bool u.b.p)).setCell ⟨vb, 7, none⟩ (.bool u.b.u)).setCell ⟨vb, 8, none⟩ (.int .i64 u.c.n)).setCell ⟨vb, 9, none⟩ (.bool u.c.p)).setCell ⟨vb, 10, none⟩ (.bool u.c.u)).setCell ⟨vb, 11, none⟩ (.int .i64 u.d.n)).setCell ⟨vb, 12, none⟩ (.bool u.d.p)).setCell ⟨vb, 13, none⟩ (.bool u.d.u))) vb 46 #[.int .i64 u.t, .int .i64 u.o, .int .i64 u.a.n, .bool u.a.p, .bool u.a.u, .int .i64 u.b.n, .bool u.b.p, .bool u.b.u, .int .i64 u.c.n, .bool u.c.p, .bool u.c.u, .int .i64 u.d.n, .bool u.d.p, .bool u.d.u] := Whole.setW (l := [.int .i64 u.t, .int .i64 u.o, .int .i64 u.a.n, .bool u.a.p, .bool u.a.u, .int .i64 u.b.n, .bool u.b.p, .bool u.b.u, .int .i64 u.c.n, .bool u.c.p, .bool u.c.u, .int .i64 u.d.n, .bool u.d.p, .bool u.d.u]) [.int .i64 u.t, .int .i64 u.o, .int .i64 u.a.n, .bool u.a.p, .bool u.a.u, .int .i64 u.b.n, .bool u.b.p, .bool u.b.u, .int .i64 u.c.n, .bool u.c.p, .bool u.c.u, .int .i64 u.d.n, .bool u.d.p, .bool u.d.u] 0 HS5.out.v
  have hB := below_setW (g := vb) HS5.out.lv [.int .i64 u.t, .int .i64 u.o, .int .i64 u.a.n, .bool u.a.p, .bool u.a.u, .int .i64 u.b.n, .bool u.b.p, .bool u.b.u, .int .i64 u.c.n, .bool u.c.p, .bool u.c.u, .int .i64 u.d.n, .bool u.d.p, .bool u.d.u] 0 HS5.out.b
  have k0 := hR.cell 0
  have k1 := hR.cell 1
  have k2 := hR.cell 2
  have k3 := hR.cell 3
  have k4 := hR.cell 4
  have k5 := hR.cell 5
  have k6 := hR.cell 6
  have k7 := hR.cell 7
  have k8 := hR.cell 8
  have k9 := hR.cell 9
  have k10 := hR.cell 10
  have k11 := hR.cell 11
  have k12 := hR.cell 12
  have k13 := hR.cell 13
  refine bodyPost_ret (v := .tuple #[.agg #[.int .i64 u.t, .int .i64 u.o, .int .i64 u.a.n, .bool u.a.p, .bool u.a.u, .int .i64 u.b.n, .bool u.b.p, .bool u.b.u, .int .i64 u.c.n, .bool u.c.p, .bool u.c.u, .int .i64 u.d.n, .bool u.d.p, .bool u.d.u], .int .i64 0]) ?_ rfl ⟨rfl, hB⟩
  simp [results, Tryd.f12, go_sem, k0, k1, k2, k3, k4, k5, k6, k7, k8, k9, k10, k11, k12, k13]
set_option maxRecDepth 100000 in
set_option maxHeartbeats 2000000 in
theorem load_no {w : World} {B x : Nat} {OV : Value} {gl : Int} {os : List OD} (h : MemAt w B x OV gl os) (hos : os.length ≤ 1000) (p : VD) (t : Int) (hT : Tab w) (o : OD) (ht : tgtM os p t = (o, 0)) (hr : ∀ W, Below w.heap.size w W → Calls Tryd.prog 30 #[.agg #[.int .i64 o.el, o.sl], .int .i64 p.a.n, .int .i64 t] W fun e w' => e = .returned (.tuple #[.agg #[.int .i64 0, .int .i64 0, .int .i64 0, .bool false, .bool false, .int .i64 0, .bool false, .bool false, .int .i64 0, .bool false, .bool false, .int .i64 0, .bool false, .bool false], .bool false]) ∧ Below W.heap.size W w') :
    Calls Tryd.prog 12 #[.pointer (some ⟨x, 0, none⟩), .agg #[.int .i64 p.t, .int .i64 p.o, .int .i64 p.a.n, .bool p.a.p, .bool p.a.u, .int .i64 p.b.n, .bool p.b.p, .bool p.b.u, .int .i64 p.c.n, .bool p.c.p, .bool p.c.u, .int .i64 p.d.n, .bool p.d.p, .bool p.d.u], .int .i64 t] w fun e w' => e = .returned (.tuple #[.agg #[.int .i64 0, .int .i64 0, .int .i64 0, .bool false, .bool false, .int .i64 0, .bool false, .bool false, .int .i64 0, .bool false, .bool false, .int .i64 0, .bool false, .bool false], .int .i64 1]) ∧ Below w.heap.size w w' := by
  have hTG := fun W hM hT' => target_any (w := W) (B := B) (x := x) (OV := OV) (gl := gl) (os := os) hM hos p t hT'
  simp only [ht] at hTG
  obtain ⟨SA, sn, hsl⟩ := sl_form o
  simp only [hsl] at hTG hr
  have HTG := hide hTG
  have HRD := hide hr
  clear hTG ht hsl hr
  obtain ⟨pb, hpb⟩ : ∃ x, w.heap.size = x := ⟨_, rfl⟩
  obtain ⟨w1, hw1⟩ : ∃ x, (w.alloc (.cells #[.int .i64 p.t, .int .i64 p.o, .int .i64 p.a.n, .bool p.a.p, .bool p.a.u, .int .i64 p.b.n, .bool p.b.p, .bool p.b.u, .int .i64 p.c.n, .bool p.c.p, .bool p.c.u, .int .i64 p.d.n, .bool p.d.p, .bool p.d.u] 46)).alloc (.cells #[.int .i64 0, .int .i64 0, .int .i64 0, .bool false, .bool false, .int .i64 0, .bool false, .bool false, .int .i64 0, .bool false, .bool false, .int .i64 0, .bool false, .bool false] 46) = x := ⟨_, rfl⟩
  have HS : Hid (LdS w w1 pb (pb + 1) p zV) := hide (by
    refine ⟨by rw [← hw1]; exact ((Below.refl _ _).alloc (Nat.le_refl _) _).alloc (by simp [go_sem]) _, by rw [← hw1, ← hpb]; exact (Whole.new _ _ _).alloc _, ?_, by omega⟩
    rw [← hw1, ← hpb]
    have h0 := Whole.new (w.alloc (.cells #[.int .i64 p.t, .int .i64 p.o, .int .i64 p.a.n, .bool p.a.p, .bool p.a.u, .int .i64 p.b.n, .bool p.b.p, .bool p.b.u, .int .i64 p.c.n, .bool p.c.p, .bool p.c.u, .int .i64 p.d.n, .bool p.d.p, .bool p.d.u] 46)) 46 #[.int .i64 0, .int .i64 0, .int .i64 0, .bool false, .bool false, .int .i64 0, .bool false, .bool false, .int .i64 0, .bool false, .bool false, .int .i64 0, .bool false, .bool false]
    rw [World.size_alloc] at h0
    exact h0)
  have HM := hide (h.below HS.out.b)
  have HT1 := hide (hT.below HS.out.b)
  have p0 : w1.cell? ⟨pb, 0, none⟩ = some (.int .i64 p.t) := HS.out.p.cell 0
  have p1 : w1.cell? ⟨pb, 1, none⟩ = some (.int .i64 p.o) := HS.out.p.cell 1
  have p2 : w1.cell? ⟨pb, 2, none⟩ = some (.int .i64 p.a.n) := HS.out.p.cell 2
  have p3 : w1.cell? ⟨pb, 3, none⟩ = some (.bool p.a.p) := HS.out.p.cell 3
  have p4 : w1.cell? ⟨pb, 4, none⟩ = some (.bool p.a.u) := HS.out.p.cell 4
  have p5 : w1.cell? ⟨pb, 5, none⟩ = some (.int .i64 p.b.n) := HS.out.p.cell 5
  have p6 : w1.cell? ⟨pb, 6, none⟩ = some (.bool p.b.p) := HS.out.p.cell 6
  have p7 : w1.cell? ⟨pb, 7, none⟩ = some (.bool p.b.u) := HS.out.p.cell 7
  have p8 : w1.cell? ⟨pb, 8, none⟩ = some (.int .i64 p.c.n) := HS.out.p.cell 8
  have p9 : w1.cell? ⟨pb, 9, none⟩ = some (.bool p.c.p) := HS.out.p.cell 9
  have p10 : w1.cell? ⟨pb, 10, none⟩ = some (.bool p.c.u) := HS.out.p.cell 10
  have p11 : w1.cell? ⟨pb, 11, none⟩ = some (.int .i64 p.d.n) := HS.out.p.cell 11
  have p12 : w1.cell? ⟨pb, 12, none⟩ = some (.bool p.d.p) := HS.out.p.cell 12
  have p13 : w1.cell? ⟨pb, 13, none⟩ = some (.bool p.d.u) := HS.out.p.cell 13
  clear h hT
  go_enter Tryd.func12, Tryd.ntmps12
  go_upto_region 1 with fail
  clear hw1
  obtain ⟨vb, hvb⟩ : ∃ x, pb + 1 = x := ⟨_, rfl⟩
  rw [hvb]
  rw [hvb] at HS
  have HPV : Hid (pb ≠ vb) := hide (by omega)
  clear hpb hvb
  go_wp2_with fail
  refine (HTG.out _ HM.out HT1.out).mono ?_
  rintro en w2 ⟨rfl, hb2⟩
  replace HS := hide (HS.out.next hb2)
  clear HM HT1 hb2 p0 p1 p2 p3 p4 p5 p6 p7 p8 p9 p10 p11 p12 p13
  go_upto_region 4 with fail
  obtain ⟨ob, hob⟩ : ∃ x, w2.heap.size = x := ⟨_, rfl⟩
  rw [hob]
  obtain ⟨w3, hw3⟩ : ∃ x, w2.alloc (.cells #[.int .i64 o.el, .slice SA sn sn, .bool o.ro] 86) = x := ⟨_, rfl⟩
  have HO : Hid (Whole w3 ob 86 #[.int .i64 o.el, .slice SA sn sn, .bool o.ro]) := hide (by rw [← hw3, ← hob]; exact Whole.new _ _ _)
  replace HS : Hid (LdS w w3 pb vb p zV) := hide (HS.out.next (by rw [← hw3]; exact (Below.refl _ _).alloc (Nat.le_refl _) _))
  simp only [hw3]
  clear hw3 hob
  have o0 : w3.cell? ⟨ob, 0, none⟩ = some (.int .i64 o.el) := HO.out.cell 0
  have o1 : w3.cell? ⟨ob, 1, none⟩ = some (.slice SA sn sn) := HO.out.cell 1
  have p2 : w3.cell? ⟨pb, 2, none⟩ = some (.int .i64 p.a.n) := HS.out.p.cell 2
  go_wp2_with fail
  refine (HRD.out _ HS.out.b).mono ?_
  rintro en w4 ⟨rfl, hb4⟩
  replace HS := hide (HS.out.next hb4)
  clear HO hb4 o0 o1 p2
  have z0 : w4.cell? ⟨vb, 0, none⟩ = some (.int .i64 0) := HS.out.v.cell 0
  have z1 : w4.cell? ⟨vb, 1, none⟩ = some (.int .i64 0) := HS.out.v.cell 1
  have z2 : w4.cell? ⟨vb, 2, none⟩ = some (.int .i64 0) := HS.out.v.cell 2
  have z3 : w4.cell? ⟨vb, 3, none⟩ = some (.bool false) := HS.out.v.cell 3
  have z4 : w4.cell? ⟨vb, 4, none⟩ = some (.bool false) := HS.out.v.cell 4
  have z5 : w4.cell? ⟨vb, 5, none⟩ = some (.int .i64 0) := HS.out.v.cell 5
  have z6 : w4.cell? ⟨vb, 6, none⟩ = some (.bool false) := HS.out.v.cell 6
  have z7 : w4.cell? ⟨vb, 7, none⟩ = some (.bool false) := HS.out.v.cell 7
  have z8 : w4.cell? ⟨vb, 8, none⟩ = some (.int .i64 0) := HS.out.v.cell 8
  have z9 : w4.cell? ⟨vb, 9, none⟩ = some (.bool false) := HS.out.v.cell 9
  have z10 : w4.cell? ⟨vb, 10, none⟩ = some (.bool false) := HS.out.v.cell 10
  have z11 : w4.cell? ⟨vb, 11, none⟩ = some (.int .i64 0) := HS.out.v.cell 11
  have z12 : w4.cell? ⟨vb, 12, none⟩ = some (.bool false) := HS.out.v.cell 12
  have z13 : w4.cell? ⟨vb, 13, none⟩ = some (.bool false) := HS.out.v.cell 13
  have hfr := HS.out.v.free
  have hvl := HS.out.v.lt
  go_upto_region 5 with fail
  obtain ⟨w5, hw5⟩ : ∃ X, ((((((((((((((w4.setCell ⟨vb, 0, none⟩ (.int .i64 0)).setCell ⟨vb, 1, none⟩ (.int .i64 0)).setCell ⟨vb, 2, none⟩ (.int .i64 0)).setCell ⟨vb, 3, none⟩ (.bool false)).setCell ⟨vb, 4, none⟩ (.bool false)).setCell ⟨vb, 5, none⟩ (.int .i64 0)).setCell ⟨vb, 6, none⟩ (.bool false)).setCell ⟨vb, 7, none⟩ (.bool false)).setCell ⟨vb, 8, none⟩ (.int .i64 0)).setCell ⟨vb, 9, none⟩ (.bool false)).setCell ⟨vb, 10, none⟩ (.bool false)).setCell ⟨vb, 11, none⟩ (.int .i64 0)).setCell ⟨vb, 12, none⟩ (.bool false)).setCell ⟨vb, 13, none⟩ (.bool false)) = X := ⟨_, rfl⟩
  have HS5 : Hid (LdS w w5 pb vb p zV) := hide (by
    have hv : Whole w5 vb 46 #[.int .i64 0, .int .i64 0, .int .i64 0, .bool false, .bool false, .int .i64 0, .bool false, .bool false, .int .i64 0, .bool false, .bool false, .int .i64 0, .bool false, .bool false] := by rw [← hw5]; exact Whole.setW (l := [.int .i64 0, .int .i64 0, .int .i64 0, .bool false, .bool false, .int .i64 0, .bool false, .bool false, .int .i64 0, .bool false, .bool false, .int .i64 0, .bool false, .bool false]) [.int .i64 0, .int .i64 0, .int .i64 0, .bool false, .bool false, .int .i64 0, .bool false, .bool false, .int .i64 0, .bool false, .bool false, .int .i64 0, .bool false, .bool false] 0 HS.out.v
    have hg : w4.grownBy w5 (some vb) := by rw [← hw5]; exact only_setW (g := vb) [.int .i64 0, .int .i64 0, .int .i64 0, .bool false, .bool false, .int .i64 0, .bool false, .bool false, .int .i64 0, .bool false, .bool false, .int .i64 0, .bool false, .bool false] 0 (only_refl w4 vb)
    have hB : Below w.heap.size w w5 := by rw [← hw5]; exact below_setW (g := vb) HS.out.lv [.int .i64 0, .int .i64 0, .int .i64 0, .bool false, .bool false, .int .i64 0, .bool false, .bool false, .int .i64 0, .bool false, .bool false, .int .i64 0, .bool false, .bool false] 0 HS.out.b
    exact ⟨hB, HS.out.p.grown hg (fun e => HPV.out (Option.some.inj e)), hv, HS.out.lv⟩)
  simp only [hw5]
  clear hw5 hfr hvl HS z0 z1 z2 z3 z4 z5 z6 z7 z8 z9 z10 z11 z12 z13
  have z0 : w5.cell? ⟨vb, 0, none⟩ = some (.int .i64 0) := HS5.out.v.cell 0
  have z1 : w5.cell? ⟨vb, 1, none⟩ = some (.int .i64 0) := HS5.out.v.cell 1
  have z2 : w5.cell? ⟨vb, 2, none⟩ = some (.int .i64 0) := HS5.out.v.cell 2
  have z3 : w5.cell? ⟨vb, 3, none⟩ = some (.bool false) := HS5.out.v.cell 3
  have z4 : w5.cell? ⟨vb, 4, none⟩ = some (.bool false) := HS5.out.v.cell 4
  have z5 : w5.cell? ⟨vb, 5, none⟩ = some (.int .i64 0) := HS5.out.v.cell 5
  have z6 : w5.cell? ⟨vb, 6, none⟩ = some (.bool false) := HS5.out.v.cell 6
  have z7 : w5.cell? ⟨vb, 7, none⟩ = some (.bool false) := HS5.out.v.cell 7
  have z8 : w5.cell? ⟨vb, 8, none⟩ = some (.int .i64 0) := HS5.out.v.cell 8
  have z9 : w5.cell? ⟨vb, 9, none⟩ = some (.bool false) := HS5.out.v.cell 9
  have z10 : w5.cell? ⟨vb, 10, none⟩ = some (.bool false) := HS5.out.v.cell 10
  have z11 : w5.cell? ⟨vb, 11, none⟩ = some (.int .i64 0) := HS5.out.v.cell 11
  have z12 : w5.cell? ⟨vb, 12, none⟩ = some (.bool false) := HS5.out.v.cell 12
  have z13 : w5.cell? ⟨vb, 13, none⟩ = some (.bool false) := HS5.out.v.cell 13
  have hfr := HS5.out.v.free
  have hvl := HS5.out.v.lt
  go_wp2_with fail
  have hR : Whole (((((((((((((((w5.setCell ⟨vb, 0, none⟩ (.int .i64 0)).setCell ⟨vb, 1, none⟩ (.int .i64 0)).setCell ⟨vb, 2, none⟩ (.int .i64 0)).setCell ⟨vb, 3, none⟩ (.bool false)).setCell ⟨vb, 4, none⟩ (.bool false)).setCell ⟨vb, 5, none⟩ (.int .i64 0)).setCell ⟨vb, 6, none⟩ (.bool false)).setCell ⟨vb, 7, none⟩ (.bool false)).setCell ⟨vb, 8, none⟩ (.int .i64 0)).setCell ⟨vb, 9, none⟩ (.bool false)).setCell ⟨vb, 10, none⟩ (.bool false)).setCell ⟨vb, 11, none⟩ (.int .i64 0)).setCell ⟨vb, 12, none⟩ (.bool false)).setCell ⟨vb, 13, none⟩ (.bool false))) vb 46 #[.int .i64 0, .int .i64 0, .int .i64 0, .bool false, .bool false, .int .i64 0, .bool false, .bool false, .int .i64 0, .bool false, .bool false, .int .i64 0, .bool false, .bool false] := Whole.setW (l := [.int .i64 0, .int .i64 0, .int .i64 0, .bool false, .bool false, .int .i64 0, .bool false, .bool false, .int .i64 0, .bool false, .bool false, .int .i64 0, .bool false, .bool false]) [.int .i64 0, .int .i64 0, .int .i64 0, .bool false, .bool false, .int .i64 0, .bool false, .bool false, .int .i64 0, .bool false, .bool false, .int .i64 0, .bool false, .bool false] 0 HS5.out.v
  have hB := below_setW (g := vb) HS5.out.lv [.int .i64 0, .int .i64 0, .int .i64 0, .bool false, .bool false, .int .i64 0, .bool false, .bool false, .int .i64 0, .bool false, .bool false, .int .i64 0, .bool false, .bool false] 0 HS5.out.b
  have k0 := hR.cell 0
  have k1 := hR.cell 1
  have k2 := hR.cell 2
  have k3 := hR.cell 3
  have k4 := hR.cell 4
  have k5 := hR.cell 5
  have k6 := hR.cell 6
  have k7 := hR.cell 7
  have k8 := hR.cell 8
  have k9 := hR.cell 9
  have k10 := hR.cell 10
  have k11 := hR.cell 11
  have k12 := hR.cell 12
  have k13 := hR.cell 13
  refine bodyPost_ret (v := .tuple #[.agg #[.int .i64 0, .int .i64 0, .int .i64 0, .bool false, .bool false, .int .i64 0, .bool false, .bool false, .int .i64 0, .bool false, .bool false, .int .i64 0, .bool false, .bool false], .int .i64 1]) ?_ rfl ⟨rfl, hB⟩
  simp [results, Tryd.f12, go_sem, k0, k1, k2, k3, k4, k5, k6, k7, k8, k9, k10, k11, k12, k13]
end Go.Proofs.YtjphechnadoblaaDoor
namespace Go.Proofs.YtjphechnadoblaaDoor
open Go.RowKit Go.ChangeShapes Go.WideShapes

theorem qV_ok (i k : Int) (hi : -1 ≤ i) (hk : wrapI 4 k = k) : (qV i k).ok = true := by
  simp [VD.ok, qV, validB, numL, oks, okAt, okLane, zeroL, points, zL, hi, hk, laneT]
theorem tgt_at {os : List OD} {i : Nat} {o : OD} (hi : os[i]? = some o) (k t : Int) (hk : wrapI 4 k = k) (ht : accN t ≠ 0) : tgtM os (qV i k) t = (o, 0) := by
  have hl := (List.getElem?_eq_some_iff.1 hi).1
  unfold tgtM
  have e4 : ¬ ((decide ((qV i k).o < 0) || decide ((os.length : Int) ≤ (qV i k).o)) = true) := by
    show ¬ ((decide ((i : Int) < 0) || decide ((os.length : Int) ≤ (i : Int))) = true)
    intro h
    rcases Bool.or_eq_true_iff.1 h with h | h
    · have := of_decide_eq_true h; omega
    · have := of_decide_eq_true h; omega
  rw [qV_ok _ _ (by omega) hk, if_neg (by simp [qV, ht]), if_neg (by simp [qV]), if_neg (by simp [qV]), if_neg e4]
  simp [qV, List.getD, hi]
theorem sl_len (o : OD) : ∃ A, o.sl = .slice A o.vs.length o.vs.length := by
  unfold OD.sl
  split
  · rename_i h; exact ⟨none, by rw [h]; rfl⟩
  · exact ⟨_, rfl⟩
theorem load_out {w : World} {B x : Nat} {OV : Value} {gl : Int} {os : List OD} (h : MemAt w B x OV gl os) (hos : os.length ≤ 1000) (hT : Tab w) {i : Nat} {o : OD} (hi : os[i]? = some o) (h256 : o.vs.length ≤ 256) (k t : Int) (hw : wrapI 4 k = k) (ht : accN t ≠ 0) (hbad : accT t ≠ o.el ∨ k < 0 ∨ (o.vs.length : Int) - accN t < k) :
    Calls Tryd.prog 12 #[.pointer (some ⟨x, 0, none⟩), .agg #[.int .i64 5, .int .i64 (i : Int), .int .i64 k, .bool false, .bool false, .int .i64 0, .bool false, .bool false, .int .i64 0, .bool false, .bool false, .int .i64 0, .bool false, .bool false], .int .i64 t] w fun e w' => e = .returned (.tuple #[.agg #[.int .i64 0, .int .i64 0, .int .i64 0, .bool false, .bool false, .int .i64 0, .bool false, .bool false, .int .i64 0, .bool false, .bool false, .int .i64 0, .bool false, .bool false], .int .i64 1]) ∧ Below w.heap.size w w' := by
  refine load_no h hos (qV i k) t hT o (tgt_at hi k t hw ht) (fun W _ => ?_)
  obtain ⟨A, hA⟩ := sl_len o
  rw [hA]
  exact read_out o.el k t A _ h256 hbad W
theorem load_at1 {w : World} {B x : Nat} {OV : Value} {gl : Int} {os : List OD} (h : MemAt w B x OV gl os) (hos : os.length ≤ 1000) (hT : Tab w) {i k : Nat} {o : OD} (hi : os[i]? = some o) (h256 : o.vs.length ≤ 256) (t : Int) (ht : accN t = 1) (hel : accT t = o.el) (hw : wrapI 4 k = k) (hk : k + 1 ≤ o.vs.length) (ov : Int) (ho : (o.vs[k]?).map VD.o = some ov) :
    Calls Tryd.prog 12 #[.pointer (some ⟨x, 0, none⟩), .agg #[.int .i64 5, .int .i64 (i : Int), .int .i64 (k : Int), .bool false, .bool false, .int .i64 0, .bool false, .bool false, .int .i64 0, .bool false, .bool false, .int .i64 0, .bool false, .bool false], .int .i64 t] w fun e w' => e = .returned (.tuple #[.agg #[.int .i64 t, .int .i64 ov, .int .i64 (laneV o.vs k 0).n, .bool (laneV o.vs k 0).p, .bool (laneV o.vs k 0).u, .int .i64 0, .bool false, .bool false, .int .i64 0, .bool false, .bool false, .int .i64 0, .bool false, .bool false], .int .i64 0]) ∧ Below w.heap.size w w' := by
  have hne : o.vs ≠ [] := by intro e; rw [e] at hk; simp at hk
  refine load_yes h hos (qV i k) t hT (rdV t ov o.vs k 1) o (tgt_at hi k t hw (by rw [ht]; decide)) (fun W hb => ?_)
  have hsl : o.sl = .slice (some ⟨o.g, 0, none⟩) o.vs.length o.vs.length := by unfold OD.sl; rw [if_neg hne]
  rw [hsl, ← hel]
  exact read_in1 t ov o.g _ k o.vs h256 rfl ht hk ho W ((h.vals i o hi hne).2.2.2.below' hb)
theorem load_at2 {w : World} {B x : Nat} {OV : Value} {gl : Int} {os : List OD} (h : MemAt w B x OV gl os) (hos : os.length ≤ 1000) (hT : Tab w) {i k : Nat} {o : OD} (hi : os[i]? = some o) (h256 : o.vs.length ≤ 256) (t : Int) (ht : accN t = 2) (hel : accT t = o.el) (hw : wrapI 4 k = k) (hk : k + 2 ≤ o.vs.length) (ov : Int) (ho : (o.vs[k]?).map VD.o = some ov) :
    Calls Tryd.prog 12 #[.pointer (some ⟨x, 0, none⟩), .agg #[.int .i64 5, .int .i64 (i : Int), .int .i64 (k : Int), .bool false, .bool false, .int .i64 0, .bool false, .bool false, .int .i64 0, .bool false, .bool false, .int .i64 0, .bool false, .bool false], .int .i64 t] w fun e w' => e = .returned (.tuple #[.agg #[.int .i64 t, .int .i64 ov, .int .i64 (laneV o.vs k 0).n, .bool (laneV o.vs k 0).p, .bool (laneV o.vs k 0).u, .int .i64 (laneV o.vs k 1).n, .bool (laneV o.vs k 1).p, .bool (laneV o.vs k 1).u, .int .i64 0, .bool false, .bool false, .int .i64 0, .bool false, .bool false], .int .i64 0]) ∧ Below w.heap.size w w' := by
  have hne : o.vs ≠ [] := by intro e; rw [e] at hk; simp at hk
  refine load_yes h hos (qV i k) t hT (rdV t ov o.vs k 2) o (tgt_at hi k t hw (by rw [ht]; decide)) (fun W hb => ?_)
  have hsl : o.sl = .slice (some ⟨o.g, 0, none⟩) o.vs.length o.vs.length := by unfold OD.sl; rw [if_neg hne]
  rw [hsl, ← hel]
  exact read_in2 t ov o.g _ k o.vs h256 rfl ht hk ho W ((h.vals i o hi hne).2.2.2.below' hb)

theorem gName : (!([103] : List UInt8).isEmpty && decide (([103] : List UInt8).length ≤ 24) && decide (identLen [103] = ([103] : List UInt8).length)) = true := by decide
theorem wrap37 : wrapI 3 7 = 7 := by decide
def pairG (g : Nat) : GD := ⟨[103], 3, 2, some ⟨g, 0, none⟩, 1, [7], false⟩
set_option maxRecDepth 100000 in
theorem pair_any (w : World) : Calls Tryd.prog 17 #[] w fun e w' => ∃ b g, e = .returned (.agg #[.slice (some ⟨b, 0, none⟩) 1 1, .slice none 0 0]) ∧ GlobAt w' (some ⟨b, 0, none⟩) 1 [pairG g] ∧ Below w.heap.size w w' := by
  go_enter Tryd.func17, Tryd.ntmps17
  go_wp2_with fail
  obtain ⟨w1, hw1⟩ : ∃ x, w.alloc (.cells #[.slice (some ⟨w.heap.size + 1 + 1, 0, none⟩) 1 1, .slice none 0 0] 25) = x := ⟨_, rfl⟩
  have hB1 : Below w.heap.size w w1 := by rw [← hw1]; exact (Below.refl _ _).alloc (Nat.le_refl _) _
  have hs1 : w1.heap.size = w.heap.size + 1 := by rw [← hw1]; simp [go_sem]
  have hW1 : Whole w1 w.heap.size 25 #[.slice (some ⟨w.heap.size + 1 + 1, 0, none⟩) 1 1, .slice none 0 0] := by rw [← hw1]; exact Whole.new _ _ _
  simp only [hw1]
  clear hw1
  obtain ⟨w2, hw2⟩ : ∃ x, w1.alloc (.cells #[.int .i64 7] 2) = x := ⟨_, rfl⟩
  have hB2 : Below w1.heap.size w1 w2 := by rw [← hw2]; exact (Below.refl _ _).alloc (Nat.le_refl _) _
  have hs2 : w2.heap.size = w.heap.size + 1 + 1 := by rw [← hw2]; simp [go_sem, hs1]
  have hW2 : Whole w2 (w.heap.size + 1) 2 #[.int .i64 7] := by rw [← hw2, ← hs1]; exact Whole.new _ _ _
  simp only [hw2]
  clear hw2
  obtain ⟨w3, hw3⟩ : ∃ x, w2.alloc (.cells #[.string ⟨#[103]⟩, .int .i64 3, .int .i64 2, .slice (some ⟨w.heap.size + 1, 0, none⟩) 1 1, .bool false] 75) = x := ⟨_, rfl⟩
  have hB3 : Below w2.heap.size w2 w3 := by rw [← hw3]; exact (Below.refl _ _).alloc (Nat.le_refl _) _
  have hW3 : Whole w3 (w.heap.size + 1 + 1) 75 #[.string ⟨#[103]⟩, .int .i64 3, .int .i64 2, .slice (some ⟨w.heap.size + 1, 0, none⟩) 1 1, .bool false] := by rw [← hw3, ← hs2]; exact Whole.new _ _ _
  simp only [hw3]
  clear hw3
  have k0 := ((hW1.below' hB2).below' hB3).cell 0
  have k1 := ((hW1.below' hB2).below' hB3).cell 1
  refine bodyPost_ret (v := .agg #[.slice (some ⟨w.heap.size + 1 + 1, 0, none⟩) 1 1, .slice none 0 0]) ?_ rfl ⟨_, w.heap.size + 1, rfl, ?_, Below.all (Below.all hB1 hB2) hB3⟩
  · simp [results, Tryd.f17, go_sem, k0, k1]
  · refine ⟨⟨fun r hr => ?_, _, _, rfl, by simp, by decide, fun _ => ⟨_, _, rfl, hW3.lt, ?_⟩⟩, ?_⟩
    · obtain rfl : r = GD.cl (pairG (w.heap.size + 1)) := by simpa using hr
      rfl
    · intro i j r z hi hj
      cases i with
      | zero =>
        obtain rfl : r = GD.cl (pairG (w.heap.size + 1)) := by simpa using hi.symm
        have hz : (#[Value.string ⟨#[103]⟩, .int .i64 3, .int .i64 2, .slice (some ⟨w.heap.size + 1, 0, none⟩) 1 1, .bool false])[j]? = some z := by rw [← hj]; simp [GD.cl, pairG, Bs]
        have := hW3.cell j
        simp only [Nat.zero_add, Nat.zero_mul]
        rw [← hz, this]
      | succ i => simp at hi
    · intro d hd
      obtain rfl : d = pairG (w.heap.size + 1) := by simpa using hd
      refine ⟨_, _, rfl, by show (1 : Nat) ≤ 1; decide, by show 1 ≤ maxLen; decide, fun _ => ⟨_, _, rfl, (hW2.below' hB3).lt, ?_⟩⟩
      intro j z hj
      cases j with
      | zero =>
        obtain rfl : z = 7 := by simpa [pairG] using hj.symm
        exact (hW2.below' hB3).cell 0
      | succ j => simp [pairG] at hj
/-- The memory's one object. -/
def pairO (g : Nat) : OD := ⟨3, false, [iV 3 7, pV 3], g⟩
theorem pairnew_any (b g : Nat) (w : World) (hT : Tab w) (hG : GlobAt w (some ⟨b, 0, none⟩) 1 [pairG g]) :
    Calls Tryd.prog 16 #[.agg #[.slice (some ⟨b, 0, none⟩) 1 1, .slice none 0 0], .slice none 0 0] w fun e w' =>
      ∃ x OV q, e = .returned (.pointer (some ⟨x, 0, none⟩)) ∧ MemAt w' w.heap.size x OV 1 [pairO q] ∧ Below w.heap.size w w' := by
  refine (new_any (some ⟨b, 0, none⟩) none none 1 0 0 [pairG g] [] (by simp) ?_ ?_ ⟨by simp, ?_⟩ w hT hG (CellsAt.nil w)).mono ?_
  · intro d hd
    obtain rfl : d = pairG g := by simpa using hd
    exact ⟨gName, by simp [pairG], by simp [pairG], by simp [pairG], fun e => by simp [pairG] at e, fun n hn => by
      have e : n = 7 := by simpa [pairG] using hn
      subst e
      exact wrap37⟩
  · intro i d hi
    cases i with
    | zero => rfl
    | succ i => simp at hi
  · intro j d hj
    cases j with
    | zero => obtain rfl : d = pairG g := by simpa using hj.symm
              exact ⟨by simp [givC, CD.none, pairG], fun v hv => by simp [givC, CD.none] at hv⟩
    | succ j => simp at hj
  · rintro e w' ⟨x, OV, os, rfl, hm, hl, hM, hb⟩
    obtain ⟨o, rfl⟩ : ∃ o, os = [o] := by
      match os, hl with
      | [o], _ => exact ⟨o, rfl⟩
    obtain ⟨h1, h2, h3⟩ := hM 0 (pairG g) o rfl rfl
    have e4 : newVs (pairG g) (givC [] 0).l = [iV 3 7, pV 3] := rfl
    rw [e4] at h3
    have : o = pairO o.g := by
      cases o
      simp only at h1 h2 h3
      subst h1; subst h2; subst h3
      rfl
    exact ⟨x, OV, o.g, rfl, by rw [← this]; exact hm, hb⟩
end Go.Proofs.YtjphechnadoblaaDoor

/-
  Layer 12 (opcode): typesFit and Check of a call.
-/
import Derived.Deep.RegionHeld3
import Derived.Test.YtnhaanjpcnnifaaDoorOpJ
namespace Go.Proofs.YtnhaanjpcnnifaaDoor
open Go.RowKit

/-- A function of the module, as far as Check looks at it. -/
structure FD where
  u0 : Value
  PA : Option Addr
  pc : Nat
  pl : List Int
  res : Int
  CA : Option Addr
  cc : Nat
  cl : List Int
  u4 : Value
structure FnAt (w : World) (b o : Nat) (d : FD) : Prop where
  c0 : w.cell? ⟨b, o, none⟩ = some d.u0
  c1 : w.cell? ⟨b, o + 1, none⟩ = some (.slice d.PA d.pl.length d.pc)
  c2 : w.cell? ⟨b, o + 2, none⟩ = some (.int .i64 d.res)
  c3 : w.cell? ⟨b, o + 3, none⟩ = some (.slice d.CA d.cl.length d.cc)
  c4 : w.cell? ⟨b, o + 4, none⟩ = some d.u4
  p : Rd w .i64 (.slice d.PA d.pl.length d.pc) d.pl
  c : Rd w .i64 (.slice d.CA d.cl.length d.cc) d.cl
theorem FnAt.below {w w' : World} {b o : Nat} {d : FD} (h : FnAt w b o d) (hb : Below w.heap.size w w') : FnAt w' b o d :=
  ⟨cell_below hb h.c0, cell_below hb h.c1, cell_below hb h.c2, cell_below hb h.c3, cell_below hb h.c4, h.p.below' hb, h.c.below' hb⟩
set_option maxRecDepth 100000 in
set_option maxHeartbeats 8000000 in
theorem types_call (ty dst imm el : Int) (A RA GA : Option Addr) (c rc gn gc fb fo fn fc s : Nat) (d : FD) (hs : s < fn) (l rl : List Int) (hm : l.length ≤ 1000) (hpl : l.length = d.pl.length) (hin : ∀ z ∈ l, 0 ≤ z ∧ z < rl.length) (nw : Bool) (v0 v1 v4 : Value) (res : Int) (w : World) (hT : Tab w) (hO : OpTab w)
    (hl : Rd w .i64 (.slice A l.length c) l) (hr : Rd w .i64 (.slice RA rl.length rc) rl) (hF : FnAt w fb (fo + s * 5) d) :
    Calls Tryd.prog 62 #[.agg #[.int .i64 30, .int .i64 ty, .int .i64 dst, .slice A l.length c, .int .i64 imm, .int .i64 (s : Int), .int .i64 el, .bool nw], .agg #[v0, v1, .int .i64 res, .slice RA rl.length rc, v4], .agg #[.slice GA gn gc, .slice (some ⟨fb, fo, none⟩) fn fc]] w fun e w' => e = .returned (.bool (callM ty d.res l rl d.pl d.cl)) ∧ Below w.heap.size w w' := by
  obtain ⟨w1, hw1⟩ : ∃ z, ((w.alloc (.cells #[.int .i64 30, .int .i64 ty, .int .i64 dst, .slice A l.length c, .int .i64 imm, .int .i64 (s : Int), .int .i64 el, .bool nw] 78)).alloc (.cells #[v0, v1, .int .i64 res, .slice RA rl.length rc, v4] 28)).alloc (.cells #[.slice GA gn gc, .slice (some ⟨fb, fo, none⟩) fn fc] 32) = z := ⟨_, rfl⟩
  have HS : Hid (ChkS w w1.drew #[.int .i64 30, .int .i64 ty, .int .i64 dst, .slice A l.length c, .int .i64 imm, .int .i64 (s : Int), .int .i64 el, .bool nw] #[v0, v1, .int .i64 res, .slice RA rl.length rc, v4] #[.slice GA gn gc, .slice (some ⟨fb, fo, none⟩) fn fc] (.slice A l.length c) (.slice RA rl.length rc) l rl) := hide (by rw [← hw1]; exact (ChkS.new w _ _ _ hT hO hl hr).next (Below.refl _ _).drew)
  have HD : Hid (FnAt w1.drew fb (fo + s * 5) d) := hide (hF.below HS.out.b)
  have HC := hide (fun W (hl : Rd W .i64 (.slice A l.length c) l) (hr : Rd W .i64 (.slice RA rl.length rc) rl) (hD : FnAt W fb (fo + s * 5) d) => callfits_any ty dst imm s el A RA d.PA d.CA c rc d.pc d.cc l rl d.pl d.cl hm hpl hin nw v0 v1 v4 d.u0 d.u4 res d.res W hl hr hD.p hD.c)
  have i0 : w1.cell? ⟨w.heap.size, 0, none⟩ = some (.int .i64 30) := HS.out.i.cell 0
  obtain ⟨R, hR⟩ : ∃ R, callM ty d.res l rl d.pl d.cl = R := ⟨_, rfl⟩
  rw [hR] at HC ⊢
  have hsf : (s : Int) < (fn : Int) := by omega
  clear hT hO hl hr hF hR hpl hin
  go_enter Tryd.func62, Tryd.ntmps62
  go_upto_region 1 with fail
  clear hw1
  go_upto_region 2 with fail
  clear i0
  go_region_held3 (fun w' => w'.cell? ⟨w.heap.size, 0, none⟩ = some (.int .i64 30) ∧ w'.cell? ⟨w.heap.size, 1, none⟩ = some (.int .i64 ty) ∧ w'.cell? ⟨w.heap.size, 2, none⟩ = some (.int .i64 dst) ∧ w'.cell? ⟨w.heap.size, 3, none⟩ = some (.slice A l.length c) ∧ w'.cell? ⟨w.heap.size, 4, none⟩ = some (.int .i64 imm) ∧ w'.cell? ⟨w.heap.size, 5, none⟩ = some (.int .i64 (s : Int)) ∧ w'.cell? ⟨w.heap.size, 6, none⟩ = some (.int .i64 el) ∧ w'.cell? ⟨w.heap.size, 7, none⟩ = some (.bool nw) ∧ w'.cell? ⟨w.heap.size + 1, 0, none⟩ = some (v0) ∧ w'.cell? ⟨w.heap.size + 1, 1, none⟩ = some (v1) ∧ w'.cell? ⟨w.heap.size + 1, 2, none⟩ = some (.int .i64 res) ∧ w'.cell? ⟨w.heap.size + 1, 3, none⟩ = some (.slice RA rl.length rc) ∧ w'.cell? ⟨w.heap.size + 1, 4, none⟩ = some (v4) ∧ w'.cell? ⟨w.heap.size + 2, 1, none⟩ = some (.slice (some ⟨fb, fo, none⟩) fn fc) ∧ w'.cell? ⟨fb, fo + s * 5, none⟩ = some (d.u0) ∧ w'.cell? ⟨fb, fo + s * 5 + 1, none⟩ = some (.slice d.PA d.pl.length d.pc) ∧ w'.cell? ⟨fb, fo + s * 5 + 2, none⟩ = some (.int .i64 d.res) ∧ w'.cell? ⟨fb, fo + s * 5 + 3, none⟩ = some (.slice d.CA d.cl.length d.cc) ∧ w'.cell? ⟨fb, fo + s * 5 + 4, none⟩ = some (d.u4)) (exact ⟨HS.out.i.cell 0, HS.out.i.cell 1, HS.out.i.cell 2, HS.out.i.cell 3, HS.out.i.cell 4, HS.out.i.cell 5, HS.out.i.cell 6, HS.out.i.cell 7, HS.out.f.cell 0, HS.out.f.cell 1, HS.out.f.cell 2, HS.out.f.cell 3, HS.out.f.cell 4, HS.out.m.cell 1, HD.out.c0, HD.out.c1, HD.out.c2, HD.out.c3, HD.out.c4⟩) (first | (go_at_call 87; refine (HC.out _ HS.out.l HS.out.r HD.out).mono ?_; rintro en wn ⟨rfl, hb⟩; replace HS := hide (HS.out.next hb); replace HD := hide (HD.out.below hb); clear hb))
  all_goals
    go_wp2_with fail
    go_ret
    exact ⟨rfl, HS.out.b⟩

/-- Check's answer for a call of a function of the module. -/
def checkC (ty dst imm el : Int) (nw : Bool) (l rl : List Int) (s gn fn : Nat) (d : FD) : Int :=
  chkM true (strayM 30 imm s el nw) (symM 30 s gn fn) (decide (l.length = d.pl.length)) (regsM l dst rl.length) (callM ty d.res l rl d.pl d.cl) (dstM 30 ty dst rl) true true
set_option maxRecDepth 100000 in
set_option maxHeartbeats 16000000 in
theorem check_call (ty dst imm el : Int) (A RA GA : Option Addr) (c rc gn gc fb fo fn fc s : Nat) (d : FD) (hs : s < fn) (l rl : List Int) (hm : l.length ≤ 1000) (nw : Bool) (v0 v1 v4 : Value) (res : Int) (w : World) (hT : Tab w) (hO : OpTab w)
    (hl : Rd w .i64 (.slice A l.length c) l) (hr : Rd w .i64 (.slice RA rl.length rc) rl) (hF : FnAt w fb (fo + s * 5) d) :
    Calls Tryd.prog 41 #[.agg #[.int .i64 30, .int .i64 ty, .int .i64 dst, .slice A l.length c, .int .i64 imm, .int .i64 (s : Int), .int .i64 el, .bool nw], .agg #[v0, v1, .int .i64 res, .slice RA rl.length rc, v4], .agg #[.slice GA gn gc, .slice (some ⟨fb, fo, none⟩) fn fc]] w fun e w' => e = .returned (.int .i64 (checkC ty dst imm el nw l rl s gn fn d)) ∧ Below w.heap.size w w' := by
  obtain ⟨w1, hw1⟩ : ∃ z, ((w.alloc (.cells #[.int .i64 30, .int .i64 ty, .int .i64 dst, .slice A l.length c, .int .i64 imm, .int .i64 (s : Int), .int .i64 el, .bool nw] 78)).alloc (.cells #[v0, v1, .int .i64 res, .slice RA rl.length rc, v4] 28)).alloc (.cells #[.slice GA gn gc, .slice (some ⟨fb, fo, none⟩) fn fc] 32) = z := ⟨_, rfl⟩
  have HS : Hid (ChkS w w1 #[.int .i64 30, .int .i64 ty, .int .i64 dst, .slice A l.length c, .int .i64 imm, .int .i64 (s : Int), .int .i64 el, .bool nw] #[v0, v1, .int .i64 res, .slice RA rl.length rc, v4] #[.slice GA gn gc, .slice (some ⟨fb, fo, none⟩) fn fc] (.slice A l.length c) (.slice RA rl.length rc) l rl) := hide (by rw [← hw1]; exact ChkS.new w _ _ _ hT hO hl hr)
  have HFD := hide hF
  unfold checkC
  clear hT hO hl hr hF
  have i0 : w1.cell? ⟨w.heap.size, 0, none⟩ = some (.int .i64 30) := HS.out.i.cell 0
  have i1 : w1.cell? ⟨w.heap.size, 1, none⟩ = some (.int .i64 ty) := HS.out.i.cell 1
  have i2 : w1.cell? ⟨w.heap.size, 2, none⟩ = some (.int .i64 dst) := HS.out.i.cell 2
  have i3 : w1.cell? ⟨w.heap.size, 3, none⟩ = some (.slice A l.length c) := HS.out.i.cell 3
  have i4 : w1.cell? ⟨w.heap.size, 4, none⟩ = some (.int .i64 imm) := HS.out.i.cell 4
  have i5 : w1.cell? ⟨w.heap.size, 5, none⟩ = some (.int .i64 (s : Int)) := HS.out.i.cell 5
  have i6 : w1.cell? ⟨w.heap.size, 6, none⟩ = some (.int .i64 el) := HS.out.i.cell 6
  have i7 : w1.cell? ⟨w.heap.size, 7, none⟩ = some (.bool nw) := HS.out.i.cell 7
  have f0 : w1.cell? ⟨w.heap.size + 1, 0, none⟩ = some (v0) := HS.out.f.cell 0
  have f1 : w1.cell? ⟨w.heap.size + 1, 1, none⟩ = some (v1) := HS.out.f.cell 1
  have f2 : w1.cell? ⟨w.heap.size + 1, 2, none⟩ = some (.int .i64 res) := HS.out.f.cell 2
  have f3 : w1.cell? ⟨w.heap.size + 1, 3, none⟩ = some (.slice RA rl.length rc) := HS.out.f.cell 3
  have f4 : w1.cell? ⟨w.heap.size + 1, 4, none⟩ = some (v4) := HS.out.f.cell 4
  have m0 : w1.cell? ⟨w.heap.size + 2, 0, none⟩ = some (.slice GA gn gc) := HS.out.m.cell 0
  have m1 : w1.cell? ⟨w.heap.size + 2, 1, none⟩ = some (.slice (some ⟨fb, fo, none⟩) fn fc) := HS.out.m.cell 1
  go_enter Tryd.func41, Tryd.ntmps41
  go_upto_region 1 with fail
  clear hw1
  go_wp2_with fail
  refine (isop_any 30 _).mono ?_
  rintro en wn ⟨rfl, rfl⟩
  rw [show isOp 30 = true from rfl]
  go_wp2_with fail
  refine (stray_any 30 ty dst imm s el A l.length c nw _).mono ?_
  rintro en x101 ⟨rfl, hb⟩
  clear i0 i1 i2 i3 i4 i5 i6 i7 f0 f1 f2 f3 f4 m0 m1
  replace HS := hide (HS.out.next hb)
  clear hb
  have i0 : x101.cell? ⟨w.heap.size, 0, none⟩ = some (.int .i64 30) := HS.out.i.cell 0
  have i1 : x101.cell? ⟨w.heap.size, 1, none⟩ = some (.int .i64 ty) := HS.out.i.cell 1
  have i2 : x101.cell? ⟨w.heap.size, 2, none⟩ = some (.int .i64 dst) := HS.out.i.cell 2
  have i3 : x101.cell? ⟨w.heap.size, 3, none⟩ = some (.slice A l.length c) := HS.out.i.cell 3
  have i4 : x101.cell? ⟨w.heap.size, 4, none⟩ = some (.int .i64 imm) := HS.out.i.cell 4
  have i5 : x101.cell? ⟨w.heap.size, 5, none⟩ = some (.int .i64 (s : Int)) := HS.out.i.cell 5
  have i6 : x101.cell? ⟨w.heap.size, 6, none⟩ = some (.int .i64 el) := HS.out.i.cell 6
  have i7 : x101.cell? ⟨w.heap.size, 7, none⟩ = some (.bool nw) := HS.out.i.cell 7
  have f0 : x101.cell? ⟨w.heap.size + 1, 0, none⟩ = some (v0) := HS.out.f.cell 0
  have f1 : x101.cell? ⟨w.heap.size + 1, 1, none⟩ = some (v1) := HS.out.f.cell 1
  have f2 : x101.cell? ⟨w.heap.size + 1, 2, none⟩ = some (.int .i64 res) := HS.out.f.cell 2
  have f3 : x101.cell? ⟨w.heap.size + 1, 3, none⟩ = some (.slice RA rl.length rc) := HS.out.f.cell 3
  have f4 : x101.cell? ⟨w.heap.size + 1, 4, none⟩ = some (v4) := HS.out.f.cell 4
  have m0 : x101.cell? ⟨w.heap.size + 2, 0, none⟩ = some (.slice GA gn gc) := HS.out.m.cell 0
  have m1 : x101.cell? ⟨w.heap.size + 2, 1, none⟩ = some (.slice (some ⟨fb, fo, none⟩) fn fc) := HS.out.m.cell 1
  cases e2 : strayM 30 imm s el nw with
  | true =>
    go_wp2_with fail
    go_ret
    exact ⟨by simp only [chkM, *]; rfl, HS.out.b⟩
  | false =>
    go_wp2_with fail
    refine (symex_any 30 ty dst imm s el A GA (some ⟨fb, fo, none⟩) l.length c gn gc fn fc nw _).mono ?_
    rintro en x102 ⟨rfl, hb⟩
    clear i0 i1 i2 i3 i4 i5 i6 i7 f0 f1 f2 f3 f4 m0 m1
    replace HS := hide (HS.out.next hb)
    clear hb
    have i0 : x102.cell? ⟨w.heap.size, 0, none⟩ = some (.int .i64 30) := HS.out.i.cell 0
    have i1 : x102.cell? ⟨w.heap.size, 1, none⟩ = some (.int .i64 ty) := HS.out.i.cell 1
    have i2 : x102.cell? ⟨w.heap.size, 2, none⟩ = some (.int .i64 dst) := HS.out.i.cell 2
    have i3 : x102.cell? ⟨w.heap.size, 3, none⟩ = some (.slice A l.length c) := HS.out.i.cell 3
    have i4 : x102.cell? ⟨w.heap.size, 4, none⟩ = some (.int .i64 imm) := HS.out.i.cell 4
    have i5 : x102.cell? ⟨w.heap.size, 5, none⟩ = some (.int .i64 (s : Int)) := HS.out.i.cell 5
    have i6 : x102.cell? ⟨w.heap.size, 6, none⟩ = some (.int .i64 el) := HS.out.i.cell 6
    have i7 : x102.cell? ⟨w.heap.size, 7, none⟩ = some (.bool nw) := HS.out.i.cell 7
    have f0 : x102.cell? ⟨w.heap.size + 1, 0, none⟩ = some (v0) := HS.out.f.cell 0
    have f1 : x102.cell? ⟨w.heap.size + 1, 1, none⟩ = some (v1) := HS.out.f.cell 1
    have f2 : x102.cell? ⟨w.heap.size + 1, 2, none⟩ = some (.int .i64 res) := HS.out.f.cell 2
    have f3 : x102.cell? ⟨w.heap.size + 1, 3, none⟩ = some (.slice RA rl.length rc) := HS.out.f.cell 3
    have f4 : x102.cell? ⟨w.heap.size + 1, 4, none⟩ = some (v4) := HS.out.f.cell 4
    have m0 : x102.cell? ⟨w.heap.size + 2, 0, none⟩ = some (.slice GA gn gc) := HS.out.m.cell 0
    have m1 : x102.cell? ⟨w.heap.size + 2, 1, none⟩ = some (.slice (some ⟨fb, fo, none⟩) fn fc) := HS.out.m.cell 1
    cases e3 : symM 30 s gn fn with
    | false =>
      go_wp2_with fail
      go_ret
      exact ⟨by simp only [chkM, *]; rfl, HS.out.b⟩
    | true =>
      go_wp2_with fail
      refine (count_call ty dst imm el A GA d.PA l.length c gn gc fb fo fn fc s d.pl.length d.pc nw hs _ (HFD.out.below HS.out.b).c1).mono ?_
      rintro en x103 ⟨rfl, hb⟩
      clear i0 i1 i2 i3 i4 i5 i6 i7 f0 f1 f2 f3 f4 m0 m1
      replace HS := hide (HS.out.next hb)
      clear hb
      have i0 : x103.cell? ⟨w.heap.size, 0, none⟩ = some (.int .i64 30) := HS.out.i.cell 0
      have i1 : x103.cell? ⟨w.heap.size, 1, none⟩ = some (.int .i64 ty) := HS.out.i.cell 1
      have i2 : x103.cell? ⟨w.heap.size, 2, none⟩ = some (.int .i64 dst) := HS.out.i.cell 2
      have i3 : x103.cell? ⟨w.heap.size, 3, none⟩ = some (.slice A l.length c) := HS.out.i.cell 3
      have i4 : x103.cell? ⟨w.heap.size, 4, none⟩ = some (.int .i64 imm) := HS.out.i.cell 4
      have i5 : x103.cell? ⟨w.heap.size, 5, none⟩ = some (.int .i64 (s : Int)) := HS.out.i.cell 5
      have i6 : x103.cell? ⟨w.heap.size, 6, none⟩ = some (.int .i64 el) := HS.out.i.cell 6
      have i7 : x103.cell? ⟨w.heap.size, 7, none⟩ = some (.bool nw) := HS.out.i.cell 7
      have f0 : x103.cell? ⟨w.heap.size + 1, 0, none⟩ = some (v0) := HS.out.f.cell 0
      have f1 : x103.cell? ⟨w.heap.size + 1, 1, none⟩ = some (v1) := HS.out.f.cell 1
      have f2 : x103.cell? ⟨w.heap.size + 1, 2, none⟩ = some (.int .i64 res) := HS.out.f.cell 2
      have f3 : x103.cell? ⟨w.heap.size + 1, 3, none⟩ = some (.slice RA rl.length rc) := HS.out.f.cell 3
      have f4 : x103.cell? ⟨w.heap.size + 1, 4, none⟩ = some (v4) := HS.out.f.cell 4
      have m0 : x103.cell? ⟨w.heap.size + 2, 0, none⟩ = some (.slice GA gn gc) := HS.out.m.cell 0
      have m1 : x103.cell? ⟨w.heap.size + 2, 1, none⟩ = some (.slice (some ⟨fb, fo, none⟩) fn fc) := HS.out.m.cell 1
      cases e4 : decide (l.length = d.pl.length) with
      | false =>
        go_wp2_with fail
        go_ret
        exact ⟨by simp only [chkM, *]; rfl, HS.out.b⟩
      | true =>
        go_wp2_with fail
        refine (regs_any 30 ty dst imm s el A RA c rl.length rc l (by omega) nw v0 v1 v4 res _ HS.out.l).mono ?_
        rintro en x104 ⟨rfl, hb⟩
        clear i0 i1 i2 i3 i4 i5 i6 i7 f0 f1 f2 f3 f4 m0 m1
        replace HS := hide (HS.out.next hb)
        clear hb
        have i0 : x104.cell? ⟨w.heap.size, 0, none⟩ = some (.int .i64 30) := HS.out.i.cell 0
        have i1 : x104.cell? ⟨w.heap.size, 1, none⟩ = some (.int .i64 ty) := HS.out.i.cell 1
        have i2 : x104.cell? ⟨w.heap.size, 2, none⟩ = some (.int .i64 dst) := HS.out.i.cell 2
        have i3 : x104.cell? ⟨w.heap.size, 3, none⟩ = some (.slice A l.length c) := HS.out.i.cell 3
        have i4 : x104.cell? ⟨w.heap.size, 4, none⟩ = some (.int .i64 imm) := HS.out.i.cell 4
        have i5 : x104.cell? ⟨w.heap.size, 5, none⟩ = some (.int .i64 (s : Int)) := HS.out.i.cell 5
        have i6 : x104.cell? ⟨w.heap.size, 6, none⟩ = some (.int .i64 el) := HS.out.i.cell 6
        have i7 : x104.cell? ⟨w.heap.size, 7, none⟩ = some (.bool nw) := HS.out.i.cell 7
        have f0 : x104.cell? ⟨w.heap.size + 1, 0, none⟩ = some (v0) := HS.out.f.cell 0
        have f1 : x104.cell? ⟨w.heap.size + 1, 1, none⟩ = some (v1) := HS.out.f.cell 1
        have f2 : x104.cell? ⟨w.heap.size + 1, 2, none⟩ = some (.int .i64 res) := HS.out.f.cell 2
        have f3 : x104.cell? ⟨w.heap.size + 1, 3, none⟩ = some (.slice RA rl.length rc) := HS.out.f.cell 3
        have f4 : x104.cell? ⟨w.heap.size + 1, 4, none⟩ = some (v4) := HS.out.f.cell 4
        have m0 : x104.cell? ⟨w.heap.size + 2, 0, none⟩ = some (.slice GA gn gc) := HS.out.m.cell 0
        have m1 : x104.cell? ⟨w.heap.size + 2, 1, none⟩ = some (.slice (some ⟨fb, fo, none⟩) fn fc) := HS.out.m.cell 1
        cases e5 : regsM l dst rl.length with
        | false =>
          go_wp2_with fail
          go_ret
          exact ⟨by simp only [chkM, *]; rfl, HS.out.b⟩
        | true =>
          have hin : ∀ z ∈ l, 0 ≤ z ∧ z < rl.length := fun z hz => by
            simp only [regsM, Bool.and_eq_true, List.all_eq_true] at e5
            simpa using e5.1 z hz
          have hdst : dst = -1 ∨ 0 ≤ dst ∧ dst < rl.length := by
            simp only [regsM, Bool.and_eq_true, Bool.or_eq_true, decide_eq_true_eq] at e5
            exact e5.2
          have HTY := hide (fun W hT hO hL hR hF => types_call ty dst imm el A RA GA c rc gn gc fb fo fn fc s d hs l rl hm (by simpa using e4) hin nw v0 v1 v4 res W hT hO hL hR hF)
          have HDS := hide (fun W hR => dst_any 30 ty dst imm s el A RA c rc l rl hdst nw v0 v1 v4 res W hR)
          have HIM := hide (fun W hT hL hR => imm_any 30 ty dst imm s el A RA c rc l rl hin (fun h => absurd h (by decide)) nw v0 v1 v4 res W hT hL hR)
          clear hin hdst
          cases e6 : callM ty d.res l rl d.pl d.cl with
          | false =>
            go_wp2_with fail
            refine (HTY.out _ HS.out.t HS.out.o HS.out.l HS.out.r (HFD.out.below HS.out.b)).mono ?_
            rintro en x105 ⟨rfl, hb⟩
            clear i0 i1 i2 i3 i4 i5 i6 i7 f0 f1 f2 f3 f4 m0 m1
            replace HS := hide (HS.out.next hb)
            clear hb
            have i0 : x105.cell? ⟨w.heap.size, 0, none⟩ = some (.int .i64 30) := HS.out.i.cell 0
            have i1 : x105.cell? ⟨w.heap.size, 1, none⟩ = some (.int .i64 ty) := HS.out.i.cell 1
            have i2 : x105.cell? ⟨w.heap.size, 2, none⟩ = some (.int .i64 dst) := HS.out.i.cell 2
            have i3 : x105.cell? ⟨w.heap.size, 3, none⟩ = some (.slice A l.length c) := HS.out.i.cell 3
            have i4 : x105.cell? ⟨w.heap.size, 4, none⟩ = some (.int .i64 imm) := HS.out.i.cell 4
            have i5 : x105.cell? ⟨w.heap.size, 5, none⟩ = some (.int .i64 (s : Int)) := HS.out.i.cell 5
            have i6 : x105.cell? ⟨w.heap.size, 6, none⟩ = some (.int .i64 el) := HS.out.i.cell 6
            have i7 : x105.cell? ⟨w.heap.size, 7, none⟩ = some (.bool nw) := HS.out.i.cell 7
            have f0 : x105.cell? ⟨w.heap.size + 1, 0, none⟩ = some (v0) := HS.out.f.cell 0
            have f1 : x105.cell? ⟨w.heap.size + 1, 1, none⟩ = some (v1) := HS.out.f.cell 1
            have f2 : x105.cell? ⟨w.heap.size + 1, 2, none⟩ = some (.int .i64 res) := HS.out.f.cell 2
            have f3 : x105.cell? ⟨w.heap.size + 1, 3, none⟩ = some (.slice RA rl.length rc) := HS.out.f.cell 3
            have f4 : x105.cell? ⟨w.heap.size + 1, 4, none⟩ = some (v4) := HS.out.f.cell 4
            have m0 : x105.cell? ⟨w.heap.size + 2, 0, none⟩ = some (.slice GA gn gc) := HS.out.m.cell 0
            have m1 : x105.cell? ⟨w.heap.size + 2, 1, none⟩ = some (.slice (some ⟨fb, fo, none⟩) fn fc) := HS.out.m.cell 1
            rw [e6]
            go_wp2_with fail
            go_ret
            exact ⟨by simp only [chkM, *]; rfl, HS.out.b⟩
          | true =>
            go_wp2_with fail
            refine (HTY.out _ HS.out.t HS.out.o HS.out.l HS.out.r (HFD.out.below HS.out.b)).mono ?_
            rintro en x106 ⟨rfl, hb⟩
            clear i0 i1 i2 i3 i4 i5 i6 i7 f0 f1 f2 f3 f4 m0 m1
            replace HS := hide (HS.out.next hb)
            clear hb
            have i0 : x106.cell? ⟨w.heap.size, 0, none⟩ = some (.int .i64 30) := HS.out.i.cell 0
            have i1 : x106.cell? ⟨w.heap.size, 1, none⟩ = some (.int .i64 ty) := HS.out.i.cell 1
            have i2 : x106.cell? ⟨w.heap.size, 2, none⟩ = some (.int .i64 dst) := HS.out.i.cell 2
            have i3 : x106.cell? ⟨w.heap.size, 3, none⟩ = some (.slice A l.length c) := HS.out.i.cell 3
            have i4 : x106.cell? ⟨w.heap.size, 4, none⟩ = some (.int .i64 imm) := HS.out.i.cell 4
            have i5 : x106.cell? ⟨w.heap.size, 5, none⟩ = some (.int .i64 (s : Int)) := HS.out.i.cell 5
            have i6 : x106.cell? ⟨w.heap.size, 6, none⟩ = some (.int .i64 el) := HS.out.i.cell 6
            have i7 : x106.cell? ⟨w.heap.size, 7, none⟩ = some (.bool nw) := HS.out.i.cell 7
            have f0 : x106.cell? ⟨w.heap.size + 1, 0, none⟩ = some (v0) := HS.out.f.cell 0
            have f1 : x106.cell? ⟨w.heap.size + 1, 1, none⟩ = some (v1) := HS.out.f.cell 1
            have f2 : x106.cell? ⟨w.heap.size + 1, 2, none⟩ = some (.int .i64 res) := HS.out.f.cell 2
            have f3 : x106.cell? ⟨w.heap.size + 1, 3, none⟩ = some (.slice RA rl.length rc) := HS.out.f.cell 3
            have f4 : x106.cell? ⟨w.heap.size + 1, 4, none⟩ = some (v4) := HS.out.f.cell 4
            have m0 : x106.cell? ⟨w.heap.size + 2, 0, none⟩ = some (.slice GA gn gc) := HS.out.m.cell 0
            have m1 : x106.cell? ⟨w.heap.size + 2, 1, none⟩ = some (.slice (some ⟨fb, fo, none⟩) fn fc) := HS.out.m.cell 1
            rw [e6]
            cases e7 : dstM 30 ty dst rl with
            | false =>
              go_wp2_with fail
              refine (HDS.out _ HS.out.r).mono ?_
              rintro en x107 ⟨rfl, hb⟩
              clear i0 i1 i2 i3 i4 i5 i6 i7 f0 f1 f2 f3 f4 m0 m1
              replace HS := hide (HS.out.next hb)
              clear hb
              have i0 : x107.cell? ⟨w.heap.size, 0, none⟩ = some (.int .i64 30) := HS.out.i.cell 0
              have i1 : x107.cell? ⟨w.heap.size, 1, none⟩ = some (.int .i64 ty) := HS.out.i.cell 1
              have i2 : x107.cell? ⟨w.heap.size, 2, none⟩ = some (.int .i64 dst) := HS.out.i.cell 2
              have i3 : x107.cell? ⟨w.heap.size, 3, none⟩ = some (.slice A l.length c) := HS.out.i.cell 3
              have i4 : x107.cell? ⟨w.heap.size, 4, none⟩ = some (.int .i64 imm) := HS.out.i.cell 4
              have i5 : x107.cell? ⟨w.heap.size, 5, none⟩ = some (.int .i64 (s : Int)) := HS.out.i.cell 5
              have i6 : x107.cell? ⟨w.heap.size, 6, none⟩ = some (.int .i64 el) := HS.out.i.cell 6
              have i7 : x107.cell? ⟨w.heap.size, 7, none⟩ = some (.bool nw) := HS.out.i.cell 7
              have f0 : x107.cell? ⟨w.heap.size + 1, 0, none⟩ = some (v0) := HS.out.f.cell 0
              have f1 : x107.cell? ⟨w.heap.size + 1, 1, none⟩ = some (v1) := HS.out.f.cell 1
              have f2 : x107.cell? ⟨w.heap.size + 1, 2, none⟩ = some (.int .i64 res) := HS.out.f.cell 2
              have f3 : x107.cell? ⟨w.heap.size + 1, 3, none⟩ = some (.slice RA rl.length rc) := HS.out.f.cell 3
              have f4 : x107.cell? ⟨w.heap.size + 1, 4, none⟩ = some (v4) := HS.out.f.cell 4
              have m0 : x107.cell? ⟨w.heap.size + 2, 0, none⟩ = some (.slice GA gn gc) := HS.out.m.cell 0
              have m1 : x107.cell? ⟨w.heap.size + 2, 1, none⟩ = some (.slice (some ⟨fb, fo, none⟩) fn fc) := HS.out.m.cell 1
              rw [e7]
              go_wp2_with fail
              go_ret
              exact ⟨by simp only [chkM, *]; rfl, HS.out.b⟩
            | true =>
              go_wp2_with fail
              refine (HDS.out _ HS.out.r).mono ?_
              rintro en x108 ⟨rfl, hb⟩
              clear i0 i1 i2 i3 i4 i5 i6 i7 f0 f1 f2 f3 f4 m0 m1
              replace HS := hide (HS.out.next hb)
              clear hb
              have i0 : x108.cell? ⟨w.heap.size, 0, none⟩ = some (.int .i64 30) := HS.out.i.cell 0
              have i1 : x108.cell? ⟨w.heap.size, 1, none⟩ = some (.int .i64 ty) := HS.out.i.cell 1
              have i2 : x108.cell? ⟨w.heap.size, 2, none⟩ = some (.int .i64 dst) := HS.out.i.cell 2
              have i3 : x108.cell? ⟨w.heap.size, 3, none⟩ = some (.slice A l.length c) := HS.out.i.cell 3
              have i4 : x108.cell? ⟨w.heap.size, 4, none⟩ = some (.int .i64 imm) := HS.out.i.cell 4
              have i5 : x108.cell? ⟨w.heap.size, 5, none⟩ = some (.int .i64 (s : Int)) := HS.out.i.cell 5
              have i6 : x108.cell? ⟨w.heap.size, 6, none⟩ = some (.int .i64 el) := HS.out.i.cell 6
              have i7 : x108.cell? ⟨w.heap.size, 7, none⟩ = some (.bool nw) := HS.out.i.cell 7
              have f0 : x108.cell? ⟨w.heap.size + 1, 0, none⟩ = some (v0) := HS.out.f.cell 0
              have f1 : x108.cell? ⟨w.heap.size + 1, 1, none⟩ = some (v1) := HS.out.f.cell 1
              have f2 : x108.cell? ⟨w.heap.size + 1, 2, none⟩ = some (.int .i64 res) := HS.out.f.cell 2
              have f3 : x108.cell? ⟨w.heap.size + 1, 3, none⟩ = some (.slice RA rl.length rc) := HS.out.f.cell 3
              have f4 : x108.cell? ⟨w.heap.size + 1, 4, none⟩ = some (v4) := HS.out.f.cell 4
              have m0 : x108.cell? ⟨w.heap.size + 2, 0, none⟩ = some (.slice GA gn gc) := HS.out.m.cell 0
              have m1 : x108.cell? ⟨w.heap.size + 2, 1, none⟩ = some (.slice (some ⟨fb, fo, none⟩) fn fc) := HS.out.m.cell 1
              rw [e7]
              go_wp2_with fail
              refine (HIM.out _ HS.out.t HS.out.l HS.out.r).mono ?_
              rintro en x109 ⟨rfl, hb⟩
              clear i0 i1 i2 i3 i4 i5 i6 i7 f0 f1 f2 f3 f4 m0 m1
              replace HS := hide (HS.out.next hb)
              clear hb
              have i0 : x109.cell? ⟨w.heap.size, 0, none⟩ = some (.int .i64 30) := HS.out.i.cell 0
              have i1 : x109.cell? ⟨w.heap.size, 1, none⟩ = some (.int .i64 ty) := HS.out.i.cell 1
              have i2 : x109.cell? ⟨w.heap.size, 2, none⟩ = some (.int .i64 dst) := HS.out.i.cell 2
              have i3 : x109.cell? ⟨w.heap.size, 3, none⟩ = some (.slice A l.length c) := HS.out.i.cell 3
              have i4 : x109.cell? ⟨w.heap.size, 4, none⟩ = some (.int .i64 imm) := HS.out.i.cell 4
              have i5 : x109.cell? ⟨w.heap.size, 5, none⟩ = some (.int .i64 (s : Int)) := HS.out.i.cell 5
              have i6 : x109.cell? ⟨w.heap.size, 6, none⟩ = some (.int .i64 el) := HS.out.i.cell 6
              have i7 : x109.cell? ⟨w.heap.size, 7, none⟩ = some (.bool nw) := HS.out.i.cell 7
              have f0 : x109.cell? ⟨w.heap.size + 1, 0, none⟩ = some (v0) := HS.out.f.cell 0
              have f1 : x109.cell? ⟨w.heap.size + 1, 1, none⟩ = some (v1) := HS.out.f.cell 1
              have f2 : x109.cell? ⟨w.heap.size + 1, 2, none⟩ = some (.int .i64 res) := HS.out.f.cell 2
              have f3 : x109.cell? ⟨w.heap.size + 1, 3, none⟩ = some (.slice RA rl.length rc) := HS.out.f.cell 3
              have f4 : x109.cell? ⟨w.heap.size + 1, 4, none⟩ = some (v4) := HS.out.f.cell 4
              have m0 : x109.cell? ⟨w.heap.size + 2, 0, none⟩ = some (.slice GA gn gc) := HS.out.m.cell 0
              have m1 : x109.cell? ⟨w.heap.size + 2, 1, none⟩ = some (.slice (some ⟨fb, fo, none⟩) fn fc) := HS.out.m.cell 1
              rw [show immM 30 ty imm (rl.getD (l.headD 0).toNat 0) = true from rfl]
              go_wp2_with fail
              go_ret
              exact ⟨by simp only [chkM, *]; rfl, HS.out.b⟩

set_option maxRecDepth 100000 in
set_option maxHeartbeats 16000000 in
theorem check_nosym (ty dst imm sym el : Int) (A RA GA FA : Option Addr) (c rc gn gc fn fc : Nat) (hs : ¬ (0 ≤ sym ∧ sym < fn)) (l rl : List Int) (nw : Bool) (v0 v1 v4 : Value) (res : Int) (w : World) (hT : Tab w) (hO : OpTab w)
    (hl : Rd w .i64 (.slice A l.length c) l) (hr : Rd w .i64 (.slice RA rl.length rc) rl) :
    Calls Tryd.prog 41 #[.agg #[.int .i64 30, .int .i64 ty, .int .i64 dst, .slice A l.length c, .int .i64 imm, .int .i64 sym, .int .i64 el, .bool nw], .agg #[v0, v1, .int .i64 res, .slice RA rl.length rc, v4], .agg #[.slice GA gn gc, .slice FA fn fc]] w fun e w' => e = .returned (.int .i64 (if strayM 30 imm sym el nw then 3 else 8)) ∧ Below w.heap.size w w' := by
  obtain ⟨w1, hw1⟩ : ∃ z, ((w.alloc (.cells #[.int .i64 30, .int .i64 ty, .int .i64 dst, .slice A l.length c, .int .i64 imm, .int .i64 sym, .int .i64 el, .bool nw] 78)).alloc (.cells #[v0, v1, .int .i64 res, .slice RA rl.length rc, v4] 28)).alloc (.cells #[.slice GA gn gc, .slice FA fn fc] 32) = z := ⟨_, rfl⟩
  have HS : Hid (ChkS w w1 #[.int .i64 30, .int .i64 ty, .int .i64 dst, .slice A l.length c, .int .i64 imm, .int .i64 sym, .int .i64 el, .bool nw] #[v0, v1, .int .i64 res, .slice RA rl.length rc, v4] #[.slice GA gn gc, .slice FA fn fc] (.slice A l.length c) (.slice RA rl.length rc) l rl) := hide (by rw [← hw1]; exact ChkS.new w _ _ _ hT hO hl hr)
  have hsy : symM 30 sym gn fn = false := by simp [symM]; omega
  obtain ⟨R, hR⟩ : ∃ R : Int, (if strayM 30 imm sym el nw then 3 else 8) = R := ⟨_, rfl⟩
  rw [hR]
  have HRR := hide hR
  clear hR
  clear hT hO hl hr
  have i0 : w1.cell? ⟨w.heap.size, 0, none⟩ = some (.int .i64 30) := HS.out.i.cell 0
  have i1 : w1.cell? ⟨w.heap.size, 1, none⟩ = some (.int .i64 ty) := HS.out.i.cell 1
  have i2 : w1.cell? ⟨w.heap.size, 2, none⟩ = some (.int .i64 dst) := HS.out.i.cell 2
  have i3 : w1.cell? ⟨w.heap.size, 3, none⟩ = some (.slice A l.length c) := HS.out.i.cell 3
  have i4 : w1.cell? ⟨w.heap.size, 4, none⟩ = some (.int .i64 imm) := HS.out.i.cell 4
  have i5 : w1.cell? ⟨w.heap.size, 5, none⟩ = some (.int .i64 sym) := HS.out.i.cell 5
  have i6 : w1.cell? ⟨w.heap.size, 6, none⟩ = some (.int .i64 el) := HS.out.i.cell 6
  have i7 : w1.cell? ⟨w.heap.size, 7, none⟩ = some (.bool nw) := HS.out.i.cell 7
  have f0 : w1.cell? ⟨w.heap.size + 1, 0, none⟩ = some (v0) := HS.out.f.cell 0
  have f1 : w1.cell? ⟨w.heap.size + 1, 1, none⟩ = some (v1) := HS.out.f.cell 1
  have f2 : w1.cell? ⟨w.heap.size + 1, 2, none⟩ = some (.int .i64 res) := HS.out.f.cell 2
  have f3 : w1.cell? ⟨w.heap.size + 1, 3, none⟩ = some (.slice RA rl.length rc) := HS.out.f.cell 3
  have f4 : w1.cell? ⟨w.heap.size + 1, 4, none⟩ = some (v4) := HS.out.f.cell 4
  have m0 : w1.cell? ⟨w.heap.size + 2, 0, none⟩ = some (.slice GA gn gc) := HS.out.m.cell 0
  have m1 : w1.cell? ⟨w.heap.size + 2, 1, none⟩ = some (.slice FA fn fc) := HS.out.m.cell 1
  go_enter Tryd.func41, Tryd.ntmps41
  go_upto_region 1 with fail
  clear hw1
  go_wp2_with fail
  refine (isop_any 30 _).mono ?_
  rintro en wn ⟨rfl, rfl⟩
  rw [show isOp 30 = true from rfl]
  go_wp2_with fail
  refine (stray_any 30 ty dst imm sym el A l.length c nw _).mono ?_
  rintro en x110 ⟨rfl, hb⟩
  clear i0 i1 i2 i3 i4 i5 i6 i7 f0 f1 f2 f3 f4 m0 m1
  replace HS := hide (HS.out.next hb)
  clear hb
  have i0 : x110.cell? ⟨w.heap.size, 0, none⟩ = some (.int .i64 30) := HS.out.i.cell 0
  have i1 : x110.cell? ⟨w.heap.size, 1, none⟩ = some (.int .i64 ty) := HS.out.i.cell 1
  have i2 : x110.cell? ⟨w.heap.size, 2, none⟩ = some (.int .i64 dst) := HS.out.i.cell 2
  have i3 : x110.cell? ⟨w.heap.size, 3, none⟩ = some (.slice A l.length c) := HS.out.i.cell 3
  have i4 : x110.cell? ⟨w.heap.size, 4, none⟩ = some (.int .i64 imm) := HS.out.i.cell 4
  have i5 : x110.cell? ⟨w.heap.size, 5, none⟩ = some (.int .i64 sym) := HS.out.i.cell 5
  have i6 : x110.cell? ⟨w.heap.size, 6, none⟩ = some (.int .i64 el) := HS.out.i.cell 6
  have i7 : x110.cell? ⟨w.heap.size, 7, none⟩ = some (.bool nw) := HS.out.i.cell 7
  have f0 : x110.cell? ⟨w.heap.size + 1, 0, none⟩ = some (v0) := HS.out.f.cell 0
  have f1 : x110.cell? ⟨w.heap.size + 1, 1, none⟩ = some (v1) := HS.out.f.cell 1
  have f2 : x110.cell? ⟨w.heap.size + 1, 2, none⟩ = some (.int .i64 res) := HS.out.f.cell 2
  have f3 : x110.cell? ⟨w.heap.size + 1, 3, none⟩ = some (.slice RA rl.length rc) := HS.out.f.cell 3
  have f4 : x110.cell? ⟨w.heap.size + 1, 4, none⟩ = some (v4) := HS.out.f.cell 4
  have m0 : x110.cell? ⟨w.heap.size + 2, 0, none⟩ = some (.slice GA gn gc) := HS.out.m.cell 0
  have m1 : x110.cell? ⟨w.heap.size + 2, 1, none⟩ = some (.slice FA fn fc) := HS.out.m.cell 1
  cases e2 : strayM 30 imm sym el nw with
  | true =>
    go_wp2_with fail
    go_ret
    exact ⟨by rw [← HRR.out, e2]; rfl, HS.out.b⟩
  | false =>
    go_wp2_with fail
    refine (symex_any 30 ty dst imm sym el A GA FA l.length c gn gc fn fc nw _).mono ?_
    rintro en x111 ⟨rfl, hb⟩
    clear i0 i1 i2 i3 i4 i5 i6 i7 f0 f1 f2 f3 f4 m0 m1
    replace HS := hide (HS.out.next hb)
    clear hb
    have i0 : x111.cell? ⟨w.heap.size, 0, none⟩ = some (.int .i64 30) := HS.out.i.cell 0
    have i1 : x111.cell? ⟨w.heap.size, 1, none⟩ = some (.int .i64 ty) := HS.out.i.cell 1
    have i2 : x111.cell? ⟨w.heap.size, 2, none⟩ = some (.int .i64 dst) := HS.out.i.cell 2
    have i3 : x111.cell? ⟨w.heap.size, 3, none⟩ = some (.slice A l.length c) := HS.out.i.cell 3
    have i4 : x111.cell? ⟨w.heap.size, 4, none⟩ = some (.int .i64 imm) := HS.out.i.cell 4
    have i5 : x111.cell? ⟨w.heap.size, 5, none⟩ = some (.int .i64 sym) := HS.out.i.cell 5
    have i6 : x111.cell? ⟨w.heap.size, 6, none⟩ = some (.int .i64 el) := HS.out.i.cell 6
    have i7 : x111.cell? ⟨w.heap.size, 7, none⟩ = some (.bool nw) := HS.out.i.cell 7
    have f0 : x111.cell? ⟨w.heap.size + 1, 0, none⟩ = some (v0) := HS.out.f.cell 0
    have f1 : x111.cell? ⟨w.heap.size + 1, 1, none⟩ = some (v1) := HS.out.f.cell 1
    have f2 : x111.cell? ⟨w.heap.size + 1, 2, none⟩ = some (.int .i64 res) := HS.out.f.cell 2
    have f3 : x111.cell? ⟨w.heap.size + 1, 3, none⟩ = some (.slice RA rl.length rc) := HS.out.f.cell 3
    have f4 : x111.cell? ⟨w.heap.size + 1, 4, none⟩ = some (v4) := HS.out.f.cell 4
    have m0 : x111.cell? ⟨w.heap.size + 2, 0, none⟩ = some (.slice GA gn gc) := HS.out.m.cell 0
    have m1 : x111.cell? ⟨w.heap.size + 2, 1, none⟩ = some (.slice FA fn fc) := HS.out.m.cell 1
    rw [hsy]
    go_wp2_with fail
    go_ret
    exact ⟨by rw [← HRR.out, e2]; rfl, HS.out.b⟩
end Go.Proofs.YtnhaanjpcnnifaaDoor

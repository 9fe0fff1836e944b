/-
  Layer 19 (refine): Difference of the reference.
-/
import Derived.Test.YtojeaghljebbbaaDoorRnC
import Derived.Deep.Cut
import Derived.Deep.RegionHeld3
namespace Go.Proofs.YtojeaghljebbbaaDoor
open Go.RowKit

/-- An outcome, as data. -/
structure OD where
  kind : Int
  code : Int
  res : VD
  outA : Option Addr
  outc : Nat
  out : List VD
  clA : Option Addr
  clc : Nat
  cls : List LD
  steps : Int
def OD.cl (v : OD) : List Value := [.int .i64 v.kind, .int .i64 v.code, .int .i64 v.res.t, .int .i64 v.res.o, .int .i64 v.res.a.n, .bool v.res.a.p, .bool v.res.a.u, .int .i64 v.res.b.n, .bool v.res.b.p, .bool v.res.b.u, .int .i64 v.res.c.n, .bool v.res.c.p, .bool v.res.c.u, .int .i64 v.res.d.n, .bool v.res.d.p, .bool v.res.d.u, .slice v.outA v.out.length v.outc, .slice v.clA v.cls.length v.clc, .int .i64 v.steps]
structure OD.ok (w : World) (v : OD) : Prop where
  out : RdN w 14 (.slice v.outA v.out.length v.outc) (v.out.map VD.cl)
  cls : RdN w 1 (.slice v.clA v.cls.length v.clc) (v.cls.map LD.cl)
  each : ∀ d ∈ v.cls, d.ok w
theorem OD.ok.below {w w' : World} {v : OD} (h : v.ok w) (hb : Below w.heap.size w w') : v.ok w' := ⟨h.out.below' hb, h.cls.below' hb, fun d hd => (h.each d hd).below' hb⟩
def difD (a b : OD) : Int :=
  if b.kind == 3 || b.kind == 4 || b.kind == 5 then 0
  else if a.kind != b.kind || (a.kind != 1 && a.kind != 2) then 1
  else if a.kind == 2 && a.code != b.code then 2
  else if !allR refD a.out b.out then 3
  else if a.kind == 2 then 0
  else if !resR a.res b.res then 4
  else if !allR refL2 a.cls b.cls then 5 else 0
/-- Two outcomes in boxes. -/
structure DfS (w W : World) (a b : OD) : Prop where
  A : Whole W w.heap.size 31 #[.int .i64 a.kind, .int .i64 a.code, .int .i64 a.res.t, .int .i64 a.res.o, .int .i64 a.res.a.n, .bool a.res.a.p, .bool a.res.a.u, .int .i64 a.res.b.n, .bool a.res.b.p, .bool a.res.b.u, .int .i64 a.res.c.n, .bool a.res.c.p, .bool a.res.c.u, .int .i64 a.res.d.n, .bool a.res.d.p, .bool a.res.d.u, .slice a.outA a.out.length a.outc, .slice a.clA a.cls.length a.clc, .int .i64 a.steps]
  B : Whole W (w.heap.size + 1) 31 #[.int .i64 b.kind, .int .i64 b.code, .int .i64 b.res.t, .int .i64 b.res.o, .int .i64 b.res.a.n, .bool b.res.a.p, .bool b.res.a.u, .int .i64 b.res.b.n, .bool b.res.b.p, .bool b.res.b.u, .int .i64 b.res.c.n, .bool b.res.c.p, .bool b.res.c.u, .int .i64 b.res.d.n, .bool b.res.d.p, .bool b.res.d.u, .slice b.outA b.out.length b.outc, .slice b.clA b.cls.length b.clc, .int .i64 b.steps]
  oa : a.ok W
  ob : b.ok W
  lo : Below w.heap.size w W
theorem DfS.next {w W W' : World} {a b : OD} (h : DfS w W a b) (hb : Below W.heap.size W W') : DfS w W' a b :=
  ⟨h.A.below' hb, h.B.below' hb, h.oa.below hb, h.ob.below hb, h.lo.trans (hb.mono h.lo.size)⟩
theorem DfS.new (w : World) (a b : OD) (ha : a.ok w) (hb : b.ok w) : DfS w ((w.alloc (.cells #[.int .i64 a.kind, .int .i64 a.code, .int .i64 a.res.t, .int .i64 a.res.o, .int .i64 a.res.a.n, .bool a.res.a.p, .bool a.res.a.u, .int .i64 a.res.b.n, .bool a.res.b.p, .bool a.res.b.u, .int .i64 a.res.c.n, .bool a.res.c.p, .bool a.res.c.u, .int .i64 a.res.d.n, .bool a.res.d.p, .bool a.res.d.u, .slice a.outA a.out.length a.outc, .slice a.clA a.cls.length a.clc, .int .i64 a.steps] 31)).alloc (.cells #[.int .i64 b.kind, .int .i64 b.code, .int .i64 b.res.t, .int .i64 b.res.o, .int .i64 b.res.a.n, .bool b.res.a.p, .bool b.res.a.u, .int .i64 b.res.b.n, .bool b.res.b.p, .bool b.res.b.u, .int .i64 b.res.c.n, .bool b.res.c.p, .bool b.res.c.u, .int .i64 b.res.d.n, .bool b.res.d.p, .bool b.res.d.u, .slice b.outA b.out.length b.outc, .slice b.clA b.cls.length b.clc, .int .i64 b.steps] 31)) a b := by
  have h1 : Below w.heap.size w (w.alloc (.cells #[.int .i64 a.kind, .int .i64 a.code, .int .i64 a.res.t, .int .i64 a.res.o, .int .i64 a.res.a.n, .bool a.res.a.p, .bool a.res.a.u, .int .i64 a.res.b.n, .bool a.res.b.p, .bool a.res.b.u, .int .i64 a.res.c.n, .bool a.res.c.p, .bool a.res.c.u, .int .i64 a.res.d.n, .bool a.res.d.p, .bool a.res.d.u, .slice a.outA a.out.length a.outc, .slice a.clA a.cls.length a.clc, .int .i64 a.steps] 31)) := (Below.refl _ _).alloc (Nat.le_refl _) _
  have h2 : Below w.heap.size w ((w.alloc (.cells #[.int .i64 a.kind, .int .i64 a.code, .int .i64 a.res.t, .int .i64 a.res.o, .int .i64 a.res.a.n, .bool a.res.a.p, .bool a.res.a.u, .int .i64 a.res.b.n, .bool a.res.b.p, .bool a.res.b.u, .int .i64 a.res.c.n, .bool a.res.c.p, .bool a.res.c.u, .int .i64 a.res.d.n, .bool a.res.d.p, .bool a.res.d.u, .slice a.outA a.out.length a.outc, .slice a.clA a.cls.length a.clc, .int .i64 a.steps] 31)).alloc (.cells #[.int .i64 b.kind, .int .i64 b.code, .int .i64 b.res.t, .int .i64 b.res.o, .int .i64 b.res.a.n, .bool b.res.a.p, .bool b.res.a.u, .int .i64 b.res.b.n, .bool b.res.b.p, .bool b.res.b.u, .int .i64 b.res.c.n, .bool b.res.c.p, .bool b.res.c.u, .int .i64 b.res.d.n, .bool b.res.d.p, .bool b.res.d.u, .slice b.outA b.out.length b.outc, .slice b.clA b.cls.length b.clc, .int .i64 b.steps] 31)) := h1.alloc (by simp) _
  refine ⟨(Whole.new w _ _).alloc _, ?_, ha.below h2, hb.below h2, h2⟩
  have := Whole.new (w.alloc (.cells #[.int .i64 a.kind, .int .i64 a.code, .int .i64 a.res.t, .int .i64 a.res.o, .int .i64 a.res.a.n, .bool a.res.a.p, .bool a.res.a.u, .int .i64 a.res.b.n, .bool a.res.b.p, .bool a.res.b.u, .int .i64 a.res.c.n, .bool a.res.c.p, .bool a.res.c.u, .int .i64 a.res.d.n, .bool a.res.d.p, .bool a.res.d.u, .slice a.outA a.out.length a.outc, .slice a.clA a.cls.length a.clc, .int .i64 a.steps] 31)) 31 #[.int .i64 b.kind, .int .i64 b.code, .int .i64 b.res.t, .int .i64 b.res.o, .int .i64 b.res.a.n, .bool b.res.a.p, .bool b.res.a.u, .int .i64 b.res.b.n, .bool b.res.b.p, .bool b.res.b.u, .int .i64 b.res.c.n, .bool b.res.c.p, .bool b.res.c.u, .int .i64 b.res.d.n, .bool b.res.d.p, .bool b.res.d.u, .slice b.outA b.out.length b.outc, .slice b.clA b.cls.length b.clc, .int .i64 b.steps]
  rwa [World.size_alloc] at this

set_option maxRecDepth 100000 in
theorem permits_any (k : Int) (w : World) : Calls Tryd.prog 23 #[.int .i64 k] w fun e w' => e = .returned (.bool (k == 3 || k == 4 || k == 5)) ∧ w = w' := by
  cases e3 : k == 3 <;> cases e4 : k == 4 <;> cases e5 : k == 5 <;>
    (go_enter Tryd.func23, Tryd.ntmps23
     go_wp2_with fail
     go_ret
     exact ⟨rfl, rfl⟩)
set_option maxRecDepth 100000 in
set_option maxHeartbeats 16000000 in
theorem diff_any (a b : OD) (w : World) (hT : Tab w) (ha : a.ok w) (hb : b.ok w) : Calls Tryd.prog 11 #[.agg #[.int .i64 a.kind, .int .i64 a.code, .int .i64 a.res.t, .int .i64 a.res.o, .int .i64 a.res.a.n, .bool a.res.a.p, .bool a.res.a.u, .int .i64 a.res.b.n, .bool a.res.b.p, .bool a.res.b.u, .int .i64 a.res.c.n, .bool a.res.c.p, .bool a.res.c.u, .int .i64 a.res.d.n, .bool a.res.d.p, .bool a.res.d.u, .slice a.outA a.out.length a.outc, .slice a.clA a.cls.length a.clc, .int .i64 a.steps], .agg #[.int .i64 b.kind, .int .i64 b.code, .int .i64 b.res.t, .int .i64 b.res.o, .int .i64 b.res.a.n, .bool b.res.a.p, .bool b.res.a.u, .int .i64 b.res.b.n, .bool b.res.b.p, .bool b.res.b.u, .int .i64 b.res.c.n, .bool b.res.c.p, .bool b.res.c.u, .int .i64 b.res.d.n, .bool b.res.d.p, .bool b.res.d.u, .slice b.outA b.out.length b.outc, .slice b.clA b.cls.length b.clc, .int .i64 b.steps]] w fun e w' => e = .returned (.int .i64 (difD a b)) ∧ Below w.heap.size w w' := by
  obtain ⟨w1, hw1⟩ : ∃ z, (w.alloc (.cells #[.int .i64 a.kind, .int .i64 a.code, .int .i64 a.res.t, .int .i64 a.res.o, .int .i64 a.res.a.n, .bool a.res.a.p, .bool a.res.a.u, .int .i64 a.res.b.n, .bool a.res.b.p, .bool a.res.b.u, .int .i64 a.res.c.n, .bool a.res.c.p, .bool a.res.c.u, .int .i64 a.res.d.n, .bool a.res.d.p, .bool a.res.d.u, .slice a.outA a.out.length a.outc, .slice a.clA a.cls.length a.clc, .int .i64 a.steps] 31)).alloc (.cells #[.int .i64 b.kind, .int .i64 b.code, .int .i64 b.res.t, .int .i64 b.res.o, .int .i64 b.res.a.n, .bool b.res.a.p, .bool b.res.a.u, .int .i64 b.res.b.n, .bool b.res.b.p, .bool b.res.b.u, .int .i64 b.res.c.n, .bool b.res.c.p, .bool b.res.c.u, .int .i64 b.res.d.n, .bool b.res.d.p, .bool b.res.d.u, .slice b.outA b.out.length b.outc, .slice b.clA b.cls.length b.clc, .int .i64 b.steps] 31) = z := ⟨_, rfl⟩
  have HS : Hid (DfS w w1 a b) := hide (by rw [← hw1]; exact DfS.new w a b ha hb)
  have HT := hide hT
  clear ha hb hT
  obtain ⟨R, hR⟩ : ∃ R, difD a b = R := ⟨_, rfl⟩
  rw [hR]
  have HR := hide hR
  clear hR
  have ka0 : w1.cell? ⟨w.heap.size, 0, none⟩ = some (.int .i64 a.kind) := HS.out.A.cell 0
  have kb0 : w1.cell? ⟨w.heap.size + 1, 0, none⟩ = some (.int .i64 b.kind) := HS.out.B.cell 0
  have ka1 : w1.cell? ⟨w.heap.size, 1, none⟩ = some (.int .i64 a.code) := HS.out.A.cell 1
  have kb1 : w1.cell? ⟨w.heap.size + 1, 1, none⟩ = some (.int .i64 b.code) := HS.out.B.cell 1
  have ka16 : w1.cell? ⟨w.heap.size, 16, none⟩ = some (.slice a.outA a.out.length a.outc) := HS.out.A.cell 16
  have kb16 : w1.cell? ⟨w.heap.size + 1, 16, none⟩ = some (.slice b.outA b.out.length b.outc) := HS.out.B.cell 16
  go_enter Tryd.func11, Tryd.ntmps11
  go_upto_region 1 with fail
  clear hw1
  go_wp2_with fail
  refine (permits_any b.kind _).mono ?_
  rintro en wn ⟨rfl, rfl⟩
  cases e0 : (b.kind == 3 || b.kind == 4 || b.kind == 5) with
  | true =>
    go_wp2_with fail
    go_ret
    exact ⟨by rw [← HR.out]; simp [difD, *], HS.out.lo⟩
  | false =>
    cases e1 : (a.kind == b.kind) with
    | false =>
      have e1' : (a.kind != b.kind) = true := by rw [bne, e1]; rfl
      go_wp2_with fail
      go_ret
      exact ⟨by rw [← HR.out]; simp [difD, *], HS.out.lo⟩
    | true =>
      have e1' : (a.kind != b.kind) = false := by rw [bne, e1]; rfl
      cases e2 : (a.kind == 1) with
      | true =>
        have e2' : (a.kind != 1) = false := by rw [bne, e2]; rfl
        have e3 : (a.kind == 2) = false := by simp at e2 ⊢; omega
        go_wp2_with fail
        refine (values_any a.out b.out _ _ _ (by exact HT.out.below HS.out.lo) (by exact HS.out.oa.out) (by exact HS.out.ob.out)).mono ?_
        rintro en w2 ⟨rfl, hbb⟩
        clear ka0 kb0 ka1 kb1 ka16 kb16
        replace HS := hide (HS.out.next hbb)
        clear hbb
        have ka0 : w2.cell? ⟨w.heap.size, 0, none⟩ = some (.int .i64 a.kind) := HS.out.A.cell 0
        have ka2 : w2.cell? ⟨w.heap.size, 2, none⟩ = some (.int .i64 a.res.t) := HS.out.A.cell 2
        have ka3 : w2.cell? ⟨w.heap.size, 3, none⟩ = some (.int .i64 a.res.o) := HS.out.A.cell 3
        have ka4 : w2.cell? ⟨w.heap.size, 4, none⟩ = some (.int .i64 a.res.a.n) := HS.out.A.cell 4
        have ka5 : w2.cell? ⟨w.heap.size, 5, none⟩ = some (.bool a.res.a.p) := HS.out.A.cell 5
        have ka6 : w2.cell? ⟨w.heap.size, 6, none⟩ = some (.bool a.res.a.u) := HS.out.A.cell 6
        have ka7 : w2.cell? ⟨w.heap.size, 7, none⟩ = some (.int .i64 a.res.b.n) := HS.out.A.cell 7
        have ka8 : w2.cell? ⟨w.heap.size, 8, none⟩ = some (.bool a.res.b.p) := HS.out.A.cell 8
        have ka9 : w2.cell? ⟨w.heap.size, 9, none⟩ = some (.bool a.res.b.u) := HS.out.A.cell 9
        have ka10 : w2.cell? ⟨w.heap.size, 10, none⟩ = some (.int .i64 a.res.c.n) := HS.out.A.cell 10
        have ka11 : w2.cell? ⟨w.heap.size, 11, none⟩ = some (.bool a.res.c.p) := HS.out.A.cell 11
        have ka12 : w2.cell? ⟨w.heap.size, 12, none⟩ = some (.bool a.res.c.u) := HS.out.A.cell 12
        have ka13 : w2.cell? ⟨w.heap.size, 13, none⟩ = some (.int .i64 a.res.d.n) := HS.out.A.cell 13
        have ka14 : w2.cell? ⟨w.heap.size, 14, none⟩ = some (.bool a.res.d.p) := HS.out.A.cell 14
        have ka15 : w2.cell? ⟨w.heap.size, 15, none⟩ = some (.bool a.res.d.u) := HS.out.A.cell 15
        have kb2 : w2.cell? ⟨w.heap.size + 1, 2, none⟩ = some (.int .i64 b.res.t) := HS.out.B.cell 2
        have kb3 : w2.cell? ⟨w.heap.size + 1, 3, none⟩ = some (.int .i64 b.res.o) := HS.out.B.cell 3
        have kb4 : w2.cell? ⟨w.heap.size + 1, 4, none⟩ = some (.int .i64 b.res.a.n) := HS.out.B.cell 4
        have kb5 : w2.cell? ⟨w.heap.size + 1, 5, none⟩ = some (.bool b.res.a.p) := HS.out.B.cell 5
        have kb6 : w2.cell? ⟨w.heap.size + 1, 6, none⟩ = some (.bool b.res.a.u) := HS.out.B.cell 6
        have kb7 : w2.cell? ⟨w.heap.size + 1, 7, none⟩ = some (.int .i64 b.res.b.n) := HS.out.B.cell 7
        have kb8 : w2.cell? ⟨w.heap.size + 1, 8, none⟩ = some (.bool b.res.b.p) := HS.out.B.cell 8
        have kb9 : w2.cell? ⟨w.heap.size + 1, 9, none⟩ = some (.bool b.res.b.u) := HS.out.B.cell 9
        have kb10 : w2.cell? ⟨w.heap.size + 1, 10, none⟩ = some (.int .i64 b.res.c.n) := HS.out.B.cell 10
        have kb11 : w2.cell? ⟨w.heap.size + 1, 11, none⟩ = some (.bool b.res.c.p) := HS.out.B.cell 11
        have kb12 : w2.cell? ⟨w.heap.size + 1, 12, none⟩ = some (.bool b.res.c.u) := HS.out.B.cell 12
        have kb13 : w2.cell? ⟨w.heap.size + 1, 13, none⟩ = some (.int .i64 b.res.d.n) := HS.out.B.cell 13
        have kb14 : w2.cell? ⟨w.heap.size + 1, 14, none⟩ = some (.bool b.res.d.p) := HS.out.B.cell 14
        have kb15 : w2.cell? ⟨w.heap.size + 1, 15, none⟩ = some (.bool b.res.d.u) := HS.out.B.cell 15
        obtain ⟨v, hv⟩ : ∃ v, allR refD a.out b.out = v := ⟨_, rfl⟩
        rw [hv]
        cases v with
        | false =>
          go_wp2_with fail
          go_ret
          exact ⟨by rw [← HR.out]; simp [difD, *], HS.out.lo⟩
        | true =>
          go_wp2_with fail
          refine (resref_any a.res b.res _ (by exact HT.out.below HS.out.lo)).mono ?_
          rintro en w3 ⟨rfl, hbb⟩
          clear ka0 ka2 ka3 ka4 ka5 ka6 ka7 ka8 ka9 ka10 ka11 ka12 ka13 ka14 ka15 kb2 kb3 kb4 kb5 kb6 kb7 kb8 kb9 kb10 kb11 kb12 kb13 kb14 kb15
          replace HS := hide (HS.out.next hbb)
          clear hbb
          have ka0 : w3.cell? ⟨w.heap.size, 0, none⟩ = some (.int .i64 a.kind) := HS.out.A.cell 0
          have ka17 : w3.cell? ⟨w.heap.size, 17, none⟩ = some (.slice a.clA a.cls.length a.clc) := HS.out.A.cell 17
          have kb17 : w3.cell? ⟨w.heap.size + 1, 17, none⟩ = some (.slice b.clA b.cls.length b.clc) := HS.out.B.cell 17
          obtain ⟨r, hr⟩ : ∃ v, resR a.res b.res = v := ⟨_, rfl⟩
          rw [hr]
          cases r with
          | false =>
            go_wp2_with fail
            go_ret
            exact ⟨by rw [← HR.out]; simp [difD, *], HS.out.lo⟩
          | true =>
            go_wp2_with fail
            obtain ⟨c, hc⟩ : ∃ v, allR refL2 a.cls b.cls = v := ⟨_, rfl⟩
            replace HS : Hid (DfS w w3.drew a b) := hide (HS.out.next (Below.refl _ _).drew)
            clear ka0
            go_region_held3 (fun w' => w'.cell? ⟨w.heap.size, 17, none⟩ = some (.slice a.clA a.cls.length a.clc) ∧ w'.cell? ⟨w.heap.size + 1, 17, none⟩ = some (.slice b.clA b.cls.length b.clc)) (exact ⟨HS.out.A.cell 17, HS.out.B.cell 17⟩) (first | (go_at_call 25; refine (listwise2_any _ _).mono ?_; rintro en wl ⟨pb, rfl, hp, hpb, hbb⟩; have HP := hide hp; have HPB := hide hpb; replace HS := hide (HS.out.next hbb); clear hp hpb hbb) | (go_at_call 41; refine (lwl_any a.cls b.cls _ _ _ _ (by exact HT.out.below HS.out.lo) (by exact HP.out) (by exact HPB.out) (by exact HS.out.oa.cls) (by exact HS.out.ob.cls) (by exact HS.out.oa.each) (by exact HS.out.ob.each)).mono ?_; rintro en wm ⟨rfl, hbb⟩; rw [hc]; replace HS := hide (HS.out.next hbb); clear hbb))
            all_goals
              cases c with
              | false =>
                go_wp2_with fail
                go_ret
                exact ⟨by rw [← HR.out]; simp [difD, *], HS.out.lo⟩
              | true =>
                go_wp2_with fail
                go_ret
                exact ⟨by rw [← HR.out]; simp [difD, *], HS.out.lo⟩
      | false =>
        have e2' : (a.kind != 1) = true := by rw [bne, e2]; rfl
        cases e3 : (a.kind == 2) with
        | false =>
          have e3' : (a.kind != 2) = true := by rw [bne, e3]; rfl
          go_wp2_with fail
          go_ret
          exact ⟨by rw [← HR.out]; simp [difD, *], HS.out.lo⟩
        | true =>
          have e3' : (a.kind != 2) = false := by rw [bne, e3]; rfl
          cases e4 : (a.code == b.code) with
          | false =>
            have e4' : (a.code != b.code) = true := by rw [bne, e4]; rfl
            go_wp2_with fail
            go_ret
            exact ⟨by rw [← HR.out]; simp [difD, *], HS.out.lo⟩
          | true =>
            have e4' : (a.code != b.code) = false := by rw [bne, e4]; rfl
            go_wp2_with fail
            refine (values_any a.out b.out _ _ _ (by exact HT.out.below HS.out.lo) (by exact HS.out.oa.out) (by exact HS.out.ob.out)).mono ?_
            rintro en w2 ⟨rfl, hbb⟩
            clear ka0 kb0 ka1 kb1 ka16 kb16
            replace HS := hide (HS.out.next hbb)
            clear hbb
            have ka0 : w2.cell? ⟨w.heap.size, 0, none⟩ = some (.int .i64 a.kind) := HS.out.A.cell 0
            obtain ⟨v, hv⟩ : ∃ v, allR refD a.out b.out = v := ⟨_, rfl⟩
            rw [hv]
            cases v with
            | false =>
              go_wp2_with fail
              go_ret
              exact ⟨by rw [← HR.out]; simp [difD, *], HS.out.lo⟩
            | true =>
              go_wp2_with fail
              go_ret
              exact ⟨by rw [← HR.out]; simp [difD, *], HS.out.lo⟩
end Go.Proofs.YtojeaghljebbbaaDoor
namespace Go.Proofs.YtojeaghljebbbaaDoor
open Go.RowKit

set_option maxRecDepth 100000 in
set_option maxHeartbeats 16000000 in
theorem rdiff_any (a b : OD) (w : World) (ha : a.ok w) (hb : b.ok w) : Calls Tryd.prog 10 #[.agg #[.int .i64 a.kind, .int .i64 a.code, .int .i64 a.res.t, .int .i64 a.res.o, .int .i64 a.res.a.n, .bool a.res.a.p, .bool a.res.a.u, .int .i64 a.res.b.n, .bool a.res.b.p, .bool a.res.b.u, .int .i64 a.res.c.n, .bool a.res.c.p, .bool a.res.c.u, .int .i64 a.res.d.n, .bool a.res.d.p, .bool a.res.d.u, .slice a.outA a.out.length a.outc, .slice a.clA a.cls.length a.clc, .int .i64 a.steps], .agg #[.int .i64 b.kind, .int .i64 b.code, .int .i64 b.res.t, .int .i64 b.res.o, .int .i64 b.res.a.n, .bool b.res.a.p, .bool b.res.a.u, .int .i64 b.res.b.n, .bool b.res.b.p, .bool b.res.b.u, .int .i64 b.res.c.n, .bool b.res.c.p, .bool b.res.c.u, .int .i64 b.res.d.n, .bool b.res.d.p, .bool b.res.d.u, .slice b.outA b.out.length b.outc, .slice b.clA b.cls.length b.clc, .int .i64 b.steps]] w fun e w' => e = .returned (.int .i64 (difD a b)) ∧ Below w.heap.size w w' := by
  obtain ⟨w1, hw1⟩ : ∃ z, (w.alloc (.cells #[.int .i64 a.kind, .int .i64 a.code, .int .i64 a.res.t, .int .i64 a.res.o, .int .i64 a.res.a.n, .bool a.res.a.p, .bool a.res.a.u, .int .i64 a.res.b.n, .bool a.res.b.p, .bool a.res.b.u, .int .i64 a.res.c.n, .bool a.res.c.p, .bool a.res.c.u, .int .i64 a.res.d.n, .bool a.res.d.p, .bool a.res.d.u, .slice a.outA a.out.length a.outc, .slice a.clA a.cls.length a.clc, .int .i64 a.steps] 31)).alloc (.cells #[.int .i64 b.kind, .int .i64 b.code, .int .i64 b.res.t, .int .i64 b.res.o, .int .i64 b.res.a.n, .bool b.res.a.p, .bool b.res.a.u, .int .i64 b.res.b.n, .bool b.res.b.p, .bool b.res.b.u, .int .i64 b.res.c.n, .bool b.res.c.p, .bool b.res.c.u, .int .i64 b.res.d.n, .bool b.res.d.p, .bool b.res.d.u, .slice b.outA b.out.length b.outc, .slice b.clA b.cls.length b.clc, .int .i64 b.steps] 31) = z := ⟨_, rfl⟩
  have HS : Hid (DfS w w1 a b) := hide (by rw [← hw1]; exact DfS.new w a b ha hb)
  clear ha hb
  obtain ⟨R, hR⟩ : ∃ R, difD a b = R := ⟨_, rfl⟩
  rw [hR]
  have HR := hide hR
  clear hR
  have ka0 : w1.cell? ⟨w.heap.size, 0, none⟩ = some (.int .i64 a.kind) := HS.out.A.cell 0
  have kb0 : w1.cell? ⟨w.heap.size + 1, 0, none⟩ = some (.int .i64 b.kind) := HS.out.B.cell 0
  have ka1 : w1.cell? ⟨w.heap.size, 1, none⟩ = some (.int .i64 a.code) := HS.out.A.cell 1
  have kb1 : w1.cell? ⟨w.heap.size + 1, 1, none⟩ = some (.int .i64 b.code) := HS.out.B.cell 1
  have ka16 : w1.cell? ⟨w.heap.size, 16, none⟩ = some (.slice a.outA a.out.length a.outc) := HS.out.A.cell 16
  have kb16 : w1.cell? ⟨w.heap.size + 1, 16, none⟩ = some (.slice b.outA b.out.length b.outc) := HS.out.B.cell 16
  go_enter Tryd.func10, Tryd.ntmps10
  go_upto_region 1 with fail
  clear hw1
  cases f3 : (b.kind == 3) with
  | true =>
    go_wp2_with fail
    go_ret
    exact ⟨by rw [← HR.out]; simp [difD, *], HS.out.lo⟩
  | false =>
    cases f4 : (b.kind == 4) with
    | true =>
      go_wp2_with fail
      go_ret
      exact ⟨by rw [← HR.out]; simp [difD, *], HS.out.lo⟩
    | false =>
      cases f5 : (b.kind == 5) with
      | true =>
        go_wp2_with fail
        go_ret
        exact ⟨by rw [← HR.out]; simp [difD, *], HS.out.lo⟩
      | false =>
        cases e1 : (a.kind == b.kind) with
        | false =>
          have e1' : (a.kind != b.kind) = true := by rw [bne, e1]; rfl
          go_wp2_with fail
          go_ret
          exact ⟨by rw [← HR.out]; simp [difD, *], HS.out.lo⟩
        | true =>
          have e1' : (a.kind != b.kind) = false := by rw [bne, e1]; rfl
          cases e2 : (a.kind == 1) with
          | true =>
            have e2' : (a.kind != 1) = false := by rw [bne, e2]; rfl
            have e3 : (a.kind == 2) = false := by simp at e2 ⊢; omega
            go_wp2_with fail
            refine (rvalues_any a.out b.out _ _ _ (by exact HS.out.oa.out) (by exact HS.out.ob.out)).mono ?_
            rintro en w2 ⟨rfl, hbb⟩
            clear ka0 kb0 ka1 kb1 ka16 kb16
            replace HS := hide (HS.out.next hbb)
            clear hbb
            have ka0 : w2.cell? ⟨w.heap.size, 0, none⟩ = some (.int .i64 a.kind) := HS.out.A.cell 0
            have ka2 : w2.cell? ⟨w.heap.size, 2, none⟩ = some (.int .i64 a.res.t) := HS.out.A.cell 2
            have ka3 : w2.cell? ⟨w.heap.size, 3, none⟩ = some (.int .i64 a.res.o) := HS.out.A.cell 3
            have ka4 : w2.cell? ⟨w.heap.size, 4, none⟩ = some (.int .i64 a.res.a.n) := HS.out.A.cell 4
            have ka5 : w2.cell? ⟨w.heap.size, 5, none⟩ = some (.bool a.res.a.p) := HS.out.A.cell 5
            have ka6 : w2.cell? ⟨w.heap.size, 6, none⟩ = some (.bool a.res.a.u) := HS.out.A.cell 6
            have ka7 : w2.cell? ⟨w.heap.size, 7, none⟩ = some (.int .i64 a.res.b.n) := HS.out.A.cell 7
            have ka8 : w2.cell? ⟨w.heap.size, 8, none⟩ = some (.bool a.res.b.p) := HS.out.A.cell 8
            have ka9 : w2.cell? ⟨w.heap.size, 9, none⟩ = some (.bool a.res.b.u) := HS.out.A.cell 9
            have ka10 : w2.cell? ⟨w.heap.size, 10, none⟩ = some (.int .i64 a.res.c.n) := HS.out.A.cell 10
            have ka11 : w2.cell? ⟨w.heap.size, 11, none⟩ = some (.bool a.res.c.p) := HS.out.A.cell 11
            have ka12 : w2.cell? ⟨w.heap.size, 12, none⟩ = some (.bool a.res.c.u) := HS.out.A.cell 12
            have ka13 : w2.cell? ⟨w.heap.size, 13, none⟩ = some (.int .i64 a.res.d.n) := HS.out.A.cell 13
            have ka14 : w2.cell? ⟨w.heap.size, 14, none⟩ = some (.bool a.res.d.p) := HS.out.A.cell 14
            have ka15 : w2.cell? ⟨w.heap.size, 15, none⟩ = some (.bool a.res.d.u) := HS.out.A.cell 15
            have kb2 : w2.cell? ⟨w.heap.size + 1, 2, none⟩ = some (.int .i64 b.res.t) := HS.out.B.cell 2
            have kb3 : w2.cell? ⟨w.heap.size + 1, 3, none⟩ = some (.int .i64 b.res.o) := HS.out.B.cell 3
            have kb4 : w2.cell? ⟨w.heap.size + 1, 4, none⟩ = some (.int .i64 b.res.a.n) := HS.out.B.cell 4
            have kb5 : w2.cell? ⟨w.heap.size + 1, 5, none⟩ = some (.bool b.res.a.p) := HS.out.B.cell 5
            have kb6 : w2.cell? ⟨w.heap.size + 1, 6, none⟩ = some (.bool b.res.a.u) := HS.out.B.cell 6
            have kb7 : w2.cell? ⟨w.heap.size + 1, 7, none⟩ = some (.int .i64 b.res.b.n) := HS.out.B.cell 7
            have kb8 : w2.cell? ⟨w.heap.size + 1, 8, none⟩ = some (.bool b.res.b.p) := HS.out.B.cell 8
            have kb9 : w2.cell? ⟨w.heap.size + 1, 9, none⟩ = some (.bool b.res.b.u) := HS.out.B.cell 9
            have kb10 : w2.cell? ⟨w.heap.size + 1, 10, none⟩ = some (.int .i64 b.res.c.n) := HS.out.B.cell 10
            have kb11 : w2.cell? ⟨w.heap.size + 1, 11, none⟩ = some (.bool b.res.c.p) := HS.out.B.cell 11
            have kb12 : w2.cell? ⟨w.heap.size + 1, 12, none⟩ = some (.bool b.res.c.u) := HS.out.B.cell 12
            have kb13 : w2.cell? ⟨w.heap.size + 1, 13, none⟩ = some (.int .i64 b.res.d.n) := HS.out.B.cell 13
            have kb14 : w2.cell? ⟨w.heap.size + 1, 14, none⟩ = some (.bool b.res.d.p) := HS.out.B.cell 14
            have kb15 : w2.cell? ⟨w.heap.size + 1, 15, none⟩ = some (.bool b.res.d.u) := HS.out.B.cell 15
            obtain ⟨v, hv⟩ : ∃ v, allR refD a.out b.out = v := ⟨_, rfl⟩
            rw [hv]
            cases v with
            | false =>
              go_wp2_with fail
              go_ret
              exact ⟨by rw [← HR.out]; simp [difD, *], HS.out.lo⟩
            | true =>
              go_wp2_with fail
              refine (results_any a.res b.res _).mono ?_
              rintro en w3 ⟨rfl, hbb⟩
              clear ka0 ka2 ka3 ka4 ka5 ka6 ka7 ka8 ka9 ka10 ka11 ka12 ka13 ka14 ka15 kb2 kb3 kb4 kb5 kb6 kb7 kb8 kb9 kb10 kb11 kb12 kb13 kb14 kb15
              replace HS := hide (HS.out.next hbb)
              clear hbb
              have ka0 : w3.cell? ⟨w.heap.size, 0, none⟩ = some (.int .i64 a.kind) := HS.out.A.cell 0
              have ka17 : w3.cell? ⟨w.heap.size, 17, none⟩ = some (.slice a.clA a.cls.length a.clc) := HS.out.A.cell 17
              have kb17 : w3.cell? ⟨w.heap.size + 1, 17, none⟩ = some (.slice b.clA b.cls.length b.clc) := HS.out.B.cell 17
              obtain ⟨r, hr⟩ : ∃ v, resR a.res b.res = v := ⟨_, rfl⟩
              rw [hr]
              cases r with
              | false =>
                go_wp2_with fail
                go_ret
                exact ⟨by rw [← HR.out]; simp [difD, *], HS.out.lo⟩
              | true =>
                go_wp2_with fail
                refine (rcells_any a.cls b.cls _ _ _ (by exact HS.out.oa.cls) (by exact HS.out.ob.cls) (by exact HS.out.oa.each) (by exact HS.out.ob.each)).mono ?_
                rintro en w4 ⟨rfl, hbb⟩
                clear ka0 ka17 kb17
                replace HS := hide (HS.out.next hbb)
                clear hbb
                have ka0 : w4.cell? ⟨w.heap.size, 0, none⟩ = some (.int .i64 a.kind) := HS.out.A.cell 0
                obtain ⟨c, hc⟩ : ∃ v, allR refL2 a.cls b.cls = v := ⟨_, rfl⟩
                rw [hc]
                cases c with
                | false =>
                  go_wp2_with fail
                  go_ret
                  exact ⟨by rw [← HR.out]; simp [difD, *], HS.out.lo⟩
                | true =>
                  go_wp2_with fail
                  go_ret
                  exact ⟨by rw [← HR.out]; simp [difD, *], HS.out.lo⟩
          | false =>
            have e2' : (a.kind != 1) = true := by rw [bne, e2]; rfl
            cases e3 : (a.kind == 2) with
            | false =>
              have e3' : (a.kind != 2) = true := by rw [bne, e3]; rfl
              go_wp2_with fail
              go_ret
              exact ⟨by rw [← HR.out]; simp [difD, *], HS.out.lo⟩
            | true =>
              have e3' : (a.kind != 2) = false := by rw [bne, e3]; rfl
              cases e4 : (a.code == b.code) with
              | false =>
                have e4' : (a.code != b.code) = true := by rw [bne, e4]; rfl
                go_wp2_with fail
                go_ret
                exact ⟨by rw [← HR.out]; simp [difD, *], HS.out.lo⟩
              | true =>
                have e4' : (a.code != b.code) = false := by rw [bne, e4]; rfl
                go_wp2_with fail
                refine (rvalues_any a.out b.out _ _ _ (by exact HS.out.oa.out) (by exact HS.out.ob.out)).mono ?_
                rintro en w2 ⟨rfl, hbb⟩
                clear ka0 kb0 ka1 kb1 ka16 kb16
                replace HS := hide (HS.out.next hbb)
                clear hbb
                have ka0 : w2.cell? ⟨w.heap.size, 0, none⟩ = some (.int .i64 a.kind) := HS.out.A.cell 0
                obtain ⟨v, hv⟩ : ∃ v, allR refD a.out b.out = v := ⟨_, rfl⟩
                rw [hv]
                cases v with
                | false =>
                  go_wp2_with fail
                  go_ret
                  exact ⟨by rw [← HR.out]; simp [difD, *], HS.out.lo⟩
                | true =>
                  go_wp2_with fail
                  go_ret
                  exact ⟨by rw [← HR.out]; simp [difD, *], HS.out.lo⟩
end Go.Proofs.YtojeaghljebbbaaDoor

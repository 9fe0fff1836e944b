/-
  Layer 19 (refine): the law RefineGlobals.
-/
import Derived.Test.YtojeaghljebbbaaDoorRnQ
import Derived.Test.YtojeaghljebbbaaDoorRowN
import Derived.Deep.QuietTactic
import Derived.BigQuiet
import Derived.Deep.RegionLaw
import Derived.StillTailTactics
import Derived.Deep.CutRange
namespace Go.Proofs.YtojeaghljebbbaaDoor
open Go.RowKit Go.Deep

theorem infoLs : (Tryd.prog.info? 28).map (fun i => (i.zero, i.size, i.bytes)) = some (some (.slice none 0 0), 1, 24) := by kernel_rfl
theorem infoVl : (Tryd.prog.info? 27).map (fun i => (i.zero, i.size, i.bytes)) = some (some (.agg zV.cl.toArray), 14, 80) := by kernel_rfl
theorem infoN {P : Program} {e : TypeId} {z : Value} {m b : Nat} (h : (P.info? e).map (fun i => (i.zero, i.size, i.bytes)) = some (some z, m, b)) : ∃ i, P.info? e = some i ∧ i.zero = some z ∧ i.size = m ∧ i.bytes = b := by
  obtain ⟨i, h1, h2⟩ := Option.map_eq_some_iff.1 h
  injection h2 with h2 h3
  injection h3 with h3 h4
  exact ⟨i, h1, h2, h3, h4⟩
theorem lsE : ElemN Tryd.prog 29 28 1 (.slice none 0 0) 24 := ⟨Tryd.underlying29, rfl, by omega, infoN infoLs⟩
theorem vlE : ElemN Tryd.prog 28 27 14 (.agg zV.cl.toArray) 80 := ⟨Tryd.underlying28, rfl, by omega, infoN infoVl⟩
theorem one_ld {cls : List LD} : ∀ r ∈ cls.map LD.cl, ∀ x ∈ r, x.oneCell' = true := by
  intro r hr x hx
  obtain ⟨d, _, rfl⟩ := List.mem_map.1 hr
  simp only [LD.cl, List.mem_singleton] at hx
  subst hx
  rfl
theorem one_vd {vs : List VD} : ∀ r ∈ vs.map VD.cl, ∀ x ∈ r, x.oneCell' = true := by
  intro r hr x hx
  obtain ⟨d, _, rfl⟩ := List.mem_map.1 hr
  have : d.cl.all (·.oneCell') = true := by rfl
  exact List.all_eq_true.1 this x hx
structure GlS (w W : World) (q : Nat) (o : OD) (g i : Int) : Prop where
  BO : Whole W q 31 #[.int .i64 o.kind, .int .i64 o.code, .int .i64 o.res.t, .int .i64 o.res.o, .int .i64 o.res.a.n, .bool o.res.a.p, .bool o.res.a.u, .int .i64 o.res.b.n, .bool o.res.b.p, .bool o.res.b.u, .int .i64 o.res.c.n, .bool o.res.c.p, .bool o.res.c.u, .int .i64 o.res.d.n, .bool o.res.d.p, .bool o.res.d.u, .slice o.outA o.out.length o.outc, .slice o.clA o.cls.length o.clc, .int .i64 o.steps]
  BA : Whole W (q + 1) 50 #[.int .i64 g, .int .i64 i]
  ok : o.ok W
  B : Below w.heap.size w W
theorem GlS.next {w W W' : World} {q : Nat} {o : OD} {g i : Int} (h : GlS w W q o g i) (hb : Below W.heap.size W W') : GlS w W' q o g i :=
  ⟨h.BO.below' hb, h.BA.below' hb, h.ok.below hb, h.B.trans (hb.mono h.B.size)⟩

/-- Behind the copy of the one list. -/
structure Mid13 (w6 wx : World) (z11 y ga cap k gb cb : Nat) (o : OD) (l : LD) : Prop where
  O1 : OwnN wx y 27 14 (.slice (some ⟨gb, 0, none⟩) l.vs.length cb) (l.vs.map VD.cl)
  ge : y ≤ gb
  B : Below z11 w6 wx
  P : Whole wx z11 31 ({ o with clA := some ⟨ga, 0, none⟩, clc := cap } : OD).cl.toArray
  O2 : OwnN wx (z11 + 1) 28 1 (.slice (some ⟨ga, 0, none⟩) o.cls.length cap) ((o.cls.set k ⟨some ⟨gb, 0, none⟩, cb, l.vs⟩).map LD.cl)
theorem Mid13.make {w6 w12 : World} {z11 y ga cap k gb cb : Nat} {o : OD} {l : LD} (hk : k < o.cls.length) (hga : z11 + 1 ≤ ga ∧ ga < y) (hg : y ≤ gb) (h1 : OwnN w12 y 27 14 (.slice (some ⟨gb, 0, none⟩) l.vs.length cb) (l.vs.map VD.cl)) (hB : Below z11 w6 w12)
    (hP : Whole w12 z11 31 ({ o with clA := some ⟨ga, 0, none⟩, clc := cap } : OD).cl.toArray) (h2 : OwnN w12 (z11 + 1) 28 1 (.slice (some ⟨ga, 0, none⟩) o.cls.length cap) (o.cls.map LD.cl)) :
    Mid13 w6 (w12.setCell ⟨ga, k, none⟩ (.slice (some ⟨gb, 0, none⟩) l.vs.length cb)) z11 y ga cap k gb cb o l := by
  have hf : Frm w12 (w12.setCell ⟨ga, k, none⟩ (.slice (some ⟨gb, 0, none⟩) l.vs.length cb)) [ga] := (Frm.refl w12 [ga]).setCell _ _ (.inl (by simp))
  refine ⟨h1.frm hf (fun g' hg' => by simp [Value.ownBlock] at hg'; simp; omega), hg, hB.setCell (p := ⟨ga, k, none⟩) (by show z11 ≤ ga; omega) _, hP.frm hf (by simp; omega), ?_⟩
  have := h2.put (i := k) (r' := [.slice (some ⟨gb, 0, none⟩) l.vs.length cb]) (by rw [List.length_map]; exact hk) rfl
  rw [Nat.mul_one] at this
  rw [List.map_set]
  exact this
theorem Mid13.drew {w6 wx : World} {z11 y ga cap k gb cb : Nat} {o : OD} {l : LD} (h : Mid13 w6 wx z11 y ga cap k gb cb o l) : Mid13 w6 wx.drew z11 y ga cap k gb cb o l :=
  ⟨h.O1, h.ge, ⟨h.B.os, h.B.tape, h.B.output, h.B.size, h.B.block⟩, h.P, h.O2⟩
/-- At the end: the outcome o and the changed one. -/
structure Fin14 (w W : World) (q z11 : Nat) (o p : OD) (g i : Int) : Prop where
  G : GlS w W q o g i
  P : Whole W z11 31 p.cl.toArray
  ok : p.ok W
theorem Fin14.next {w W W' : World} {q z11 : Nat} {o p : OD} {g i : Int} (h : Fin14 w W q z11 o p g i) (hb : Below W.heap.size W W') : Fin14 w W' q z11 o p g i := ⟨h.G.next hb, h.P.below' hb, h.ok.below hb⟩
theorem Mid13.fin {w w6 wx : World} {q z11 y ga cap k j gb cb : Nat} {o : OD} {l : LD} {v : VD} (h : Mid13 w6 wx z11 y ga cap k gb cb o l) (hG : GlS w w6 q o k j) (hz : w6.heap.size = z11) (hga : z11 + 1 ≤ ga ∧ ga < y) (hj : j < l.vs.length) :
    Fin14 w (wx.setCells gb (j * 14) v.cl) q z11 o (chg o (some ⟨ga, 0, none⟩) cap k ⟨some ⟨gb, 0, none⟩, cb, l.vs.set j v⟩) k j := by
  have hf := frm_setCells (g := gb) v.cl (j * 14) wx
  have hge := h.ge
  have hB : Below z11 w6 (wx.setCells gb (j * 14) v.cl) := h.B.trans (hf.toBelow (fun g' hg' => by simp at hg'; omega) (by have := h.B.size; omega))
  have hP := h.P.frm hf (by simp; omega)
  have hO2 := h.O2.frm hf (fun g' hg' => by simp [Value.ownBlock] at hg'; simp; omega)
  have hO1 := h.O1.put (i := j) (r' := v.cl) (by rw [List.length_map]; exact hj) (cl_len v)
  rw [← List.map_set] at hO1
  have hlen : (o.cls.set k ⟨some ⟨gb, 0, none⟩, cb, l.vs.set j v⟩).length = o.cls.length := List.length_set
  have hrows : (o.cls.set k ⟨some ⟨gb, 0, none⟩, cb, l.vs.set j v⟩).map LD.cl = (o.cls.set k ⟨some ⟨gb, 0, none⟩, cb, l.vs⟩).map LD.cl := by
    rw [List.map_set, List.map_set]
    simp only [LD.cl, List.length_set]
  have hcl : (chg o (some ⟨ga, 0, none⟩) cap k ⟨some ⟨gb, 0, none⟩, cb, l.vs.set j v⟩).cl = ({ o with clA := some ⟨ga, 0, none⟩, clc := cap } : OD).cl := by
    simp only [OD.cl, chg, List.length_set]
  refine ⟨hG.next (hB.mono (by omega)), by rw [hcl]; exact hP, ?_, ?_, ?_⟩
  · exact hG.ok.out.below hB (by omega)
  · show RdN _ 1 (.slice (some ⟨ga, 0, none⟩) (o.cls.set k ⟨some ⟨gb, 0, none⟩, cb, l.vs.set j v⟩).length cap) _
    rw [hlen]
    show RdN _ 1 _ ((o.cls.set k ⟨some ⟨gb, 0, none⟩, cb, l.vs.set j v⟩).map LD.cl)
    rw [hrows]
    exact hO2.rd
  · intro d hd
    rcases List.mem_or_eq_of_mem_set hd with hd | rfl
    · exact RdN.below (hG.ok.each d hd) hB (by omega)
    · show RdN _ 14 (.slice (some ⟨gb, 0, none⟩) (l.vs.set j v).length cb) ((l.vs.set j v).map VD.cl)
      rw [List.length_set]
      exact hO1.rd

set_option maxRecDepth 100000 in
set_option maxHeartbeats 4000000 in
theorem globals_law (o : OD) (g i n : Int) (w : World) (hT : Tab w) (ho : o.ok w) (hfit : ∀ l ∈ o.cls, l.vs.length * 80 ≤ 140737488355328) (hfc : o.cls.length * 24 ≤ 140737488355328) :
    Calls Tryd.prog 7 #[.agg #[.int .i64 o.kind, .int .i64 o.code, .int .i64 o.res.t, .int .i64 o.res.o, .int .i64 o.res.a.n, .bool o.res.a.p, .bool o.res.a.u, .int .i64 o.res.b.n, .bool o.res.b.p, .bool o.res.b.u, .int .i64 o.res.c.n, .bool o.res.c.p, .bool o.res.c.u, .int .i64 o.res.d.n, .bool o.res.d.p, .bool o.res.d.u, .slice o.outA o.out.length o.outc, .slice o.clA o.cls.length o.clc, .int .i64 o.steps], .agg #[.int .i64 g, .int .i64 i], .int .i64 n] w fun e w' => e = .returned (.bool true) ∧ Below w.heap.size w w' := by
  have uO := Tryd.underlying31
  have iO : (Tryd.prog.info? 31).map (·.size) = some 19 := by kernel_rfl
  have uV := Tryd.underlying27
  have iV : (Tryd.prog.info? 27).map (·.size) = some 14 := by kernel_rfl
  obtain ⟨q, hq⟩ : ∃ q, w.heap.size = q := ⟨_, rfl⟩
  obtain ⟨w0, hw0⟩ : ∃ z, w.alloc (.cells #[.int .i64 o.kind, .int .i64 o.code, .int .i64 o.res.t, .int .i64 o.res.o, .int .i64 o.res.a.n, .bool o.res.a.p, .bool o.res.a.u, .int .i64 o.res.b.n, .bool o.res.b.p, .bool o.res.b.u, .int .i64 o.res.c.n, .bool o.res.c.p, .bool o.res.c.u, .int .i64 o.res.d.n, .bool o.res.d.p, .bool o.res.d.u, .slice o.outA o.out.length o.outc, .slice o.clA o.cls.length o.clc, .int .i64 o.steps] 31) = z := ⟨_, rfl⟩
  have s0 : w0.heap.size = q + 1 := by rw [← hw0, World.size_alloc, hq]
  obtain ⟨w1, hw1⟩ : ∃ z, w0.alloc (.cells #[.int .i64 g, .int .i64 i] 50) = z := ⟨_, rfl⟩
  have b0 : Below w.heap.size w w0 := by rw [← hw0]; exact (Below.refl _ _).alloc (Nat.le_refl _) _
  have b1 : Below w0.heap.size w0 w1 := by rw [← hw1]; exact (Below.refl _ _).alloc (Nat.le_refl _) _
  have h0 : Whole w0 q 31 #[.int .i64 o.kind, .int .i64 o.code, .int .i64 o.res.t, .int .i64 o.res.o, .int .i64 o.res.a.n, .bool o.res.a.p, .bool o.res.a.u, .int .i64 o.res.b.n, .bool o.res.b.p, .bool o.res.b.u, .int .i64 o.res.c.n, .bool o.res.c.p, .bool o.res.c.u, .int .i64 o.res.d.n, .bool o.res.d.p, .bool o.res.d.u, .slice o.outA o.out.length o.outc, .slice o.clA o.cls.length o.clc, .int .i64 o.steps] := by rw [← hw0, ← hq]; exact Whole.new w _ _
  have HS : Hid (GlS w w1 q o g i) := hide ⟨h0.below' b1, by rw [← hw1, ← s0]; exact Whole.new w0 _ _, (ho.below b0).below b1, b0.trans (b1.mono b0.size)⟩
  have HT := hide hT
  have HFI := hide hfit
  have HFC := hide hfc
  obtain ⟨la, hla⟩ : ∃ x, largeB o = x := ⟨_, rfl⟩
  obtain ⟨v, hv⟩ : ∃ x, validO o = x := ⟨_, rfl⟩
  have HLA := hide hla
  have HV := hide hv
  have a0 : w1.cell? ⟨q + 1, 0, none⟩ = some (.int .i64 g) := HS.out.BA.cell 0
  have a1 : w1.cell? ⟨q + 1, 1, none⟩ = some (.int .i64 i) := HS.out.BA.cell 1
  clear hT ho hfit hfc hla hv b0 b1 h0
  go_enter Tryd.func7, Tryd.ntmps7
  go_upto_region 1 with fail
  clear hw0 hw1 s0 hq
  go_quiet (fail)
  clear a0 a1
  replace HS : Hid (GlS w (w1.drewN nq) q o g i) := hide (HS.out.next (Below.drewN' (Below.refl _ _) _))
  repeat (first | ((with_reducible show wpList _ _ _ (_ :: _) _ _); first | (refine wpList_load_g (by rfl) _ _ rfl q 0 (by rfl) o.cl _ (Whole.range (l := o.cl) HS.out.BO) uO rfl iO ?_) | go_step) | ((fail_if_success (with_reducible show wpList _ _ _ (_ :: _) _ _)); go_step))
  refine (large_any o _ (by exact HS.out.ok)).mono ?_
  rintro en w2 ⟨rfl, hb⟩
  rw [HLA.out]
  replace HS := hide (HS.out.next hb)
  clear hb
  simp only []
  cases la with
  | true =>
    go_wp2_with fail
    refine (awake_any _ (by exact HT.out.below HS.out.B)).mono ?_
    rintro en we ⟨rfl, hb⟩
    replace HS := hide (HS.out.next hb)
    clear hb
    go_wp2_with fail
    go_ret
    exact ⟨rfl, HS.out.B⟩
  | false =>
    repeat (first | ((with_reducible show wpList _ _ _ (_ :: _) _ _); first | (refine wpList_load_g (by rfl) _ _ rfl q 0 (by rfl) o.cl _ (Whole.range (l := o.cl) HS.out.BO) uO rfl iO ?_) | go_step) | ((fail_if_success (with_reducible show wpList _ _ _ (_ :: _) _ _)); go_step))
    refine (valid_o o _ (by exact HS.out.ok)).mono ?_
    rintro en w3 ⟨rfl, hb⟩
    rw [HV.out]
    replace HS := hide (HS.out.next hb)
    clear hb
    simp only []
    cases v with
    | false =>
      go_wp2_with fail
      refine (awake_any _ (by exact HT.out.below HS.out.B)).mono ?_
      rintro en we ⟨rfl, hb⟩
      replace HS := hide (HS.out.next hb)
      clear hb
      go_wp2_with fail
      go_ret
      exact ⟨rfl, HS.out.B⟩
    | true =>
      have k0 : w3.cell? ⟨q, 0, none⟩ = some (.int .i64 o.kind) := HS.out.BO.cell 0
      have k17 : w3.cell? ⟨q, 17, none⟩ = some (.slice o.clA o.cls.length o.clc) := HS.out.BO.cell 17
      cases e1 : (o.kind == 1) with
      | false =>
        have e1' : (o.kind != 1) = true := by rw [bne, e1]; rfl
        go_wp2_with fail
        refine (awake_any _ (by exact HT.out.below HS.out.B)).mono ?_
        rintro en we ⟨rfl, hb⟩
        replace HS := hide (HS.out.next hb)
        clear hb
        go_wp2_with fail
        go_ret
        exact ⟨rfl, HS.out.B⟩
      | true =>
        have e1' : (o.kind != 1) = false := by rw [bne, e1]; rfl
        by_cases g0 : g < 0
        · go_wp2_with fail
          refine (awake_any _ (by exact HT.out.below HS.out.B)).mono ?_
          rintro en we ⟨rfl, hb⟩
          replace HS := hide (HS.out.next hb)
          clear hb
          go_wp2_with fail
          go_ret
          exact ⟨rfl, HS.out.B⟩
        by_cases g1 : (o.cls.length : Int) ≤ g
        · go_wp2_with fail
          refine (awake_any _ (by exact HT.out.below HS.out.B)).mono ?_
          rintro en we ⟨rfl, hb⟩
          replace HS := hide (HS.out.next hb)
          clear hb
          go_wp2_with fail
          go_ret
          exact ⟨rfl, HS.out.B⟩
        by_cases i0 : i < 0
        · go_wp2_with fail
          refine (awake_any _ (by exact HT.out.below HS.out.B)).mono ?_
          rintro en we ⟨rfl, hb⟩
          replace HS := hide (HS.out.next hb)
          clear hb
          go_wp2_with fail
          go_ret
          exact ⟨rfl, HS.out.B⟩
        obtain ⟨k, rfl⟩ : ∃ k : Nat, g = k := ⟨g.toNat, by omega⟩
        obtain ⟨j, rfl⟩ : ∃ j : Nat, i = j := ⟨i.toNat, by omega⟩
        have hk : k < o.cls.length := by omega
        obtain ⟨l, hl⟩ : ∃ l, o.cls[k]? = some l := ⟨_, List.getElem?_eq_getElem hk⟩
        obtain ⟨ca, co, hAe, hca, hla⟩ := HS.out.ok.cls.row (i := k) (r := l.cl) (by rw [List.getElem?_map, hl]; rfl)
        have hlc := hla.ld
        rw [Nat.mul_one] at hlc
        rw [hAe] at k17
        have HL := hide hl
        have HK := hide hk
        have HAE := hide hAe
        clear hla hl hca hAe
        by_cases j1 : (l.vs.length : Int) ≤ (j : Int)
        · go_wp2_with fail
          refine (awake_any _ (by exact HT.out.below HS.out.B)).mono ?_
          rintro en we ⟨rfl, hb⟩
          replace HS := hide (HS.out.next hb)
          clear hb
          go_wp2_with fail
          go_ret
          exact ⟨rfl, HS.out.B⟩
        have hj : j < l.vs.length := by omega
        have HJ := hide hj
        obtain ⟨x, hx⟩ : ∃ x, l.vs[j]? = some x := ⟨_, List.getElem?_eq_getElem hj⟩
        have hlok : l.ok w3 := HS.out.ok.each l (List.mem_of_getElem? HL.out)
        obtain ⟨xa, xo, hBe, hxa, hxc⟩ := (show RdN w3 14 (.slice l.A l.vs.length l.c) (l.vs.map VD.cl) from hlok).row (i := j) (r := x.cl) (by rw [List.getElem?_map, hx]; rfl)
        rw [hBe] at hlc
        have HX : Hid (w3.rangeAt xa (xo + j * 14) x.cl) := hide hxc
        have HXE := hide hx
        have HBE := hide hBe
        clear hlok hxc hxa hx hBe
        go_upto_region 4 with fail
        repeat (first | ((with_reducible show wpList _ _ _ (_ :: _) _ _); first | (refine wpList_load_g (by rfl) _ _ rfl xa (xo + j * 14) (by rfl) x.cl _ HX.out uV rfl iV ?_) | ((fail_if_success (refine wpList_store_new (by rfl) _ _ _ rfl _ _ x.cl (by rfl) (by rfl) (by rfl) iV (by kernel_rfl) ?_)); go_step)) | ((fail_if_success (with_reducible show wpList _ _ _ (_ :: _) _ _)); go_step))
        refine wpList_store_new (by rfl) _ _ _ rfl _ _ x.cl (by rfl) (by rfl) (by rfl) iV (by kernel_rfl) ?_
        clear k0 k17 hlc
        obtain ⟨z9, hz⟩ : ∃ z, w3.heap.size = z := ⟨_, rfl⟩
        rw [hz]
        obtain ⟨w4, hw⟩ : ∃ u, w3.alloc (.cells x.cl.toArray 27) = u := ⟨_, rfl⟩
        have H9 : Hid (Whole w4 z9 27 x.cl.toArray) := hide (by rw [← hw, ← hz]; exact Whole.new _ _ _)
        have hbz : Below w3.heap.size w3 w4 := by rw [← hw]; exact (Below.refl _ _).alloc (Nat.le_refl _) _
        replace HS := hide (HS.out.next hbz)
        rw [hw]
        clear hw hz hbz HX
        have t0 : w4.cell? ⟨z9, 0, none⟩ = some (.int .i64 x.t) := H9.out.cell 0
        have t3 : w4.cell? ⟨z9, 3, none⟩ = some (.bool x.a.p) := H9.out.cell 3
        have t4 : w4.cell? ⟨z9, 4, none⟩ = some (.bool x.a.u) := H9.out.cell 4
        by_cases u0 : x.t < 2
        · go_wp2_with fail
          refine (awake_any _ (by exact HT.out.below HS.out.B)).mono ?_
          rintro en we ⟨rfl, hb⟩
          replace HS := hide (HS.out.next hb)
          clear hb
          go_wp2_with fail
          go_ret
          exact ⟨rfl, HS.out.B⟩
        by_cases u1 : 4 < x.t
        · go_wp2_with fail
          refine (awake_any _ (by exact HT.out.below HS.out.B)).mono ?_
          rintro en we ⟨rfl, hb⟩
          replace HS := hide (HS.out.next hb)
          clear hb
          go_wp2_with fail
          go_ret
          exact ⟨rfl, HS.out.B⟩
        cases u2 : x.a.p with
        | true =>
          rw [u2] at t3
          go_wp2_with fail
          refine (awake_any _ (by exact HT.out.below HS.out.B)).mono ?_
          rintro en we ⟨rfl, hb⟩
          replace HS := hide (HS.out.next hb)
          clear hb
          go_wp2_with fail
          go_ret
          exact ⟨rfl, HS.out.B⟩
        | false =>
          rw [u2] at t3
          cases u3 : x.a.u with
          | true =>
            rw [u3] at t4
            go_wp2_with fail
            refine (awake_any _ (by exact HT.out.below HS.out.B)).mono ?_
            rintro en we ⟨rfl, hb⟩
            replace HS := hide (HS.out.next hb)
            clear hb
            go_wp2_with fail
            go_ret
            exact ⟨rfl, HS.out.B⟩
          | false =>
            rw [u3] at t4
            have hvx : validD x = true := (valid_parts HV.out).2.2 l (List.mem_of_getElem? HL.out) x (List.mem_of_getElem? HXE.out)
            have hkn := known hvx ⟨by omega, by omega⟩ u2 u3
            have HKN := hide hkn
            have HT24 : Hid (2 ≤ x.t ∧ x.t ≤ 4) := hide ⟨by omega, by omega⟩
            clear hvx hkn
            go_wp2_with fail
            refine (rint_any x.t n _).mono ?_
            rintro en w5 ⟨rfl, hb⟩
            rw [mkInt_1 HT24.out]
            obtain ⟨K, hK⟩ : ∃ K, wrapI x.t n = K := ⟨_, rfl⟩
            rw [show (_root_.Go.Proofs.YtojeaghljebbbaaDoor.iV x.t n).arr = (knV x.t K).cl.toArray by rw [← hK]; rfl]
            replace HS := hide (HS.out.next hb)
            replace H9 := hide (H9.out.below' hb)
            clear hb hK t0 t3 t4 u0 u1 u2 u3
            simp only []
            repeat (first | ((with_reducible show wpList _ _ _ (_ :: _) _ _); first | ((fail_if_success (refine wpList_store_new (by rfl) _ _ _ rfl _ _ (knV x.t K).cl (by rfl) (by rfl) (by rfl) iV (by kernel_rfl) ?_)); go_step)) | ((fail_if_success (with_reducible show wpList _ _ _ (_ :: _) _ _)); go_step))
            refine wpList_store_new (by rfl) _ _ _ rfl _ _ (knV x.t K).cl (by rfl) (by rfl) (by rfl) iV (by kernel_rfl) ?_
            obtain ⟨z10, hz⟩ : ∃ z, w5.heap.size = z := ⟨_, rfl⟩
            rw [hz]
            obtain ⟨w6, hw⟩ : ∃ u, w5.alloc (.cells (knV x.t K).cl.toArray 27) = u := ⟨_, rfl⟩
            have H10 : Hid (Whole w6 z10 27 (knV x.t K).cl.toArray) := hide (by rw [← hw, ← hz]; exact Whole.new _ _ _)
            have hbz : Below w5.heap.size w5 w6 := by rw [← hw]; exact (Below.refl _ _).alloc (Nat.le_refl _) _
            replace HS := hide (HS.out.next hbz)
            replace H9 := hide (H9.out.below' hbz)
            rw [hw]
            clear hw hz hbz
            have heq : ∀ W, Sem.run Tryd.prog (binOp .eql 27 (.agg (knV x.t K).cl.toArray) (.agg x.cl.toArray)) W = .ok (.bool (K == x.a.n)) W := fun W => by
              have h := eqkn x.t K x.a.n W
              rwa [← HKN.out] at h
            obtain ⟨kb, hkb⟩ : ∃ b, (K == x.a.n) = b := ⟨_, rfl⟩
            rw [hkb] at heq
            have HKB := hide hkb
            clear hkb
            go_upto_region 8 with fail
            refine wp_region_lit ?_
            refine wpList_load_g (by rfl) _ _ rfl z10 (0) (by rfl) (knV x.t K).cl _ (Whole.range H10.out) uV rfl iV ?_
            refine wpList_load_g (by rfl) _ _ rfl z9 (0) (by rfl) x.cl _ (Whole.range H9.out) uV rfl iV ?_
            cases kb with
            | true =>
              go_wp2_with fail
              refine (awake_any _ (by exact HT.out.below HS.out.B)).mono ?_
              rintro en we ⟨rfl, hb⟩
              replace HS := hide (HS.out.next hb)
              clear hb
              go_wp2_with fail
              go_ret
              exact ⟨rfl, HS.out.B⟩
            | false =>
              go_upto_region 10 with fail
              clear heq
              refine wp_region_lit ?_
              refine wpList_load_g (by rfl) _ _ rfl q 0 (by rfl) o.cl _ (Whole.range (l := o.cl) HS.out.BO) uO rfl iO ?_
              go_step
              go_step
              go_step
              refine wpList_store_new (by rfl) _ _ _ rfl _ _ o.cl (by rfl) (by rfl) (by rfl) iO (by kernel_rfl) ?_
              obtain ⟨z11, hz⟩ : ∃ z, w6.heap.size = z := ⟨_, rfl⟩
              rw [hz]
              obtain ⟨w7, hw⟩ : ∃ u, w6.alloc (.cells o.cl.toArray 31) = u := ⟨_, rfl⟩
              have H11 : Hid (Whole w7 z11 31 o.cl.toArray) := hide (by rw [← hw, ← hz]; exact Whole.new _ _ _)
              have HB7 : Hid (Below z11 w6 w7) := hide (by rw [← hw, ← hz]; exact (Below.refl _ _).alloc (Nat.le_refl _) _)
              have s7 : w7.heap.size = z11 + 1 := by rw [← hw, World.size_alloc, hz]
              have HZ := hide hz
              have hq6 : q + 1 < z11 := by rw [← hz]; exact HS.out.BA.lt
              have hz10 : z10 < z11 := by rw [← hz]; exact H10.out.lt
              have HQ6 := hide hq6
              have HZ10 := hide hz10
              rw [hw]
              clear hw hz H9 hq6 hz10
              go_upto_region 11 with fail
              obtain ⟨w8, hw8⟩ : ∃ u, w7.alloc (.cells #[] 28) = u := ⟨_, rfl⟩
              have hb8 : Below w7.heap.size w7 w8 := by rw [← hw8]; exact (Below.refl _ _).alloc (Nat.le_refl _) _
              have OE : OwnN w8 (z11 + 1) 28 1 (.slice (some ⟨z11 + 1, 0, none⟩) 0 0) [] := by
                have := OwnN.empty w7 (z11 + 1) 28 1 (by rw [s7]; exact Nat.le_refl _)
                rwa [hw8, s7] at this
              have s8 : w8.heap.size = z11 + 1 + 1 := by rw [← hw8, World.size_alloc, s7]
              have HB8 : Hid (Below z11 w6 w8) := hide (HB7.out.trans (hb8.mono (by rw [s7]; omega)))
              have k17' : w8.cell? ⟨q, 17, none⟩ = some (.slice o.clA o.cls.length o.clc) := (HB8.out.cell (p := ⟨q, 17, none⟩) (by have := HQ6.out; show q < z11; omega)).trans (HS.out.BO.cell 17)
              have H118 : Hid (Whole w8 z11 31 o.cl.toArray) := hide (H11.out.below' hb8)
              have HRD : Hid (RdN w8 1 (.slice o.clA o.cls.length o.clc) (o.cls.map LD.cl)) := hide (HS.out.ok.cls.below HB8.out (by rw [HZ.out]; exact Nat.le_refl _))
              have HOE := hide OE
              have HS8 := hide s8
              clear hb8 OE s8 H11 HB7
              go_wp2_with (refine wpList_append_n _ rfl (.tmp 92) (.tmp 94) 29 rfl (z11 + 1) 28 1 (.slice none 0 0) 24 lsE (.slice (some ⟨z11 + 1, 0, none⟩) 0 0) [] (by simp [Act.eval]) HOE.out (.slice o.clA o.cls.length o.clc) (o.cls.map LD.cl) (by simp [Act.eval]) HRD.out one_ld (by have := HFC.out; simp; omega) (by simp; have := HFC.out; unfold maxLen; omega) (by rw [HS8.out]; omega) ?_; intro v' w9 ho9 hf9 hb9; clear hw8 s7 k17'; have HF9 := hide hf9; have HO9 := hide ho9; obtain ⟨ga, cap, hv9, -, -, hga, hga2⟩ := ho9.form (by have := HK.out; simp; omega); have HGA := hide (And.intro hga hga2); rw [List.nil_append, List.length_map] at hv9; subst hv9; have H119 : Hid (Whole w9 z11 31 o.cl.toArray) := hide (H118.out.frm HF9.out (by simp [Value.ownBlock])); have HB9 : Hid (Below z11 w6 w9) := hide (HB8.out.trans (HF9.out.toBelow (fun g' hg' => by simp [Value.ownBlock] at hg'; omega) (by rw [HS8.out]; omega))); clear ho9 hf9 hb9 hga hga2; have c9 : w9.cell? ⟨z11, 17, none⟩ = some (.slice o.clA o.cls.length o.clc) := H119.out.cell 17; have f9 : w9.frozen? ⟨z11, 17, none⟩ = false := H119.out.free 17)
              obtain ⟨w10, hw10⟩ : ∃ u, w9.setCell ⟨z11, 17, none⟩ (.slice (some ⟨ga, 0, none⟩) o.cls.length cap) = u := ⟨_, rfl⟩
              have hf10 : Frm w9 w10 [z11] := by rw [← hw10]; exact (Frm.refl w9 [z11]).setCell _ _ (.inl (by simp))
              have H10p : Hid (Whole w10 z11 31 ({ o with clA := some ⟨ga, 0, none⟩, clc := cap } : OD).cl.toArray) := hide (by rw [← hw10]; exact H119.out.set 17 (.slice (some ⟨ga, 0, none⟩) o.cls.length cap))
              have HO10 : Hid (OwnN w10 (z11 + 1) 28 1 (.slice (some ⟨ga, 0, none⟩) o.cls.length cap) (o.cls.map LD.cl)) := hide (HO9.out.frm hf10 (fun g' hg' => by simp [Value.ownBlock] at hg'; have := HGA.out; simp; omega))
              have HB10 : Hid (Below z11 w6 w10) := hide (HB9.out.trans (hf10.toBelow (fun g' hg' => by simp at hg'; omega) (by have := HGA.out; omega)))
              have hsz10 : w9.heap.size ≤ w10.heap.size := hf10.size
              rw [hw10]
              clear hw10 hf10 c9 f9
              obtain ⟨y, hy⟩ : ∃ y, w10.heap.size = y := ⟨_, rfl⟩
              have HGY : Hid (z11 + 1 ≤ ga ∧ ga < y) := hide (by have := HGA.out; omega)
              obtain ⟨b6, o6, hAe6, hca6, hla6⟩ := HS.out.ok.cls.row (i := k) (r := l.cl) (by rw [List.getElem?_map, HL.out]; rfl)
              rw [HAE.out] at hAe6
              injection hAe6 with hAe6
              injection hAe6 with hb6 ho6
              subst hb6 ho6
              have hlc6 := hla6.ld
              rw [Nat.mul_one] at hlc6
              rw [HZ.out] at hca6
              obtain ⟨w11, hw11⟩ : ∃ u, w10.alloc (.cells #[] 27) = u := ⟨_, rfl⟩
              have hb11 : Below w10.heap.size w10 w11 := by rw [← hw11]; exact (Below.refl _ _).alloc (Nat.le_refl _) _
              have HS11 : Hid (w11.heap.size = y + 1) := hide (by rw [← hw11, World.size_alloc, hy])
              have HO11 : Hid (OwnN w11.drew y 27 14 (.slice (some ⟨y, 0, none⟩) 0 0) []) := hide (by
                have := OwnN.empty w10 y 27 14 (by rw [hy]; exact Nat.le_refl _)
                rw [hw11, hy] at this
                exact this)
              have HB11 : Hid (Below z11 w6 w11) := hide (HB10.out.trans (hb11.mono (by have := HB10.out.size; have := HZ.out; omega)))
              have a10 : w10.cell? ⟨z11, 17, none⟩ = some (.slice (some ⟨ga, 0, none⟩) o.cls.length cap) := H10p.out.cell 17
              have a11 : w11.cell? ⟨z11, 17, none⟩ = some (.slice (some ⟨ga, 0, none⟩) o.cls.length cap) := (H10p.out.below' hb11).cell 17
              have e10 : w10.cell? ⟨q, 17, none⟩ = some (.slice (some ⟨ca, co, none⟩) o.cls.length o.clc) := by rw [← HAE.out]; exact (HB10.out.cell (p := ⟨q, 17, none⟩) (by have := HQ6.out; show q < z11; omega)).trans (HS.out.BO.cell 17)
              have e11 : w11.cell? ⟨q, 17, none⟩ = some (.slice (some ⟨ca, co, none⟩) o.cls.length o.clc) := by rw [← HAE.out]; exact (HB11.out.cell (p := ⟨q, 17, none⟩) (by have := HQ6.out; show q < z11; omega)).trans (HS.out.BO.cell 17)
              have l10 : w10.cell? ⟨ca, co + k, none⟩ = some (.slice l.A l.vs.length l.c) := (HB10.out.cell (p := ⟨ca, co + k, none⟩) hca6).trans hlc6
              have l11 : w11.cell? ⟨ca, co + k, none⟩ = some (.slice l.A l.vs.length l.c) := (HB11.out.cell (p := ⟨ca, co + k, none⟩) hca6).trans hlc6
              have HRL : Hid (RdN w11.drew 14 (.slice l.A l.vs.length l.c) (l.vs.map VD.cl)) := hide (by
                have h6 : l.ok w6 := HS.out.ok.each l (List.mem_of_getElem? HL.out)
                have : RdN w11 14 (.slice l.A l.vs.length l.c) (l.vs.map VD.cl) := RdN.below h6 HB11.out (by rw [HZ.out]; exact Nat.le_refl _)
                exact this)
              have hby : (([] : List (List Value)).length + (l.vs.map VD.cl).length) * 80 ≤ 140737488355328 := by
                have := HFI.out l (List.mem_of_getElem? HL.out); simpa using this
              have hml : ([] : List (List Value)).length + (l.vs.map VD.cl).length ≤ maxLen := by
                have := HFI.out l (List.mem_of_getElem? HL.out); unfold maxLen; simp; omega
              have hB2 : y ≤ w11.drew.heap.size := by show y ≤ w11.heap.size; rw [HS11.out]; omega
              have HAFT : Hid (∀ v' w12, OwnN w12 y 27 14 v' ([] ++ l.vs.map VD.cl) → Frm w11.drew w12 (Value.slice (some ⟨y, 0, none⟩) 0 0).ownBlock.toList →
                  ∃ gb cb, v' = .slice (some ⟨gb, 0, none⟩) l.vs.length cb ∧ w12.cell? ⟨z11, 17, none⟩ = some (.slice (some ⟨ga, 0, none⟩) o.cls.length cap) ∧ w12.cell? ⟨ga, k, none⟩ = some (.slice l.A l.vs.length l.c) ∧ w12.frozen? ⟨ga, k, none⟩ = false ∧
                    Hid (y ≤ gb ∧ OwnN w12 y 27 14 (.slice (some ⟨gb, 0, none⟩) l.vs.length cb) (l.vs.map VD.cl) ∧ Below z11 w6 w12 ∧ Whole w12 z11 31 ({ o with clA := some ⟨ga, 0, none⟩, clc := cap } : OD).cl.toArray ∧ OwnN w12 (z11 + 1) 28 1 (.slice (some ⟨ga, 0, none⟩) o.cls.length cap) (o.cls.map LD.cl))) := hide (by
                intro v' w12 ho hf
                have hf : Frm w11 w12 [y] := (Frm.drew _ _).trans hf
                rw [List.nil_append] at ho
                obtain ⟨gb, cb, hv, -, -, hg1, -⟩ := ho.form (by have := HJ.out; simp; omega)
                rw [List.length_map] at hv
                subst hv
                have hO : OwnN w12 (z11 + 1) 28 1 (.slice (some ⟨ga, 0, none⟩) o.cls.length cap) (o.cls.map LD.cl) := (HO10.out.below' hb11).frm hf (fun g' hg' => by simp [Value.ownBlock] at hg'; have := HGY.out; simp; omega)
                have hat := hO.at (i := k) (r := l.cl) (by rw [List.getElem?_map, HL.out]; rfl)
                have hrm := hO.room (i := k) (by rw [List.length_map]; exact HK.out) 0 (by omega)
                have hP : Whole w12 z11 31 ({ o with clA := some ⟨ga, 0, none⟩, clc := cap } : OD).cl.toArray := (H10p.out.below' hb11).frm hf (by have := HGY.out; simp; omega)
                refine ⟨gb, cb, rfl, hP.cell 17, ?_, ?_, hide ⟨hg1, ho, HB11.out.trans (hf.toBelow (fun g' hg' => by simp at hg'; have := HGY.out; omega) (by rw [HS11.out]; have := HGY.out; omega)), hP, hO⟩⟩
                · have := hat 0 _ rfl
                  simpa using this
                · have := hrm.2
                  simpa using this)
              have HC6 := hide hca6
              clear hlc6 hla6 hca6 hb11 hsz10
              go_cut [] from 97 to 107 (fun wx => ∃ gb cb, Hid (Mid13 w6 wx z11 y ga cap k gb cb o l))
              case first =>
                go_region_law (refine step_append_n rfl (.tmp 100) (.tmp 105) 28 rfl y 27 14 (.agg zV.cl.toArray) 80 vlE (.slice (some ⟨y, 0, none⟩) 0 0) [] (by simp [Act.eval]) HO11.out (.slice l.A l.vs.length l.c) (l.vs.map VD.cl) (by simp [Act.eval]) HRL.out one_vd hby hml hB2 ?_; intro v' w12 ho hf _; obtain ⟨gb, cb, rfl, cz, cg, fg, HP⟩ := HAFT.out v' w12 ho hf; clear ho hf)
                all_goals
                  clear cz cg fg a10 a11 e10 e11 l10 l11 hby hml hB2
                  go_wp2_with fail
                  go_meet
                  exact ⟨_, _, hide (Mid13.make HK.out HGY.out HP.out.1 HP.out.2.1 HP.out.2.2.1 HP.out.2.2.2.1 HP.out.2.2.2.2)⟩
              case rest =>
                clear a10 a11 e10 e11 l10 l11 hby hml hB2 HAFT HRL HO11 HS11 HB11 hw11 hy
                obtain ⟨gb, cb, HM⟩ := hcut
                have H10c : Hid (Whole wc z10 27 (knV x.t K).cl.toArray) := hide (H10.out.below HM.out.B (by have := HZ10.out; omega))
                obtain ⟨v0, v1, v2, v3, v4, v5, v6, v7, v8, v9, v10, v11, v12, v13⟩ := (show CellsAt wc z10 0 (knV x.t K).cl from fun jj zz hh => by rw [Nat.zero_add]; exact (H10c.out.cell jj).trans (by rw [List.getElem?_toArray]; exact hh)).val
                have m17 : wc.cell? ⟨z11, 17, none⟩ = some (.slice (some ⟨ga, 0, none⟩) o.cls.length cap) := HM.out.P.cell 17
                have mk : wc.cell? ⟨ga, k, none⟩ = some (.slice (some ⟨gb, 0, none⟩) l.vs.length cb) := by
                  have := HM.out.O2.at (i := k) (r := [.slice (some ⟨gb, 0, none⟩) l.vs.length cb]) (by rw [List.getElem?_map, List.getElem?_set_self HK.out]; rfl) 0 _ rfl
                  simpa using this
                have mz : wc.cell? ⟨z10, 0, none⟩ = some (.int .i64 (knV x.t K).t) := v0
                go_upto_region 13 with fail
                go_still_tail 8, (by kernel_rfl)
                change wpList _ _ _ _ _ wc.drew
                refine wpList_store_mid (by rfl) _ _ _ rfl gb (j * 14) (knV x.t K).cl.toArray (by rfl) (by rfl) ((HM.out.drew).O1.room (i := j) (by rw [List.length_map]; exact HJ.out)) iV (by kernel_rfl) ?_
                rw [show (knV x.t K).cl.toArray.toList = (knV x.t K).cl from rfl]
                obtain ⟨w14, hw14⟩ : ∃ u, wc.drew.setCells gb (j * 14) (knV x.t K).cl = u := ⟨_, rfl⟩
                rw [hw14]
                have hF := (HM.out.drew).fin (v := knV x.t K) HS.out HZ.out HGY.out HJ.out
                rw [hw14] at hF
                obtain ⟨d1, d2⟩ := chg_dif (A := some ⟨ga, 0, none⟩) (c := cap) (l' := ⟨some ⟨gb, 0, none⟩, cb, l.vs.set j (knV x.t K)⟩) (k := K) HV.out (by simpa using e1) HL.out HXE.out rfl HKN.out (by have := HKB.out; simpa using this)
                obtain ⟨pp, hpp⟩ : ∃ p, chg o (some ⟨ga, 0, none⟩) cap k ⟨some ⟨gb, 0, none⟩, cb, l.vs.set j (knV x.t K)⟩ = p := ⟨_, rfl⟩
                rw [hpp] at hF d1 d2
                have HF := hide hF
                have HD1 := hide d1
                have HD2 := hide d2
                clear hpp hF d1 d2 hw14 mz v0 v1 v2 v3 v4 v5 v6 v7 v8 v9 v10 v11 v12 v13 m17 mk HM H10c
                go_wp2_with fail
                refine (awake_any _ (by exact HT.out.below HF.out.G.B)).mono ?_
                rintro en wa ⟨rfl, hb⟩
                replace HF := hide (HF.out.next hb)
                clear hb
                simp only []
                repeat (first | ((with_reducible show wpList _ _ _ (_ :: _) _ _); first | (refine wpList_load_g (by rfl) _ _ rfl z11 0 (by rfl) pp.cl _ (Whole.range (l := pp.cl) HF.out.P) uO rfl iO ?_) | (refine wpList_load_g (by rfl) _ _ rfl q 0 (by rfl) o.cl _ (Whole.range (l := o.cl) HF.out.G.BO) uO rfl iO ?_) | go_step) | ((fail_if_success (with_reducible show wpList _ _ _ (_ :: _) _ _)); go_step))
                refine (diff_any pp o _ (by exact HT.out.below HF.out.G.B) (by exact HF.out.ok) (by exact HF.out.G.ok)).mono ?_
                rintro en wb ⟨rfl, hb⟩
                rw [HD1.out]
                replace HF := hide (HF.out.next hb)
                clear hb
                simp only []
                repeat (first | ((with_reducible show wpList _ _ _ (_ :: _) _ _); first | (refine wpList_load_g (by rfl) _ _ rfl z11 0 (by rfl) pp.cl _ (Whole.range (l := pp.cl) HF.out.P) uO rfl iO ?_) | (refine wpList_load_g (by rfl) _ _ rfl q 0 (by rfl) o.cl _ (Whole.range (l := o.cl) HF.out.G.BO) uO rfl iO ?_) | go_step) | ((fail_if_success (with_reducible show wpList _ _ _ (_ :: _) _ _)); go_step))
                refine (diff_any o pp _ (by exact HT.out.below HF.out.G.B) (by exact HF.out.G.ok) (by exact HF.out.ok)).mono ?_
                rintro en wd ⟨rfl, hb⟩
                rw [HD2.out]
                replace HF := hide (HF.out.next hb)
                clear hb
                simp only []
                go_wp2_with fail
                go_ret
                exact ⟨rfl, HF.out.G.B⟩
end Go.Proofs.YtojeaghljebbbaaDoor

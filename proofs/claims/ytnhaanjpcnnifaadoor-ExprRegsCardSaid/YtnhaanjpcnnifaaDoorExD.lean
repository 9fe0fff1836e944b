/-
  Layer 23 (expr): Check.
-/
import Derived.Test.YtnhaanjpcnnifaaDoorExC
namespace Go.Proofs.YtnhaanjpcnnifaaDoor
open Go.RowKit Go.Deep

section
variable {rl : List Int} {gn fn : Nat} {e : List NdD} {k : Nat} {st : List Int} {x : NdD}
theorem take_next (hx : e[k]? = some x) : e.take (k + 1) = e.take k ++ [x] := by
  have hk := (List.getElem?_eq_some_iff.1 hx).1
  rw [List.take_succ_eq_append_getElem hk, (List.getElem?_eq_some_iff.1 hx).2]
theorem runE_ok (h : runE rl gn fn (e.take k) [] = (0, st)) (hx : e[k]? = some x) (he : errE rl gn fn x st = 0) : runE rl gn fn (e.take (k + 1)) [] = (0, nextE rl x st) := by
  rw [take_next hx, runE_snoc, h, if_pos rfl]
  simp only [runE, he, if_pos]
theorem chkE_no (h : runE rl gn fn (e.take k) [] = (0, st)) (hx : e[k]? = some x) (he : errE rl gn fn x st ≠ 0) : chkE rl gn fn e = (0, errE rl gn fn x st) := by
  have h1 : runE rl gn fn (e.take (k + 1)) [] = (errE rl gn fn x st, []) := by
    rw [take_next hx, runE_snoc, h, if_pos rfl]
    simp only [runE, if_neg he]
  have h2 : runE rl gn fn e [] = (errE rl gn fn x st, []) := by
    rw [← List.take_append_drop (k + 1) e, runE_err _ _ _ _ _ _ (by rw [h1]; exact he), h1]
  unfold chkE
  rw [h2, if_neg he]
theorem chkE_nil (h : runE rl gn fn e [] = (0, [])) : chkE rl gn fn e = (0, 4) := by unfold chkE; rw [h]; rfl
theorem chkE_one {t : Int} (h : runE rl gn fn e [] = (0, [t])) : chkE rl gn fn e = (t, 0) := by unfold chkE; rw [h]; rfl
theorem chkE_more {t u : Int} {r : List Int} (h : runE rl gn fn e [] = (0, t :: u :: r)) : chkE rl gn fn e = (0, 5) := by unfold chkE; rw [h]; rfl
theorem errE_fld (h : fldE x.op x.ty x.n rl.length gn ≠ 0) : errE rl gn fn x st = fldE x.op x.ty x.n rl.length gn := by
  unfold errE
  rw [if_pos h]
end
theorem nd_all1 (x : NdD) : x.cells.toArray.all (·.oneCell') = true := by simp [NdD.cells, Value.oneCell']
set_option maxRecDepth 100000 in
set_option maxHeartbeats 8000000 in
theorem chk_any (e : List NdD) (EA : Option Addr) (ec : Nat) (v0 v1 v2 v4 : Value) (RA GA FA : Option Addr) (rl : List Int) (rc gn gc fc : Nat) (fs : List FD) (w : World) (hT : Tab w) (hO : OpTab w)
    (he : RdN w 3 (.slice EA e.length ec) (e.map NdD.cells)) (hlen : e.length ≤ 1000) (hrl : Rd w .i64 (.slice RA rl.length rc) rl) (hfs : FnsAt w FA fs) :
    Calls Tryd.prog 10 #[.slice EA e.length ec, .agg #[v0, v1, v2, .slice RA rl.length rc, v4], .agg #[.slice GA gn gc, .slice FA fs.length fc]] w fun en w' =>
      en = .returned (.tuple #[.int .i64 (chkE rl gn fs.length e).1, .int .i64 (chkE rl gn fs.length e).2]) ∧ Below w.heap.size w w' := by
  have hec : ec ≤ 9223372036854775807 := by have h := he.room.2; unfold maxLen at h; omega
  have HT := hide hT
  have HTo := hide hO
  have HE := hide he
  have HRL := hide hrl
  have HFS := hide hfs
  obtain ⟨CH, hCH⟩ : ∃ z, chkE rl gn fs.length e = z := ⟨_, rfl⟩
  rw [hCH]
  have HCH := hide hCH
  obtain ⟨bF, hbF⟩ : ∃ b, w.heap.size = b := ⟨_, rfl⟩
  obtain ⟨w1, hw1⟩ : ∃ z, (w.alloc (.cells #[v0, v1, v2, .slice RA rl.length rc, v4] 28)).alloc (.cells #[.slice GA gn gc, .slice FA fs.length fc] 32) = z := ⟨_, rfl⟩
  have HB : Hid (Below w.heap.size w w1) := hide (by rw [← hw1]; exact ((Below.refl _ _).alloc (Nat.le_refl _) _).alloc (by simp) _)
  have HF : Hid (Whole w1 bF 28 [v0, v1, v2, .slice RA rl.length rc, v4].toArray) := hide (by rw [← hw1, ← hbF]; exact (Whole.new w _ _).alloc _)
  have HM : Hid (Whole w1 (bF + 1) 32 [.slice GA gn gc, .slice FA fs.length fc].toArray) := hide (by
    rw [← hw1, ← hbF, show w.heap.size + 1 = (w.alloc (.cells #[v0, v1, v2, .slice RA rl.length rc, v4] 28)).heap.size by simp]; exact Whole.new _ _ _)
  have hs1 : w1.heap.size = bF + 2 := by rw [← hw1, ← hbF]; simp
  have HS1 := hide hs1
  have hi3 : (Tryd.prog.info? 40).map (·.size) = some 3 := by kernel_rfl
  have hi5 : (Tryd.prog.info? 28).map (·.size) = some 5 := by kernel_rfl
  have hi2 : (Tryd.prog.info? 32).map (·.size) = some 2 := by kernel_rfl
  have HI3 := hide hi3
  have HI5 := hide hi5
  have HI2 := hide hi2
  have HU3 := hide Tryd.underlying40
  have HU5 := hide Tryd.underlying28
  have HU2 := hide Tryd.underlying32
  have HbF := hide hbF
  clear hT hO he hrl hfs hi3 hi5 hi2 hCH
  go_enter Tryd.func10, Tryd.ntmps10
  go_upto_region 1 with fail
  (try rw [hbF])
  clear hw1 hbF
  go_upto_region 2 with fail
  (try rw [hs1])
  obtain ⟨bS, hbS⟩ : ∃ b, bF + 2 = b := ⟨_, rfl⟩
  rw [hbS]
  obtain ⟨w2, hw2⟩ : ∃ z, w1.alloc (.cells #[.slice none 0 0] 25) = z := ⟨_, rfl⟩
  have HSt : Hid (StkAt w2 bS (bS + 1) []) := hide ⟨none, 0, by rw [← hw2, ← hbS, ← hs1]; exact Whole.new w1 _ _, Own.nil, by omega, by rw [← hw2, World.size_alloc, hs1, hbS]; exact Nat.le_refl _⟩
  have HB2 : Hid (Below bS w1 w2) := hide (by rw [← hw2, ← hbS, ← hs1]; exact (Below.refl _ _).alloc (Nat.le_refl _) _)
  have HbS := hide hbS
  rw [hw2]
  clear hw2 hbS hs1
  go_wp2_with fail
  go_loopw [16] (fun z wr => ∃ (k : Nat) (st : List Int), k ≤ e.length ∧ z = .int .i64 k ∧ Hid (runE rl gn fs.length (e.take k) [] = (0, st)) ∧ Hid (StkAt wr bS (bS + 1) st) ∧ Hid (st.length ≤ k) ∧ Hid (Below bS w1 wr)) (fun z _ => e.length - (intOf z).toNat)
  case atStart => exact ⟨0, [], Nat.zero_le _, rfl, hide rfl, HSt, hide (Nat.le_refl _), HB2⟩
  case round =>
    clear HSt HB2
    obtain ⟨wq, rfl⟩ : ∃ x, x = wr := ⟨_, rfl⟩
    obtain ⟨k, st, hk, rfl, hR, hS, hl, hb⟩ := hrel
    have hbw : Hid (Below w.heap.size w wq) := hide (HB.out.trans (hb.out.mono (by have := HbF.out; have := HbS.out; omega)))
    by_cases hlt : k < e.length
    · obtain ⟨x, hx⟩ : ∃ x, e[k]? = some x := ⟨_, List.getElem?_eq_getElem hlt⟩
      obtain ⟨bb, off, rfl, hlb, hrow⟩ := (HE.out.below' hbw.out).row (i := k) (r := x.cells) (by rw [List.getElem?_map, hx]; rfl)
      have HRow : Hid (wq.rangeAt bb (off + k * 3) x.cells) := hide hrow
      have HX := hide hx
      clear hx hlb hrow
      go_upto_region 5 with fail
      refine wp_region_lit ?_
      go_step; go_step; go_step
      refine wpList_load_mid (by rfl) _ _ rfl bb (off + k * 3) (by rfl) x.cells _ HRow.out HU3.out rfl HI3.out ?_
      go_step; go_step; go_step
      refine wpList_store_new (by rfl) _ _ _ rfl _ _ x.cells (by rfl) (by rfl) (by rfl) HI3.out (nd_all1 x) ?_
      obtain ⟨bX, hbX⟩ : ∃ bX, wq.heap.size = bX := ⟨_, rfl⟩
      rw [hbX]
      obtain ⟨w3, hw3⟩ : ∃ z, wq.alloc (.cells x.cells.toArray 40) = z := ⟨_, rfl⟩
      have b13 : Below wq.heap.size wq w3 := by rw [← hw3]; exact (Below.refl _ _).alloc (Nat.le_refl _) _
      have HV : Hid (Whole w3 bX 40 x.cells.toArray) := hide (by rw [← hw3, ← hbX]; exact Whole.new wq _ _)
      replace hS := hide (hS.out.below b13)
      replace hb := hide (hb.out.trans (b13.mono (by have := hb.out.size; have := HS1.out; have := HbS.out; omega)))
      rw [hw3]
      clear hw3 b13 HRow hbX hbw
      have HF3 := hide (HF.out.below hb.out (by have := HbS.out; omega))
      have HM3 := hide (HM.out.below hb.out (by have := HbS.out; omega))
      go_upto_region 6 with fail
      refine wp_region_lit ?_
      refine wpList_load_mid (by rfl) _ _ rfl bX 0 (by rfl) x.cells _ HV.out.range HU3.out rfl HI3.out ?_
      refine wpList_load_mid (by rfl) _ _ rfl bF 0 (by rfl) [v0, v1, v2, .slice RA rl.length rc, v4] _ HF3.out.range HU5.out rfl HI5.out ?_
      refine wpList_load_mid (by rfl) _ _ rfl (bF + 1) 0 (by rfl) [.slice GA gn gc, .slice FA fs.length fc] _ HM3.out.range HU2.out rfl HI2.out ?_
      go_step; go_step
      refine (fields_any x.op x.ty x.n v0 v1 v2 v4 (.slice FA fs.length fc) RA GA rl.length rc gn gc _).mono ?_
      rintro en w4 ⟨rfl, hb4⟩
      obtain ⟨FE, hFE⟩ : ∃ z, fldE x.op x.ty x.n rl.length gn = z := ⟨_, rfl⟩
      rw [hFE]
      have HFE := hide hFE
      replace hS := hide (hS.out.below hb4)
      replace HV := hide (HV.out.below' hb4)
      replace hb := hide (hb.out.trans (hb4.mono (by have := hb.out.size; have := HS1.out; have := HbS.out; omega)))
      have HF4 := hide (HF.out.below hb.out (by have := HbS.out; omega))
      have HM4 := hide (HM.out.below hb.out (by have := HbS.out; omega))
      have hbw : Hid (Below w.heap.size w w4) := hide (HB.out.trans (hb.out.mono (by have := HbF.out; have := HbS.out; omega)))
      clear hb4 hFE HF3 HM3
      simp only []
      by_cases hf0 : FE = 0
      · subst hf0
        go_upto_region 8 with fail
        refine wp_region_lit ?_
        go_step; go_step; go_step
        refine wpList_load_mid (by rfl) _ _ rfl bX 0 (by rfl) x.cells _ HV.out.range HU3.out rfl HI3.out ?_
        go_step; go_step
        refine (eval_any x.op x.ty x.n st rl bS bF (bF + 1) (bS + 1) v0 v1 v2 v4 RA GA FA rc gn gc fc fs _ (HT.out.below hbw.out) (HTo.out.below hbw.out) hS.out (by have := hl.out; omega) HF4.out HM4.out (HRL.out.below' hbw.out) (HFS.out.below hbw.out) HFE.out).mono ?_
        rintro en w5 ⟨rfl, hok, hb5⟩
        obtain ⟨ER, hER⟩ : ∃ z, errE rl gn fs.length ⟨x.op, x.ty, x.n⟩ st = z := ⟨_, rfl⟩
        rw [hER] at hok ⊢
        have HER := hide hER
        have HOK := hide hok
        replace hb := hide (hb.out.trans hb5)
        clear hER hok hb5 HF4 HM4 hbw hS HV
        simp only []
        by_cases he0 : ER = 0
        · subst he0
          have HS5 := hide (HOK.out rfl)
          go_wp2_with fail
          go_roundw
          case rel => exact ⟨k + 1, nextE rl x st, by omega, by go_num, hide (runE_ok hR.out HX.out HER.out), HS5, hide (by have := nextE_len rl x st; have := hl.out; omega), hb⟩
          case measure => simp [intOf]; omega
        · have g1 : (ER != 0) = true := by simpa using he0
          have HE0 := hide he0
          clear he0
          go_wp2_with fail
          go_ret2
          have h1 := chkE_no hR.out HX.out (by rw [show errE rl gn fs.length x st = ER from HER.out]; exact HE0.out)
          rw [HCH.out, show errE rl gn fs.length x st = ER from HER.out] at h1
          exact ⟨by rw [h1]; rfl, HB.out.trans (hb.out.mono (by have := HbF.out; have := HbS.out; omega))⟩
      · have g0 : (FE == 0) = false := by simpa using hf0
        have g1 : (FE != 0) = true := by simpa using hf0
        have HF0 := hide hf0
        clear hf0
        go_wp2_with fail
        go_ret2
        have hne : fldE x.op x.ty x.n rl.length gn ≠ 0 := by rw [HFE.out]; exact HF0.out
        have h1 := chkE_no hR.out HX.out (by rw [errE_fld hne]; exact hne)
        rw [HCH.out, errE_fld hne, HFE.out] at h1
        exact ⟨by rw [h1]; rfl, hbw.out⟩
    · have hkl : e.take k = e := List.take_of_length_le (by omega)
      rw [hkl] at hR
      obtain ⟨As, cs, hW, hOw, -, -⟩ := hS.out
      obtain ⟨A9, c9, e9, hcs, hcm, -⟩ := id hOw.rd
      injection e9 with e7 e8 e9
      subst e7
      subst e9
      clear e8
      have hcs9 : cs ≤ 9223372036854775807 := by unfold maxLen at hcm; omega
      have c0 : wq.cell? ⟨bS, 0, none⟩ = some (.slice As st.length cs) := hW.cell 0
      have HOw := hide hOw
      clear hW hOw hcm hkl
      clear hS hl
      rcases st with _ | ⟨t, _ | ⟨u, r⟩⟩
      · have h1 := chkE_nil hR.out
        rw [HCH.out] at h1
        subst h1
        clear HOw HCH
        go_wp2_with fail
        go_ret2
        exact ⟨rfl, hbw.out⟩
      · have h1 := chkE_one hR.out
        rw [HCH.out] at h1
        subst h1
        obtain ⟨b8, o8, e8, hb8, hc8⟩ := HOw.out.rd.toV.at 0 (.int .i64 t) rfl
        subst e8
        have c0' : wq.cell? ⟨bS, 0, none⟩ = some (.slice (some ⟨b8, o8, none⟩) 1 cs) := c0
        have c8 : wq.cell? ⟨b8, o8, none⟩ = some (.int .i64 t) := hc8
        have hcs1 : 1 ≤ cs := hcs
        clear HOw HCH c0 hc8 hcs hR
        go_wp2_with fail
        go_ret2
        exact ⟨rfl, hbw.out⟩
      · have h1 := chkE_more hR.out
        rw [HCH.out] at h1
        subst h1
        have g0 : (((t :: u :: r).length : Int) == 0) = false := by rw [beq_eq_false_iff_ne]; simp; omega
        have g1 : decide (((t :: u :: r).length : Int) > 1) = true := by simp; omega
        have g2 : decide ((1 : Int) < ((t :: u :: r).length : Int)) = true := by simp; omega
        obtain ⟨n, hn⟩ : ∃ n, (t :: u :: r).length = n := ⟨_, rfl⟩
        rw [hn] at c0 g0 g1 g2
        clear hn HOw HCH hR hcs
        go_wp2_with fail
        go_ret2
        exact ⟨rfl, hbw.out⟩
end Go.Proofs.YtnhaanjpcnnifaaDoor

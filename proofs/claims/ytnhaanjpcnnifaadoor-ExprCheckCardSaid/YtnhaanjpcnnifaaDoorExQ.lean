/-
  Layer 23 (expr): Check of the reference.
-/
import Derived.Test.YtnhaanjpcnnifaaDoorExN
import Derived.Test.YtnhaanjpcnnifaaDoorExD
namespace Go.Proofs.YtnhaanjpcnnifaaDoor
open Go.RowKit Go.Deep

theorem snoc_len (st : List Int) (r : Nat) (z : Int) : (st.take r ++ [z]).length ≤ st.length + 1 := by
  rw [List.length_append, List.length_take, List.length_singleton]
  omega
set_option maxRecDepth 100000 in
set_option maxHeartbeats 16000000 in
theorem rchk_any (e : List NdD) (EA : Option Addr) (ec : Nat) (v0 v1 v2 v4 : Value) (RA GA FA : Option Addr) (rl : List Int) (rc gn gc fc : Nat) (fs : List FD) (hsh : ∀ d ∈ fs, Shp d) (w : World) (hT : Tab w) (hO : OpTab w)
    (he : RdN w 3 (.slice EA e.length ec) (e.map NdD.cells)) (hlen : e.length ≤ 900) (hrl : Rd w .i64 (.slice RA rl.length rc) rl) (hfs : FnsAt w FA fs) :
    Calls Tryd.prog 11 #[.slice EA e.length ec, .agg #[v0, v1, v2, .slice RA rl.length rc, v4], .agg #[.slice GA gn gc, .slice FA fs.length fc]] w fun en w' =>
      en = .returned (.tuple #[.int .i64 (chkE rl gn fs.length e).1, .int .i64 (chkE rl gn fs.length e).2]) ∧ Below w.heap.size w w' := by
  have hec : ec ≤ 9223372036854775807 := by have h := he.room.2; unfold maxLen at h; omega
  have hrc : rc ≤ 9223372036854775807 := by
    obtain ⟨_, _, e1, _, hm, -⟩ := id hrl
    injection e1 with _ _ e1
    unfold maxLen at hm
    omega
  have HT := hide hT
  have HO := hide hO
  have HE := hide he
  have HRL := hide hrl
  have HFS := hide hfs
  have HSP := hide hsh
  obtain ⟨CH, hCH⟩ : ∃ z, chkE rl gn fs.length e = z := ⟨_, rfl⟩
  rw [hCH]
  have HCH := hide hCH
  obtain ⟨bF, hbF⟩ : ∃ b, w.heap.size = b := ⟨_, rfl⟩
  obtain ⟨w1, hw1⟩ : ∃ z, (w.alloc (.cells #[v0, v1, v2, .slice RA rl.length rc, v4] 28)).alloc (.cells #[.slice GA gn gc, .slice FA fs.length fc] 32) = z := ⟨_, rfl⟩
  have HB : Hid (Below w.heap.size w w1) := hide (by rw [← hw1]; exact ((Below.refl _ _).alloc (Nat.le_refl _) _).alloc (by simp) _)
  have HF : Hid (Whole w1 bF 28 #[v0, v1, v2, .slice RA rl.length rc, v4]) := hide (by rw [← hw1, ← hbF]; exact (Whole.new w _ _).alloc _)
  have HM : Hid (Whole w1 (bF + 1) 32 #[.slice GA gn gc, .slice FA fs.length fc]) := hide (by
    rw [← hw1, ← hbF, show w.heap.size + 1 = (w.alloc (.cells #[v0, v1, v2, .slice RA rl.length rc, v4] 28)).heap.size by simp]; exact Whole.new _ _ _)
  obtain ⟨base, hbase⟩ : ∃ b, w1.heap.size = b := ⟨_, rfl⟩
  have HBS := hide hbase
  have hs1 : base = bF + 2 := by rw [← hbase, ← hw1, ← hbF]; simp
  have HS1 := hide hs1
  have HbF := hide hbF
  have hi3 : (Tryd.prog.info? 40).map (·.size) = some 3 := by kernel_rfl
  have HI3 := hide hi3
  have HU3 := hide Tryd.underlying40
  clear hT hO he hrl hfs hi3 hCH hsh
  go_enter Tryd.func11, Tryd.ntmps11
  go_upto_region 1 with fail
  (try rw [hbF])
  clear hw1 hbF hs1
  go_wp2_with fail
  clear hbase
  go_loopw [8, 18] (fun p z wr => ∃ (k : Nat) (st : List Int), k ≤ e.length ∧ z = .int .i64 k ∧ Hid (runE rl gn fs.length (e.take k) [] = (0, st)) ∧ Hid (Own wr base 24 .i64 p st) ∧ Hid (st.length ≤ k) ∧ Hid (Below base w1 wr)) (fun _ z _ => e.length - (intOf z).toNat)
  case atStart => exact ⟨0, [], Nat.zero_le _, rfl, hide rfl, hide Own.nil, hide (Nat.le_refl _), hide (by rw [← HBS.out]; exact Below.refl _ _)⟩
  case round =>
    obtain ⟨wq, rfl⟩ : ∃ x, x = wr := ⟨_, rfl⟩
    obtain ⟨p, rfl⟩ : ∃ x, x = u8 := ⟨_, rfl⟩
    obtain ⟨k, st, hk, rfl, hR, hO, hl, hb⟩ := hrel
    obtain ⟨As, cs, es, hcl, hcm, -⟩ := id hO.out.rd
    subst es
    have hcs : cs ≤ 9223372036854775807 := by unfold maxLen at hcm; omega
    have hst : st.length ≤ 900 := by have := hl.out; omega
    clear hcm
    have hbw : Hid (Below w.heap.size w wq) := hide (HB.out.trans (hb.out.mono (by have := HB.out.size; have := HBS.out; omega)))
    by_cases hlt : k < e.length
    · obtain ⟨x, hx⟩ : ∃ x, e[k]? = some x := ⟨_, List.getElem?_eq_getElem hlt⟩
      obtain ⟨bb, off, rfl, hlb, hrow⟩ := (HE.out.below' hbw.out).row (i := k) (r := x.cells) (by rw [List.getElem?_map, hx]; rfl)
      have HRow : Hid (wq.rangeAt bb (off + k * 3) x.cells) := hide hrow
      have HX := hide hx
      clear hx hlb hrow
      go_upto_region 4 with fail
      refine wp_region_lit ?_
      go_step; go_step; go_step
      refine wpList_load_mid (by rfl) _ _ rfl bb (off + k * 3) (by rfl) x.cells _ HRow.out HU3.out rfl HI3.out ?_
      go_step; go_step; go_step
      refine wpList_store_new (by rfl) _ _ _ rfl _ _ x.cells (by rfl) (by rfl) (by rfl) HI3.out (nd_all1 x) ?_
      obtain ⟨bX, hbX⟩ : ∃ bX, wq.heap.size = bX := ⟨_, rfl⟩
      rw [hbX]
      obtain ⟨w3, hw3⟩ : ∃ z, wq.alloc (.cells x.cells.toArray 40) = z := ⟨_, rfl⟩
      have b13 : Below wq.heap.size wq w3 := by rw [← hw3]; exact (Below.refl _ _).alloc (Nat.le_refl _) _
      have HV : Hid (Whole w3 bX 40 x.cells.toArray) := hide (by rw [← hw3, ← hbX]; exact Whole.new wq _ _)
      replace hO := hide (hO.out.below' b13)
      replace hb := hide (hb.out.trans (b13.mono (by have := hb.out.size; have := HBS.out; omega)))
      rw [hw3]
      clear hw3 b13 HRow hbX hbw
      go_upto_region 5 with fail
      refine wp_region_lit ?_
      refine wpList_load_mid (by rfl) _ _ rfl bX 0 (by rfl) x.cells _ HV.out.range HU3.out rfl HI3.out ?_
      go_step; go_step
      refine (ropers_any x.op x.ty x.n _).mono ?_
      rintro en w4 ⟨rfl, hb4⟩
      replace hO := hide (hO.out.below' hb4)
      replace HV := hide (HV.out.below' hb4)
      replace hb := hide (hb.out.trans (hb4.mono (by have := hb.out.size; have := HBS.out; omega)))
      clear hb4
      simp only []
      obtain ⟨op, ty, n⟩ := x
      have HBW : Hid (Below w.heap.size w w4) := hide (HB.out.trans (hb.out.mono (by have := HB.out.size; have := HBS.out; omega)))
      have hbs4 : Hid (base ≤ w4.heap.size) := hide (by have := hb.out.size; have := HBS.out; omega)
      have n0 : w4.cell? ⟨bX, 0, none⟩ = some (.int .i64 op) := HV.out.cell 0
      have n1 : w4.cell? ⟨bX, 1, none⟩ = some (.int .i64 ty) := HV.out.cell 1
      have n2 : w4.cell? ⟨bX, 2, none⟩ = some (.int .i64 n) := HV.out.cell 2
      have f3 : w4.cell? ⟨bF, 3, none⟩ = some (.slice RA rl.length rc) := (HF.out.below hb.out (by have := HS1.out; omega)).cell 3
      have m0 : w4.cell? ⟨bF + 1, 0, none⟩ = some (.slice GA gn gc) := (HM.out.below hb.out (by have := HS1.out; omega)).cell 0
      have m1 : w4.cell? ⟨bF + 1, 1, none⟩ = some (.slice FA fs.length fc) := (HM.out.below hb.out (by have := HS1.out; omega)).cell 1
      have HErr : Hid (∀ K : Int, fldE op ty n rl.length gn = K → K ≠ 0 → CH = (0, K)) := hide (fun K h1 h2 => by
        have hne : fldE op ty n rl.length gn ≠ 0 := by rw [h1]; exact h2
        have h3 := chkE_no hR.out HX.out (by rw [errE_fld hne]; exact hne)
        rw [HCH.out, errE_fld hne] at h3
        rw [h3]
        exact congrArg (Prod.mk 0) h1)
      have herr : fldE op ty n rl.length gn = 0 → errE rl gn fs.length ⟨op, ty, n⟩ st = if st.length < cntE op ty then 4 else if op = 4 then 0 else tyE ⟨op, ty, n⟩ (st.drop (st.length - cntE op ty)) gn fs.length := fun h => by
        unfold errE
        simp only [h]
        rw [if_neg (by simp)]
      have HSh : Hid (fldE op ty n rl.length gn = 0 → st.length < cntE op ty → CH = (0, 4)) := hide (fun h1 h2 => by
        have h4 := herr h1
        rw [if_pos h2] at h4
        have h3 := chkE_no hR.out HX.out (by rw [h4]; decide)
        rw [HCH.out, h4] at h3
        exact h3)
      have HNd : Hid (fldE op ty n rl.length gn = 0 → ¬ st.length < cntE op ty → ¬ op = 4 → tyE ⟨op, ty, n⟩ (st.drop (st.length - cntE op ty)) gn fs.length ≠ 0 → CH = (0, tyE ⟨op, ty, n⟩ (st.drop (st.length - cntE op ty)) gn fs.length)) := hide (fun h1 h2 h5 h6 => by
        have h4 := herr h1
        rw [if_neg h2, if_neg h5] at h4
        have h3 := chkE_no hR.out HX.out (by rw [h4]; exact h6)
        rw [HCH.out, h4] at h3
        exact h3)
      have HOkk : Hid (fldE op ty n rl.length gn = 0 → ¬ st.length < cntE op ty → (op = 4 ∨ tyE ⟨op, ty, n⟩ (st.drop (st.length - cntE op ty)) gn fs.length = 0) → runE rl gn fs.length (e.take (k + 1)) [] = (0, st.take (st.length - cntE op ty) ++ [if op = 4 then rl.getD n.toNat 0 else ty])) := hide (fun h1 h2 h5 => by
        have h4 := herr h1
        rw [if_neg h2] at h4
        have h6 : errE rl gn fs.length ⟨op, ty, n⟩ st = 0 := by
          rw [h4]
          rcases h5 with h5 | h5
          · rw [if_pos h5]
          · split
            · rfl
            · exact h5
        exact runE_ok hR.out HX.out h6)
      clear herr hR
      by_cases c4 : op = 4
      · subst c4
        have hsp : specM 4 = true := rfl
        by_cases hi : 0 ≤ n ∧ n < (rl.length : Int)
        · have gi1 : decide (n < 0) = false := by simp; omega
          have gi2 : decide (n ≥ (rl.length : Int)) = false := by simp; omega
          have gi3 : decide ((rl.length : Int) ≤ n) = false := by simp; omega
          by_cases ht : ty = 0
          · subst ht
            have hf : fldE 4 0 n rl.length gn = 0 := by simp [fldE, hi, numE, show specM 4 = true by rfl]
            cases hn : (n != 0) with
            | false =>
              go_upto_region 16 with (go_at_call 29; refine (rspec_any _ _).mono ?_; rintro en wn ⟨rfl, rfl⟩; rw [hsp])
              clear gi1 gi2 gi3 hn
              as_aux_lemma =>
                obtain ⟨hn0, hn1⟩ := fld_copy hf
                obtain ⟨i, rfl⟩ : ∃ i : Nat, n = i := ⟨n.toNat, by omega⟩
                have hil : i < rl.length := by omega
                obtain ⟨t, ht⟩ : ∃ t, rl[i]? = some t := ⟨_, List.getElem?_eq_getElem hil⟩
                have htt : rl.getD ((i : Int)).toNat 0 = t := by rw [Int.toNat_natCast, List.getD, ht]; rfl
                obtain ⟨bR, oR, eR, hbR, hcR⟩ := (HRL.out.below' HBW.out).toV.at i (.int .i64 t) (by rw [List.getElem?_map, ht]; rfl)
                subst eR
                have HNX : Hid (runE rl gn fs.length (e.take (k + 1)) [] = (0, st.take st.length ++ [t])) := hide (by
                  have h := HOkk.out hf (by rw [show cntE 4 0 = 0 from rfl]; omega) (.inl trivial)
                  rw [h, show cntE 4 0 = 0 from rfl, Nat.sub_zero, if_pos trivial, htt])
                have gcnt : decide ((st.length : Int) < 0) = false := by simp
                clear ht htt hbR hn0 hf HErr HSh HNd HOkk
                obtain ⟨w5, hw5⟩ : ∃ z, w4 = z := ⟨_, rfl⟩
                have HO3 := hO
                have hb5 := hb
                have hbs5 := hbs4
                rw [hw5] at HO3 hb5 hbs5 n0 n1 n2 f3 m0 hcR HBW HV ⊢
                clear hw5 hO hb hbs4
                have hs3 : base ≤ (w5.alloc (.cells #[.int .i64 t] 24)).heap.size := by rw [World.size_alloc]; have := hbs5.out; omega
                have HO4 := hide (HO3.out.alloc (.cells #[.int .i64 t] 24))
                have hlt4 : Hid ((st.take st.length).length ≤ 1000) := hide (by rw [List.length_take]; omega)
                go_wp2_with (refine wpList_append_rd _ rfl _ _ 25 rfl base 24 .i64 8 tysE9 (.slice As st.length cs) _ (by simp [Act.eval]) HO4.out _ [t] rfl (rd_one _ _ _) ?b0 ?b1 hs3 ?_)
                case b0 => have := hlt4.out; first | omega | (simp only [List.length_singleton]; omega) | (simp only [List.take_length] at *; omega) | (simp only [List.length_singleton, List.take_length] at *; omega)
                case b1 => have := hlt4.out; unfold maxLen; first | omega | (simp only [List.length_singleton]; omega) | (simp only [List.take_length] at *; omega) | (simp only [List.length_singleton, List.take_length] at *; omega)
                rintro v' w6 ho hg hbl -
                have HO6 : Hid (Own w6 base 24 .i64 v' (st.take st.length ++ [t])) := hide (by first | exact ho | simpa using ho)
                have HB6 : Hid (Below base w1 w6) := hide ((hb5.out.alloc (by have := hb5.out.size; have := HBS.out; omega) _).trans hbl)
                clear ho hg hbl hs3 HO4
                go_wp2_with fail
                go_roundw
                case rel => exact ⟨k + 1, _, by omega, by go_num, hide (by rw [HNX.out]), HO6, hide (Nat.le_trans (snoc_len _ _ _) (Nat.succ_le_succ hl.out)), HB6⟩
                case measure => simp [intOf]; omega
            | true =>
              go_upto_region 16 with (go_at_call 29; refine (rspec_any _ _).mono ?_; rintro en wn ⟨rfl, rfl⟩; rw [hsp])
              clear gi1 gi2 gi3 hn
              as_aux_lemma =>
                obtain ⟨hn0, hn1⟩ := fld_copy hf
                obtain ⟨i, rfl⟩ : ∃ i : Nat, n = i := ⟨n.toNat, by omega⟩
                have hil : i < rl.length := by omega
                obtain ⟨t, ht⟩ : ∃ t, rl[i]? = some t := ⟨_, List.getElem?_eq_getElem hil⟩
                have htt : rl.getD ((i : Int)).toNat 0 = t := by rw [Int.toNat_natCast, List.getD, ht]; rfl
                obtain ⟨bR, oR, eR, hbR, hcR⟩ := (HRL.out.below' HBW.out).toV.at i (.int .i64 t) (by rw [List.getElem?_map, ht]; rfl)
                subst eR
                have HNX : Hid (runE rl gn fs.length (e.take (k + 1)) [] = (0, st.take st.length ++ [t])) := hide (by
                  have h := HOkk.out hf (by rw [show cntE 4 0 = 0 from rfl]; omega) (.inl trivial)
                  rw [h, show cntE 4 0 = 0 from rfl, Nat.sub_zero, if_pos trivial, htt])
                have gcnt : decide ((st.length : Int) < 0) = false := by simp
                clear ht htt hbR hn0 hf HErr HSh HNd HOkk
                obtain ⟨w5, hw5⟩ : ∃ z, w4 = z := ⟨_, rfl⟩
                have HO3 := hO
                have hb5 := hb
                have hbs5 := hbs4
                rw [hw5] at HO3 hb5 hbs5 n0 n1 n2 f3 m0 hcR HBW HV ⊢
                clear hw5 hO hb hbs4
                have hs3 : base ≤ (w5.alloc (.cells #[.int .i64 t] 24)).heap.size := by rw [World.size_alloc]; have := hbs5.out; omega
                have HO4 := hide (HO3.out.alloc (.cells #[.int .i64 t] 24))
                have hlt4 : Hid ((st.take st.length).length ≤ 1000) := hide (by rw [List.length_take]; omega)
                go_wp2_with (refine wpList_append_rd _ rfl _ _ 25 rfl base 24 .i64 8 tysE9 (.slice As st.length cs) _ (by simp [Act.eval]) HO4.out _ [t] rfl (rd_one _ _ _) ?b0 ?b1 hs3 ?_)
                case b0 => have := hlt4.out; first | omega | (simp only [List.length_singleton]; omega) | (simp only [List.take_length] at *; omega) | (simp only [List.length_singleton, List.take_length] at *; omega)
                case b1 => have := hlt4.out; unfold maxLen; first | omega | (simp only [List.length_singleton]; omega) | (simp only [List.take_length] at *; omega) | (simp only [List.length_singleton, List.take_length] at *; omega)
                rintro v' w6 ho hg hbl -
                have HO6 : Hid (Own w6 base 24 .i64 v' (st.take st.length ++ [t])) := hide (by first | exact ho | simpa using ho)
                have HB6 : Hid (Below base w1 w6) := hide ((hb5.out.alloc (by have := hb5.out.size; have := HBS.out; omega) _).trans hbl)
                clear ho hg hbl hs3 HO4
                go_wp2_with fail
                go_roundw
                case rel => exact ⟨k + 1, _, by omega, by go_num, hide (by rw [HNX.out]), HO6, hide (Nat.le_trans (snoc_len _ _ _) (Nat.succ_le_succ hl.out)), HB6⟩
                case measure => simp [intOf]; omega
          · have gt : (ty != 0) = true := by simpa using ht
            as_aux_lemma =>
              have h1 := HErr.out 3 (by simp [fldE, hi, ht, show specM 4 = true by rfl]) (by decide)
              subst h1
              clear HErr HSh HNd HOkk
              go_wp2_with (go_at_call 29; refine (rspec_any _ _).mono ?_; rintro en wn ⟨rfl, rfl⟩; rw [hsp])
              go_ret2
              exact ⟨rfl, HBW.out⟩
        · have hfe : fldE 4 ty n rl.length gn = 8 := by unfold fldE; rw [if_neg (by simp [show specM 4 = true by rfl]), if_pos (.inl ⟨rfl, hi⟩)]
          by_cases hneg : n < 0
          · have gi1 : decide (n < 0) = true := by simpa using hneg
            as_aux_lemma =>
              have h1 := HErr.out 8 (hfe) (by decide)
              subst h1
              clear HErr HSh HNd HOkk
              go_wp2_with (go_at_call 29; refine (rspec_any _ _).mono ?_; rintro en wn ⟨rfl, rfl⟩; rw [hsp])
              go_ret2
              exact ⟨rfl, HBW.out⟩
          · have gi1 : decide (n < 0) = false := by simpa using hneg
            have gi2 : decide (n ≥ (rl.length : Int)) = true := by simp; omega
            have gi3 : decide ((rl.length : Int) ≤ n) = true := by simp; omega
            have gi4 : (rl.length : Int) ≤ n := by omega
            as_aux_lemma =>
              have h1 := HErr.out 8 (hfe) (by decide)
              subst h1
              clear HErr HSh HNd HOkk
              go_wp2_with (go_at_call 29; refine (rspec_any _ _).mono ?_; rintro en wn ⟨rfl, rfl⟩; rw [hsp])
              go_ret2
              exact ⟨rfl, HBW.out⟩
      have g4 : (op == 4) = false := by simpa using c4
      by_cases c25 : op = 25
      · subst c25
        have hsp : specM 25 = true := rfl
        by_cases hi : 0 ≤ n ∧ n < (gn : Int)
        · have gi1 : decide (n < 0) = false := by simp; omega
          have gi2 : decide (n ≥ (gn : Int)) = false := by simp; omega
          have gi3 : decide ((gn : Int) ≤ n) = false := by simp; omega
          have hf : fldE 25 ty n rl.length gn = 0 := by simp [fldE, hi, numE, show specM 25 = true by rfl]
          cases hn : (n != 0) with
          | false =>
            as_aux_lemma =>
              by_cases hlt : st.length < cntE 25 ty
              · have h1 := HSh.out hf hlt
                subst h1
                have g0 : decide ((st.length : Int) < (cntE 25 ty : Int)) = true := by simp; omega
                have g00 : decide (st.length < cntE 25 ty) = true := by simpa using hlt
                obtain ⟨cnt, hcnt⟩ : ∃ z, cntE 25 ty = z := ⟨_, rfl⟩
                rw [hcnt] at g0 g00 ⊢
                clear hcnt hlt HErr HSh HNd HOkk
                go_wp2_with (go_at_call 29; refine (rspec_any _ _).mono ?_; rintro en wn ⟨rfl, rfl⟩; rw [hsp])
                go_ret2
                exact ⟨rfl, HBW.out⟩
              · obtain ⟨r, hr⟩ : ∃ r, st.length - cntE 25 ty = r := ⟨_, rfl⟩
                have hc4 : cntE 25 ty ≤ 4 := cntE_le _ _
                obtain ⟨ts, hts⟩ : ∃ ts, st.drop r = ts := ⟨_, rfl⟩
                have htl : ts.length = st.length - r := by rw [← hts, List.length_drop]
                obtain ⟨ER, hER⟩ : ∃ z, tyE ⟨25, ty, n⟩ ts gn fs.length = z := ⟨_, rfl⟩
                have HNd2 : Hid (ER ≠ 0 → CH = (0, ER)) := hide (fun h => by
                  have := HNd.out hf hlt (by decide) (by rw [hr, hts, hER]; exact h)
                  rwa [hr, hts, hER] at this)
                have HOk2 : Hid (ER = 0 → runE rl gn fs.length (e.take (k + 1)) [] = (0, st.take r ++ [ty])) := hide (fun h => by
                  have := HOkk.out hf hlt (.inr (by rw [hr, hts, hER]; exact h))
                  rwa [hr, if_neg (by decide)] at this)
                have g0 : decide ((st.length : Int) < (cntE 25 ty : Int)) = false := by simp; omega
                have g00 : decide (st.length < cntE 25 ty) = false := by simpa using hlt
                have hs1 : IntKind.i64.wrap ((st.length : Int) - (cntE 25 ty : Int)) = (r : Int) := by rw [show (st.length : Int) - (cntE 25 ty : Int) = (r : Int) by omega]; exact IntWalk.i64_in _ (by omega)
                have hs2 : ((st.length : Int) - (cntE 25 ty : Int)) = (r : Int) := by omega
                have hrc2 : r + cntE 25 ty = st.length := by omega
                obtain ⟨cnt, hcnt⟩ : ∃ z, cntE 25 ty = z := ⟨_, rfl⟩
                rw [hcnt] at g0 g00 hs1 hs2 hrc2 hc4 ⊢
                have gr0 : (0 : Int) ≤ (r : Int) := by omega
                have gr1 : (r : Int) ≤ (st.length : Int) := by omega
                have gr2 : r ≤ st.length := by omega
                have HTS := hide hts
                have HTL := hide htl
                have HER' := hide hER
                have hop : Hid (∀ W, Below w4.heap.size w4 W → ∀ A, (A = As ∧ r = 0 ∨ (∃ b, As = some ⟨b, 0, none⟩ ∧ A = some ⟨b, r, none⟩) ∨ r = st.length) → Calls Tryd.prog 30 #[.agg #[.int .i64 25, .int .i64 ty, .int .i64 n], .slice A (st.length - r) (cs - r), .agg #[.slice GA gn gc, .slice FA fs.length fc]] W fun e w' => e = .returned (.tuple #[.int .i64 ty, .int .i64 ER]) ∧ Below W.heap.size W w') := hide (fun W hW A hA => by
                  have hbW := Below.all HBW.out hW
                  have hrd := (hO.out.below' hW).rd
                  have hrt : Rd W .i64 (.slice A ts.length (cs - r)) ts := by
                    rw [← HTS.out]
                    rcases hA with ⟨rfl, rfl⟩ | ⟨b, rfl, rfl⟩ | h0
                    · simpa using hrd
                    · have := hrd.back (m := r) (by omega) (some ⟨b, r, none⟩) (.inl (by simp))
                      rw [List.length_drop]
                      exact this
                    · subst h0
                      rw [List.drop_length]
                      exact ⟨A, cs - st.length, rfl, by simp, by unfold maxLen; omega, fun h => absurd h (by simp)⟩
                  have h := node_any ⟨25, ty, n⟩ A (cs - r) ts (by rw [HTL.out]; omega) GA FA gn gc fc fs HSP.out (by show ¬ (25 : Int) = 30; decide) W (HT.out.below hbW) (HO.out.below hbW) hrt (HFS.out.below hbW)
                  rw [HTL.out, HER'.out] at h
                  exact h)
                clear hr hlt hts htl hER hcnt hf HErr HSh HNd HOkk
                rcases hO.out.2 with ⟨e1, e2⟩ | ⟨g, cap, _, e1, -, -, -, -, -, -⟩
                · injection e1 with e1 e3 e4
                  subst e1
                  subst e4
                  obtain rfl : st = [] := List.eq_nil_of_length_eq_zero e2
                  obtain rfl : r = 0 := by simp at hrc2; omega
                  obtain rfl : cnt = 0 := by simp at hrc2; exact hrc2
                  rw [List.length_nil]
                  have hsl0 : ∀ W, (Instr.slice 25 (.slice none 0 0) (some (.int .i64 0)) none none).run Tryd.prog W = .ok (.slice none 0 0) W := fun W => by kernel_rfl
                  have hop3 := hide (hop.out _ (Below.drewN' (Below.refl _ _) 1) none (.inl ⟨rfl, rfl⟩))
                  clear hop
                  as_aux_lemma =>
                    have K0 : w4.drew.cell? ⟨bX, 0, none⟩ = some (.int .i64 25) ∧ w4.drew.cell? ⟨bX, 1, none⟩ = some (.int .i64 ty) ∧ w4.drew.cell? ⟨bX, 2, none⟩ = some (.int .i64 n) ∧ w4.drew.cell? ⟨bF + 1, 0, none⟩ = some (.slice GA gn gc) ∧ w4.drew.cell? ⟨bF + 1, 1, none⟩ = some (.slice FA fs.length fc) := ⟨n0, n1, n2, m0, m1⟩
                    have cc := K0
                    go_upto_region 18 with (go_at_call 29; refine (rspec_any _ _).mono ?_; rintro en wn ⟨rfl, rfl⟩; rw [hsp])
                    clear n0 n1 n2 f3 m0 m1
                    go_region_held3 (fun w' => w'.cell? ⟨bX, 0, none⟩ = some (.int .i64 25) ∧ w'.cell? ⟨bX, 1, none⟩ = some (.int .i64 ty) ∧ w'.cell? ⟨bX, 2, none⟩ = some (.int .i64 n) ∧ w'.cell? ⟨bF + 1, 0, none⟩ = some (.slice GA gn gc) ∧ w'.cell? ⟨bF + 1, 1, none⟩ = some (.slice FA fs.length fc)) (first | exact cc | exact K0)
                      (first | (go_at_call 30; refine (hop3.out).mono ?_; rintro en w5 ⟨rfl, hb4⟩; have HZ := hide hb4; replace cc := And.intro (cell_below hb4 cc.1) (And.intro (cell_below hb4 cc.2.1) (And.intro (cell_below hb4 cc.2.2.1) (And.intro (cell_below hb4 cc.2.2.2.1) (cell_below hb4 cc.2.2.2.2)))); clear hb4))
                    have hb45 : Below w4.heap.size w4 w5 := (Below.drewN' (Below.refl _ _) 1).trans HZ.out
                    clear K0
                    clear hop3
                    have HO3 := hide (hO.out.below' hb45)
                    have hb5 : Hid (Below base w1 w5) := hide (hb.out.trans (hb45.mono (by have := hb.out.size; have := HBS.out; omega)))
                    have hbs5 : Hid (base ≤ w5.heap.size) := hide (by have := hb5.out.size; have := HBS.out; omega)
                    have HBW5 := hide (Below.all HBW.out hb45)
                    clear hb45 HZ hO hb hbs4 HBW HV
                    by_cases he : ER = 0
                    · have ge : (ER != 0) = false := by simpa using he
                      have HNX := hide (HOk2.out he)
                      subst he
                      clear HNd2 HOk2 cc
                      have hs3 : base ≤ (w5.alloc (.cells #[.int .i64 ty] 24)).heap.size := by rw [World.size_alloc]; have := hbs5.out; omega
                      have HO4 := hide (HO3.out.alloc (.cells #[.int .i64 ty] 24))
                      have hlt4 : Hid ((([] : List Int).take 0).length ≤ 1000) := hide (by simp)
                      go_wp2_with (refine wpList_append_rd _ rfl _ _ 25 rfl base 24 .i64 8 tysE9 (.slice none 0 0) _ (by simp [Act.eval]) HO4.out _ [ty] rfl (rd_one _ _ _) ?b0 ?b1 hs3 ?_)
                      case b0 => simp
                      case b1 => simp [maxLen]
                      rintro v' w6 ho hg hbl -
                      have HO6 : Hid (Own w6 base 24 .i64 v' (([] : List Int).take 0 ++ [ty])) := hide (by first | exact ho | simpa using ho)
                      have HB6 : Hid (Below base w1 w6) := hide ((hb5.out.alloc (by have := hb5.out.size; have := HBS.out; omega) _).trans hbl)
                      clear ho hg hbl hs3 HO4
                      go_wp2_with fail
                      go_roundw
                      case rel => exact ⟨k + 1, _, by omega, by go_num, hide (by rw [HNX.out]), HO6, hide (Nat.le_trans (snoc_len _ _ _) (Nat.succ_le_succ hl.out)), HB6⟩
                      case measure => simp [intOf]; omega
                    · have ge : (ER != 0) = true := by simpa using he
                      have h1 := HNd2.out he
                      subst h1
                      clear HNd2 HOk2 cc
                      go_wp2_with fail
                      go_ret2
                      exact ⟨rfl, HBW5.out⟩
                · injection e1 with e1 e8 e9
                  subst e1
                  subst e9
                  clear e8
                  by_cases h9 : cs = r
                  · obtain rfl : r = st.length := by omega
                    obtain rfl : cs = st.length := by omega
                    have hop3 : Hid (Calls Tryd.prog 30 #[.agg #[.int .i64 25, .int .i64 ty, .int .i64 n], .slice (some ⟨g, 0, none⟩) 0 0, .agg #[.slice GA gn gc, .slice FA fs.length fc]] w4.drew fun e w' => e = .returned (.tuple #[.int .i64 ty, .int .i64 ER]) ∧ Below w4.drew.heap.size w4.drew w') := hide (by
                      have h := hop.out _ (Below.drewN' (Below.refl _ _) 1) (some ⟨g, 0, none⟩) (.inr (.inr rfl))
                      rw [Nat.sub_self] at h
                      exact h)
                    clear hop
                    as_aux_lemma =>
                      have K0 : w4.drew.cell? ⟨bX, 0, none⟩ = some (.int .i64 25) ∧ w4.drew.cell? ⟨bX, 1, none⟩ = some (.int .i64 ty) ∧ w4.drew.cell? ⟨bX, 2, none⟩ = some (.int .i64 n) ∧ w4.drew.cell? ⟨bF + 1, 0, none⟩ = some (.slice GA gn gc) ∧ w4.drew.cell? ⟨bF + 1, 1, none⟩ = some (.slice FA fs.length fc) := ⟨n0, n1, n2, m0, m1⟩
                      have cc := K0
                      go_upto_region 18 with (go_at_call 29; refine (rspec_any _ _).mono ?_; rintro en wn ⟨rfl, rfl⟩; rw [hsp])
                      clear n0 n1 n2 f3 m0 m1
                      go_region_held3 (fun w' => w'.cell? ⟨bX, 0, none⟩ = some (.int .i64 25) ∧ w'.cell? ⟨bX, 1, none⟩ = some (.int .i64 ty) ∧ w'.cell? ⟨bX, 2, none⟩ = some (.int .i64 n) ∧ w'.cell? ⟨bF + 1, 0, none⟩ = some (.slice GA gn gc) ∧ w'.cell? ⟨bF + 1, 1, none⟩ = some (.slice FA fs.length fc)) (first | exact cc | exact K0)
                        (first | (go_at_call 30; refine (hop3.out).mono ?_; rintro en w5 ⟨rfl, hb4⟩; have HZ := hide hb4; replace cc := And.intro (cell_below hb4 cc.1) (And.intro (cell_below hb4 cc.2.1) (And.intro (cell_below hb4 cc.2.2.1) (And.intro (cell_below hb4 cc.2.2.2.1) (cell_below hb4 cc.2.2.2.2)))); clear hb4))
                      have hb45 : Below w4.heap.size w4 w5 := (Below.drewN' (Below.refl _ _) 1).trans HZ.out
                      clear K0
                      clear hop3
                      have HO3 := hide (hO.out.below' hb45)
                      have hb5 : Hid (Below base w1 w5) := hide (hb.out.trans (hb45.mono (by have := hb.out.size; have := HBS.out; omega)))
                      have hbs5 : Hid (base ≤ w5.heap.size) := hide (by have := hb5.out.size; have := HBS.out; omega)
                      have HBW5 := hide (Below.all HBW.out hb45)
                      clear hb45 HZ hO hb hbs4 HBW HV
                      by_cases he : ER = 0
                      · have ge : (ER != 0) = false := by simpa using he
                        have HNX := hide (HOk2.out he)
                        subst he
                        clear HNd2 HOk2 cc
                        have hs3 : base ≤ (w5.alloc (.cells #[.int .i64 ty] 24)).heap.size := by rw [World.size_alloc]; have := hbs5.out; omega
                        have HO4 := hide (HO3.out.alloc (.cells #[.int .i64 ty] 24))
                        have hlt4 : Hid ((st.take st.length).length ≤ 1000) := hide (by rw [List.length_take]; omega)
                        go_wp2_with (refine wpList_append_rd _ rfl _ _ 25 rfl base 24 .i64 8 tysE9 (.slice (some ⟨g, 0, none⟩) st.length st.length) _ (by simp [Act.eval]) HO4.out _ [ty] rfl (rd_one _ _ _) ?b0 ?b1 hs3 ?_)
                        case b0 => have := hlt4.out; first | omega | (simp only [List.length_singleton]; omega) | (simp only [List.take_length] at *; omega) | (simp only [List.length_singleton, List.take_length] at *; omega)
                        case b1 => have := hlt4.out; unfold maxLen; first | omega | (simp only [List.length_singleton]; omega) | (simp only [List.take_length] at *; omega) | (simp only [List.length_singleton, List.take_length] at *; omega)
                        rintro v' w6 ho hg hbl -
                        have HO6 : Hid (Own w6 base 24 .i64 v' (st.take st.length ++ [ty])) := hide (by first | exact ho | simpa using ho)
                        have HB6 : Hid (Below base w1 w6) := hide ((hb5.out.alloc (by have := hb5.out.size; have := HBS.out; omega) _).trans hbl)
                        clear ho hg hbl hs3 HO4
                        go_wp2_with fail
                        go_roundw
                        case rel => exact ⟨k + 1, _, by omega, by go_num, hide (by rw [HNX.out]), HO6, hide (Nat.le_trans (snoc_len _ _ _) (Nat.succ_le_succ hl.out)), HB6⟩
                        case measure => simp [intOf]; omega
                      · have ge : (ER != 0) = true := by simpa using he
                        have h1 := HNd2.out he
                        subst h1
                        clear HNd2 HOk2 cc
                        go_wp2_with fail
                        go_ret2
                        exact ⟨rfl, HBW5.out⟩
                  · have h10 : ¬ r = cs := fun h => h9 h.symm
                    as_aux_lemma =>
                      have K0 : w4.drew.cell? ⟨bX, 0, none⟩ = some (.int .i64 25) ∧ w4.drew.cell? ⟨bX, 1, none⟩ = some (.int .i64 ty) ∧ w4.drew.cell? ⟨bX, 2, none⟩ = some (.int .i64 n) ∧ w4.drew.cell? ⟨bF + 1, 0, none⟩ = some (.slice GA gn gc) ∧ w4.drew.cell? ⟨bF + 1, 1, none⟩ = some (.slice FA fs.length fc) := ⟨n0, n1, n2, m0, m1⟩
                      have cc := K0
                      go_upto_region 18 with (go_at_call 29; refine (rspec_any _ _).mono ?_; rintro en wn ⟨rfl, rfl⟩; rw [hsp])
                      clear n0 n1 n2 f3 m0 m1
                      go_region_held3 (fun w' => w'.cell? ⟨bX, 0, none⟩ = some (.int .i64 25) ∧ w'.cell? ⟨bX, 1, none⟩ = some (.int .i64 ty) ∧ w'.cell? ⟨bX, 2, none⟩ = some (.int .i64 n) ∧ w'.cell? ⟨bF + 1, 0, none⟩ = some (.slice GA gn gc) ∧ w'.cell? ⟨bF + 1, 1, none⟩ = some (.slice FA fs.length fc)) (first | exact cc | exact K0)
                        (first | (go_at_call 30; refine (hop.out _ (Below.drewN' (Below.refl _ _) 1) _ (.inr (.inl ⟨g, rfl, rfl⟩))).mono ?_; rintro en w5 ⟨rfl, hb4⟩; have HZ := hide hb4; replace cc := And.intro (cell_below hb4 cc.1) (And.intro (cell_below hb4 cc.2.1) (And.intro (cell_below hb4 cc.2.2.1) (And.intro (cell_below hb4 cc.2.2.2.1) (cell_below hb4 cc.2.2.2.2)))); clear hb4))
                      have hb45 : Below w4.heap.size w4 w5 := (Below.drewN' (Below.refl _ _) 1).trans HZ.out
                      clear K0
                      clear hop
                      have HO3 := hide (hO.out.below' hb45)
                      have hb5 : Hid (Below base w1 w5) := hide (hb.out.trans (hb45.mono (by have := hb.out.size; have := HBS.out; omega)))
                      have hbs5 : Hid (base ≤ w5.heap.size) := hide (by have := hb5.out.size; have := HBS.out; omega)
                      have HBW5 := hide (Below.all HBW.out hb45)
                      clear hb45 HZ hO hb hbs4 HBW HV
                      by_cases he : ER = 0
                      · have ge : (ER != 0) = false := by simpa using he
                        have HNX := hide (HOk2.out he)
                        subst he
                        clear HNd2 HOk2 cc
                        have hs3 : base ≤ (w5.alloc (.cells #[.int .i64 ty] 24)).heap.size := by rw [World.size_alloc]; have := hbs5.out; omega
                        have HO4 := hide ((HO3.out.front (m := r) (by omega)).alloc (.cells #[.int .i64 ty] 24))
                        have hlt4 : Hid ((st.take r).length ≤ 1000) := hide (by rw [List.length_take]; omega)
                        go_wp2_with (refine wpList_append_rd _ rfl _ _ 25 rfl base 24 .i64 8 tysE9 (.slice (some ⟨g, 0, none⟩) r cs) _ (by simp [Act.eval]) HO4.out _ [ty] rfl (rd_one _ _ _) ?b0 ?b1 hs3 ?_)
                        case b0 => have := hlt4.out; first | omega | (simp only [List.length_singleton]; omega) | (simp only [List.take_length] at *; omega) | (simp only [List.length_singleton, List.take_length] at *; omega)
                        case b1 => have := hlt4.out; unfold maxLen; first | omega | (simp only [List.length_singleton]; omega) | (simp only [List.take_length] at *; omega) | (simp only [List.length_singleton, List.take_length] at *; omega)
                        rintro v' w6 ho hg hbl -
                        have HO6 : Hid (Own w6 base 24 .i64 v' (st.take r ++ [ty])) := hide (by first | exact ho | simpa using ho)
                        have HB6 : Hid (Below base w1 w6) := hide ((hb5.out.alloc (by have := hb5.out.size; have := HBS.out; omega) _).trans hbl)
                        clear ho hg hbl hs3 HO4
                        go_wp2_with fail
                        go_roundw
                        case rel => exact ⟨k + 1, _, by omega, by go_num, hide (by rw [HNX.out]), HO6, hide (Nat.le_trans (snoc_len _ _ _) (Nat.succ_le_succ hl.out)), HB6⟩
                        case measure => simp [intOf]; omega
                      · have ge : (ER != 0) = true := by simpa using he
                        have h1 := HNd2.out he
                        subst h1
                        clear HNd2 HOk2 cc
                        go_wp2_with fail
                        go_ret2
                        exact ⟨rfl, HBW5.out⟩
          | true =>
            as_aux_lemma =>
              by_cases hlt : st.length < cntE 25 ty
              · have h1 := HSh.out hf hlt
                subst h1
                have g0 : decide ((st.length : Int) < (cntE 25 ty : Int)) = true := by simp; omega
                have g00 : decide (st.length < cntE 25 ty) = true := by simpa using hlt
                obtain ⟨cnt, hcnt⟩ : ∃ z, cntE 25 ty = z := ⟨_, rfl⟩
                rw [hcnt] at g0 g00 ⊢
                clear hcnt hlt HErr HSh HNd HOkk
                go_wp2_with (go_at_call 29; refine (rspec_any _ _).mono ?_; rintro en wn ⟨rfl, rfl⟩; rw [hsp])
                go_ret2
                exact ⟨rfl, HBW.out⟩
              · obtain ⟨r, hr⟩ : ∃ r, st.length - cntE 25 ty = r := ⟨_, rfl⟩
                have hc4 : cntE 25 ty ≤ 4 := cntE_le _ _
                obtain ⟨ts, hts⟩ : ∃ ts, st.drop r = ts := ⟨_, rfl⟩
                have htl : ts.length = st.length - r := by rw [← hts, List.length_drop]
                obtain ⟨ER, hER⟩ : ∃ z, tyE ⟨25, ty, n⟩ ts gn fs.length = z := ⟨_, rfl⟩
                have HNd2 : Hid (ER ≠ 0 → CH = (0, ER)) := hide (fun h => by
                  have := HNd.out hf hlt (by decide) (by rw [hr, hts, hER]; exact h)
                  rwa [hr, hts, hER] at this)
                have HOk2 : Hid (ER = 0 → runE rl gn fs.length (e.take (k + 1)) [] = (0, st.take r ++ [ty])) := hide (fun h => by
                  have := HOkk.out hf hlt (.inr (by rw [hr, hts, hER]; exact h))
                  rwa [hr, if_neg (by decide)] at this)
                have g0 : decide ((st.length : Int) < (cntE 25 ty : Int)) = false := by simp; omega
                have g00 : decide (st.length < cntE 25 ty) = false := by simpa using hlt
                have hs1 : IntKind.i64.wrap ((st.length : Int) - (cntE 25 ty : Int)) = (r : Int) := by rw [show (st.length : Int) - (cntE 25 ty : Int) = (r : Int) by omega]; exact IntWalk.i64_in _ (by omega)
                have hs2 : ((st.length : Int) - (cntE 25 ty : Int)) = (r : Int) := by omega
                have hrc2 : r + cntE 25 ty = st.length := by omega
                obtain ⟨cnt, hcnt⟩ : ∃ z, cntE 25 ty = z := ⟨_, rfl⟩
                rw [hcnt] at g0 g00 hs1 hs2 hrc2 hc4 ⊢
                have gr0 : (0 : Int) ≤ (r : Int) := by omega
                have gr1 : (r : Int) ≤ (st.length : Int) := by omega
                have gr2 : r ≤ st.length := by omega
                have HTS := hide hts
                have HTL := hide htl
                have HER' := hide hER
                have hop : Hid (∀ W, Below w4.heap.size w4 W → ∀ A, (A = As ∧ r = 0 ∨ (∃ b, As = some ⟨b, 0, none⟩ ∧ A = some ⟨b, r, none⟩) ∨ r = st.length) → Calls Tryd.prog 30 #[.agg #[.int .i64 25, .int .i64 ty, .int .i64 n], .slice A (st.length - r) (cs - r), .agg #[.slice GA gn gc, .slice FA fs.length fc]] W fun e w' => e = .returned (.tuple #[.int .i64 ty, .int .i64 ER]) ∧ Below W.heap.size W w') := hide (fun W hW A hA => by
                  have hbW := Below.all HBW.out hW
                  have hrd := (hO.out.below' hW).rd
                  have hrt : Rd W .i64 (.slice A ts.length (cs - r)) ts := by
                    rw [← HTS.out]
                    rcases hA with ⟨rfl, rfl⟩ | ⟨b, rfl, rfl⟩ | h0
                    · simpa using hrd
                    · have := hrd.back (m := r) (by omega) (some ⟨b, r, none⟩) (.inl (by simp))
                      rw [List.length_drop]
                      exact this
                    · subst h0
                      rw [List.drop_length]
                      exact ⟨A, cs - st.length, rfl, by simp, by unfold maxLen; omega, fun h => absurd h (by simp)⟩
                  have h := node_any ⟨25, ty, n⟩ A (cs - r) ts (by rw [HTL.out]; omega) GA FA gn gc fc fs HSP.out (by show ¬ (25 : Int) = 30; decide) W (HT.out.below hbW) (HO.out.below hbW) hrt (HFS.out.below hbW)
                  rw [HTL.out, HER'.out] at h
                  exact h)
                clear hr hlt hts htl hER hcnt hf HErr HSh HNd HOkk
                rcases hO.out.2 with ⟨e1, e2⟩ | ⟨g, cap, _, e1, -, -, -, -, -, -⟩
                · injection e1 with e1 e3 e4
                  subst e1
                  subst e4
                  obtain rfl : st = [] := List.eq_nil_of_length_eq_zero e2
                  obtain rfl : r = 0 := by simp at hrc2; omega
                  obtain rfl : cnt = 0 := by simp at hrc2; exact hrc2
                  rw [List.length_nil]
                  have hsl0 : ∀ W, (Instr.slice 25 (.slice none 0 0) (some (.int .i64 0)) none none).run Tryd.prog W = .ok (.slice none 0 0) W := fun W => by kernel_rfl
                  have hop3 := hide (hop.out _ (Below.drewN' (Below.refl _ _) 1) none (.inl ⟨rfl, rfl⟩))
                  clear hop
                  as_aux_lemma =>
                    have K0 : w4.drew.cell? ⟨bX, 0, none⟩ = some (.int .i64 25) ∧ w4.drew.cell? ⟨bX, 1, none⟩ = some (.int .i64 ty) ∧ w4.drew.cell? ⟨bX, 2, none⟩ = some (.int .i64 n) ∧ w4.drew.cell? ⟨bF + 1, 0, none⟩ = some (.slice GA gn gc) ∧ w4.drew.cell? ⟨bF + 1, 1, none⟩ = some (.slice FA fs.length fc) := ⟨n0, n1, n2, m0, m1⟩
                    have cc := K0
                    go_upto_region 18 with (go_at_call 29; refine (rspec_any _ _).mono ?_; rintro en wn ⟨rfl, rfl⟩; rw [hsp])
                    clear n0 n1 n2 f3 m0 m1
                    go_region_held3 (fun w' => w'.cell? ⟨bX, 0, none⟩ = some (.int .i64 25) ∧ w'.cell? ⟨bX, 1, none⟩ = some (.int .i64 ty) ∧ w'.cell? ⟨bX, 2, none⟩ = some (.int .i64 n) ∧ w'.cell? ⟨bF + 1, 0, none⟩ = some (.slice GA gn gc) ∧ w'.cell? ⟨bF + 1, 1, none⟩ = some (.slice FA fs.length fc)) (first | exact cc | exact K0)
                      (first | (go_at_call 30; refine (hop3.out).mono ?_; rintro en w5 ⟨rfl, hb4⟩; have HZ := hide hb4; replace cc := And.intro (cell_below hb4 cc.1) (And.intro (cell_below hb4 cc.2.1) (And.intro (cell_below hb4 cc.2.2.1) (And.intro (cell_below hb4 cc.2.2.2.1) (cell_below hb4 cc.2.2.2.2)))); clear hb4))
                    have hb45 : Below w4.heap.size w4 w5 := (Below.drewN' (Below.refl _ _) 1).trans HZ.out
                    clear K0
                    clear hop3
                    have HO3 := hide (hO.out.below' hb45)
                    have hb5 : Hid (Below base w1 w5) := hide (hb.out.trans (hb45.mono (by have := hb.out.size; have := HBS.out; omega)))
                    have hbs5 : Hid (base ≤ w5.heap.size) := hide (by have := hb5.out.size; have := HBS.out; omega)
                    have HBW5 := hide (Below.all HBW.out hb45)
                    clear hb45 HZ hO hb hbs4 HBW HV
                    by_cases he : ER = 0
                    · have ge : (ER != 0) = false := by simpa using he
                      have HNX := hide (HOk2.out he)
                      subst he
                      clear HNd2 HOk2 cc
                      have hs3 : base ≤ (w5.alloc (.cells #[.int .i64 ty] 24)).heap.size := by rw [World.size_alloc]; have := hbs5.out; omega
                      have HO4 := hide (HO3.out.alloc (.cells #[.int .i64 ty] 24))
                      have hlt4 : Hid ((([] : List Int).take 0).length ≤ 1000) := hide (by simp)
                      go_wp2_with (refine wpList_append_rd _ rfl _ _ 25 rfl base 24 .i64 8 tysE9 (.slice none 0 0) _ (by simp [Act.eval]) HO4.out _ [ty] rfl (rd_one _ _ _) ?b0 ?b1 hs3 ?_)
                      case b0 => simp
                      case b1 => simp [maxLen]
                      rintro v' w6 ho hg hbl -
                      have HO6 : Hid (Own w6 base 24 .i64 v' (([] : List Int).take 0 ++ [ty])) := hide (by first | exact ho | simpa using ho)
                      have HB6 : Hid (Below base w1 w6) := hide ((hb5.out.alloc (by have := hb5.out.size; have := HBS.out; omega) _).trans hbl)
                      clear ho hg hbl hs3 HO4
                      go_wp2_with fail
                      go_roundw
                      case rel => exact ⟨k + 1, _, by omega, by go_num, hide (by rw [HNX.out]), HO6, hide (Nat.le_trans (snoc_len _ _ _) (Nat.succ_le_succ hl.out)), HB6⟩
                      case measure => simp [intOf]; omega
                    · have ge : (ER != 0) = true := by simpa using he
                      have h1 := HNd2.out he
                      subst h1
                      clear HNd2 HOk2 cc
                      go_wp2_with fail
                      go_ret2
                      exact ⟨rfl, HBW5.out⟩
                · injection e1 with e1 e8 e9
                  subst e1
                  subst e9
                  clear e8
                  by_cases h9 : cs = r
                  · obtain rfl : r = st.length := by omega
                    obtain rfl : cs = st.length := by omega
                    have hop3 : Hid (Calls Tryd.prog 30 #[.agg #[.int .i64 25, .int .i64 ty, .int .i64 n], .slice (some ⟨g, 0, none⟩) 0 0, .agg #[.slice GA gn gc, .slice FA fs.length fc]] w4.drew fun e w' => e = .returned (.tuple #[.int .i64 ty, .int .i64 ER]) ∧ Below w4.drew.heap.size w4.drew w') := hide (by
                      have h := hop.out _ (Below.drewN' (Below.refl _ _) 1) (some ⟨g, 0, none⟩) (.inr (.inr rfl))
                      rw [Nat.sub_self] at h
                      exact h)
                    clear hop
                    as_aux_lemma =>
                      have K0 : w4.drew.cell? ⟨bX, 0, none⟩ = some (.int .i64 25) ∧ w4.drew.cell? ⟨bX, 1, none⟩ = some (.int .i64 ty) ∧ w4.drew.cell? ⟨bX, 2, none⟩ = some (.int .i64 n) ∧ w4.drew.cell? ⟨bF + 1, 0, none⟩ = some (.slice GA gn gc) ∧ w4.drew.cell? ⟨bF + 1, 1, none⟩ = some (.slice FA fs.length fc) := ⟨n0, n1, n2, m0, m1⟩
                      have cc := K0
                      go_upto_region 18 with (go_at_call 29; refine (rspec_any _ _).mono ?_; rintro en wn ⟨rfl, rfl⟩; rw [hsp])
                      clear n0 n1 n2 f3 m0 m1
                      go_region_held3 (fun w' => w'.cell? ⟨bX, 0, none⟩ = some (.int .i64 25) ∧ w'.cell? ⟨bX, 1, none⟩ = some (.int .i64 ty) ∧ w'.cell? ⟨bX, 2, none⟩ = some (.int .i64 n) ∧ w'.cell? ⟨bF + 1, 0, none⟩ = some (.slice GA gn gc) ∧ w'.cell? ⟨bF + 1, 1, none⟩ = some (.slice FA fs.length fc)) (first | exact cc | exact K0)
                        (first | (go_at_call 30; refine (hop3.out).mono ?_; rintro en w5 ⟨rfl, hb4⟩; have HZ := hide hb4; replace cc := And.intro (cell_below hb4 cc.1) (And.intro (cell_below hb4 cc.2.1) (And.intro (cell_below hb4 cc.2.2.1) (And.intro (cell_below hb4 cc.2.2.2.1) (cell_below hb4 cc.2.2.2.2)))); clear hb4))
                      have hb45 : Below w4.heap.size w4 w5 := (Below.drewN' (Below.refl _ _) 1).trans HZ.out
                      clear K0
                      clear hop3
                      have HO3 := hide (hO.out.below' hb45)
                      have hb5 : Hid (Below base w1 w5) := hide (hb.out.trans (hb45.mono (by have := hb.out.size; have := HBS.out; omega)))
                      have hbs5 : Hid (base ≤ w5.heap.size) := hide (by have := hb5.out.size; have := HBS.out; omega)
                      have HBW5 := hide (Below.all HBW.out hb45)
                      clear hb45 HZ hO hb hbs4 HBW HV
                      by_cases he : ER = 0
                      · have ge : (ER != 0) = false := by simpa using he
                        have HNX := hide (HOk2.out he)
                        subst he
                        clear HNd2 HOk2 cc
                        have hs3 : base ≤ (w5.alloc (.cells #[.int .i64 ty] 24)).heap.size := by rw [World.size_alloc]; have := hbs5.out; omega
                        have HO4 := hide (HO3.out.alloc (.cells #[.int .i64 ty] 24))
                        have hlt4 : Hid ((st.take st.length).length ≤ 1000) := hide (by rw [List.length_take]; omega)
                        go_wp2_with (refine wpList_append_rd _ rfl _ _ 25 rfl base 24 .i64 8 tysE9 (.slice (some ⟨g, 0, none⟩) st.length st.length) _ (by simp [Act.eval]) HO4.out _ [ty] rfl (rd_one _ _ _) ?b0 ?b1 hs3 ?_)
                        case b0 => have := hlt4.out; first | omega | (simp only [List.length_singleton]; omega) | (simp only [List.take_length] at *; omega) | (simp only [List.length_singleton, List.take_length] at *; omega)
                        case b1 => have := hlt4.out; unfold maxLen; first | omega | (simp only [List.length_singleton]; omega) | (simp only [List.take_length] at *; omega) | (simp only [List.length_singleton, List.take_length] at *; omega)
                        rintro v' w6 ho hg hbl -
                        have HO6 : Hid (Own w6 base 24 .i64 v' (st.take st.length ++ [ty])) := hide (by first | exact ho | simpa using ho)
                        have HB6 : Hid (Below base w1 w6) := hide ((hb5.out.alloc (by have := hb5.out.size; have := HBS.out; omega) _).trans hbl)
                        clear ho hg hbl hs3 HO4
                        go_wp2_with fail
                        go_roundw
                        case rel => exact ⟨k + 1, _, by omega, by go_num, hide (by rw [HNX.out]), HO6, hide (Nat.le_trans (snoc_len _ _ _) (Nat.succ_le_succ hl.out)), HB6⟩
                        case measure => simp [intOf]; omega
                      · have ge : (ER != 0) = true := by simpa using he
                        have h1 := HNd2.out he
                        subst h1
                        clear HNd2 HOk2 cc
                        go_wp2_with fail
                        go_ret2
                        exact ⟨rfl, HBW5.out⟩
                  · have h10 : ¬ r = cs := fun h => h9 h.symm
                    as_aux_lemma =>
                      have K0 : w4.drew.cell? ⟨bX, 0, none⟩ = some (.int .i64 25) ∧ w4.drew.cell? ⟨bX, 1, none⟩ = some (.int .i64 ty) ∧ w4.drew.cell? ⟨bX, 2, none⟩ = some (.int .i64 n) ∧ w4.drew.cell? ⟨bF + 1, 0, none⟩ = some (.slice GA gn gc) ∧ w4.drew.cell? ⟨bF + 1, 1, none⟩ = some (.slice FA fs.length fc) := ⟨n0, n1, n2, m0, m1⟩
                      have cc := K0
                      go_upto_region 18 with (go_at_call 29; refine (rspec_any _ _).mono ?_; rintro en wn ⟨rfl, rfl⟩; rw [hsp])
                      clear n0 n1 n2 f3 m0 m1
                      go_region_held3 (fun w' => w'.cell? ⟨bX, 0, none⟩ = some (.int .i64 25) ∧ w'.cell? ⟨bX, 1, none⟩ = some (.int .i64 ty) ∧ w'.cell? ⟨bX, 2, none⟩ = some (.int .i64 n) ∧ w'.cell? ⟨bF + 1, 0, none⟩ = some (.slice GA gn gc) ∧ w'.cell? ⟨bF + 1, 1, none⟩ = some (.slice FA fs.length fc)) (first | exact cc | exact K0)
                        (first | (go_at_call 30; refine (hop.out _ (Below.drewN' (Below.refl _ _) 1) _ (.inr (.inl ⟨g, rfl, rfl⟩))).mono ?_; rintro en w5 ⟨rfl, hb4⟩; have HZ := hide hb4; replace cc := And.intro (cell_below hb4 cc.1) (And.intro (cell_below hb4 cc.2.1) (And.intro (cell_below hb4 cc.2.2.1) (And.intro (cell_below hb4 cc.2.2.2.1) (cell_below hb4 cc.2.2.2.2)))); clear hb4))
                      have hb45 : Below w4.heap.size w4 w5 := (Below.drewN' (Below.refl _ _) 1).trans HZ.out
                      clear K0
                      clear hop
                      have HO3 := hide (hO.out.below' hb45)
                      have hb5 : Hid (Below base w1 w5) := hide (hb.out.trans (hb45.mono (by have := hb.out.size; have := HBS.out; omega)))
                      have hbs5 : Hid (base ≤ w5.heap.size) := hide (by have := hb5.out.size; have := HBS.out; omega)
                      have HBW5 := hide (Below.all HBW.out hb45)
                      clear hb45 HZ hO hb hbs4 HBW HV
                      by_cases he : ER = 0
                      · have ge : (ER != 0) = false := by simpa using he
                        have HNX := hide (HOk2.out he)
                        subst he
                        clear HNd2 HOk2 cc
                        have hs3 : base ≤ (w5.alloc (.cells #[.int .i64 ty] 24)).heap.size := by rw [World.size_alloc]; have := hbs5.out; omega
                        have HO4 := hide ((HO3.out.front (m := r) (by omega)).alloc (.cells #[.int .i64 ty] 24))
                        have hlt4 : Hid ((st.take r).length ≤ 1000) := hide (by rw [List.length_take]; omega)
                        go_wp2_with (refine wpList_append_rd _ rfl _ _ 25 rfl base 24 .i64 8 tysE9 (.slice (some ⟨g, 0, none⟩) r cs) _ (by simp [Act.eval]) HO4.out _ [ty] rfl (rd_one _ _ _) ?b0 ?b1 hs3 ?_)
                        case b0 => have := hlt4.out; first | omega | (simp only [List.length_singleton]; omega) | (simp only [List.take_length] at *; omega) | (simp only [List.length_singleton, List.take_length] at *; omega)
                        case b1 => have := hlt4.out; unfold maxLen; first | omega | (simp only [List.length_singleton]; omega) | (simp only [List.take_length] at *; omega) | (simp only [List.length_singleton, List.take_length] at *; omega)
                        rintro v' w6 ho hg hbl -
                        have HO6 : Hid (Own w6 base 24 .i64 v' (st.take r ++ [ty])) := hide (by first | exact ho | simpa using ho)
                        have HB6 : Hid (Below base w1 w6) := hide ((hb5.out.alloc (by have := hb5.out.size; have := HBS.out; omega) _).trans hbl)
                        clear ho hg hbl hs3 HO4
                        go_wp2_with fail
                        go_roundw
                        case rel => exact ⟨k + 1, _, by omega, by go_num, hide (by rw [HNX.out]), HO6, hide (Nat.le_trans (snoc_len _ _ _) (Nat.succ_le_succ hl.out)), HB6⟩
                        case measure => simp [intOf]; omega
                      · have ge : (ER != 0) = true := by simpa using he
                        have h1 := HNd2.out he
                        subst h1
                        clear HNd2 HOk2 cc
                        go_wp2_with fail
                        go_ret2
                        exact ⟨rfl, HBW5.out⟩
        · have hfe : fldE 25 ty n rl.length gn = 8 := by unfold fldE; rw [if_neg (by simp [show specM 25 = true by rfl]), if_pos (.inr ⟨rfl, hi⟩)]
          by_cases hneg : n < 0
          · have gi1 : decide (n < 0) = true := by simpa using hneg
            as_aux_lemma =>
              have h1 := HErr.out 8 (hfe) (by decide)
              subst h1
              clear HErr HSh HNd HOkk
              go_wp2_with (go_at_call 29; refine (rspec_any _ _).mono ?_; rintro en wn ⟨rfl, rfl⟩; rw [hsp])
              go_ret2
              exact ⟨rfl, HBW.out⟩
          · have gi1 : decide (n < 0) = false := by simpa using hneg
            have gi2 : decide (n ≥ (gn : Int)) = true := by simp; omega
            have gi3 : decide ((gn : Int) ≤ n) = true := by simp; omega
            have gi4 : (gn : Int) ≤ n := by omega
            as_aux_lemma =>
              have h1 := HErr.out 8 (hfe) (by decide)
              subst h1
              clear HErr HSh HNd HOkk
              go_wp2_with (go_at_call 29; refine (rspec_any _ _).mono ?_; rintro en wn ⟨rfl, rfl⟩; rw [hsp])
              go_ret2
              exact ⟨rfl, HBW.out⟩
      have g25 : (op == 25) = false := by simpa using c25
      by_cases c28 : op = 28
      · subst c28
        cases hn : (n != 0) with
        | false =>
          have h0 : n = 0 := by simpa using hn
          have hf : fldE 28 ty n rl.length gn = 0 := by simp [fldE, h0]
          clear h0
          as_aux_lemma =>
            by_cases hlt : st.length < cntE 28 ty
            · have h1 := HSh.out hf hlt
              subst h1
              have g0 : decide ((st.length : Int) < (cntE 28 ty : Int)) = true := by simp; omega
              have g00 : decide (st.length < cntE 28 ty) = true := by simpa using hlt
              obtain ⟨cnt, hcnt⟩ : ∃ z, cntE 28 ty = z := ⟨_, rfl⟩
              rw [hcnt] at g0 g00 ⊢
              clear hcnt hlt HErr HSh HNd HOkk
              go_wp2_with fail
              go_ret2
              exact ⟨rfl, HBW.out⟩
            · obtain ⟨r, hr⟩ : ∃ r, st.length - cntE 28 ty = r := ⟨_, rfl⟩
              have hc4 : cntE 28 ty ≤ 4 := cntE_le _ _
              obtain ⟨ts, hts⟩ : ∃ ts, st.drop r = ts := ⟨_, rfl⟩
              have htl : ts.length = st.length - r := by rw [← hts, List.length_drop]
              obtain ⟨ER, hER⟩ : ∃ z, tyE ⟨28, ty, n⟩ ts gn fs.length = z := ⟨_, rfl⟩
              have HNd2 : Hid (ER ≠ 0 → CH = (0, ER)) := hide (fun h => by
                have := HNd.out hf hlt (by decide) (by rw [hr, hts, hER]; exact h)
                rwa [hr, hts, hER] at this)
              have HOk2 : Hid (ER = 0 → runE rl gn fs.length (e.take (k + 1)) [] = (0, st.take r ++ [ty])) := hide (fun h => by
                have := HOkk.out hf hlt (.inr (by rw [hr, hts, hER]; exact h))
                rwa [hr, if_neg (by decide)] at this)
              have g0 : decide ((st.length : Int) < (cntE 28 ty : Int)) = false := by simp; omega
              have g00 : decide (st.length < cntE 28 ty) = false := by simpa using hlt
              have hs1 : IntKind.i64.wrap ((st.length : Int) - (cntE 28 ty : Int)) = (r : Int) := by rw [show (st.length : Int) - (cntE 28 ty : Int) = (r : Int) by omega]; exact IntWalk.i64_in _ (by omega)
              have hs2 : ((st.length : Int) - (cntE 28 ty : Int)) = (r : Int) := by omega
              have hrc2 : r + cntE 28 ty = st.length := by omega
              obtain ⟨cnt, hcnt⟩ : ∃ z, cntE 28 ty = z := ⟨_, rfl⟩
              rw [hcnt] at g0 g00 hs1 hs2 hrc2 hc4 ⊢
              have gr0 : (0 : Int) ≤ (r : Int) := by omega
              have gr1 : (r : Int) ≤ (st.length : Int) := by omega
              have gr2 : r ≤ st.length := by omega
              have HTS := hide hts
              have HTL := hide htl
              have HER' := hide hER
              have hop : Hid (∀ W, Below w4.heap.size w4 W → ∀ A, (A = As ∧ r = 0 ∨ (∃ b, As = some ⟨b, 0, none⟩ ∧ A = some ⟨b, r, none⟩) ∨ r = st.length) → Calls Tryd.prog 30 #[.agg #[.int .i64 28, .int .i64 ty, .int .i64 n], .slice A (st.length - r) (cs - r), .agg #[.slice GA gn gc, .slice FA fs.length fc]] W fun e w' => e = .returned (.tuple #[.int .i64 ty, .int .i64 ER]) ∧ Below W.heap.size W w') := hide (fun W hW A hA => by
                have hbW := Below.all HBW.out hW
                have hrd := (hO.out.below' hW).rd
                have hrt : Rd W .i64 (.slice A ts.length (cs - r)) ts := by
                  rw [← HTS.out]
                  rcases hA with ⟨rfl, rfl⟩ | ⟨b, rfl, rfl⟩ | h0
                  · simpa using hrd
                  · have := hrd.back (m := r) (by omega) (some ⟨b, r, none⟩) (.inl (by simp))
                    rw [List.length_drop]
                    exact this
                  · subst h0
                    rw [List.drop_length]
                    exact ⟨A, cs - st.length, rfl, by simp, by unfold maxLen; omega, fun h => absurd h (by simp)⟩
                have h := node_any ⟨28, ty, n⟩ A (cs - r) ts (by rw [HTL.out]; omega) GA FA gn gc fc fs HSP.out (by show ¬ (28 : Int) = 30; decide) W (HT.out.below hbW) (HO.out.below hbW) hrt (HFS.out.below hbW)
                rw [HTL.out, HER'.out] at h
                exact h)
              clear hr hlt hts htl hER hcnt hf HErr HSh HNd HOkk
              rcases hO.out.2 with ⟨e1, e2⟩ | ⟨g, cap, _, e1, -, -, -, -, -, -⟩
              · injection e1 with e1 e3 e4
                subst e1
                subst e4
                obtain rfl : st = [] := List.eq_nil_of_length_eq_zero e2
                obtain rfl : r = 0 := by simp at hrc2; omega
                obtain rfl : cnt = 0 := by simp at hrc2; exact hrc2
                rw [List.length_nil]
                have hsl0 : ∀ W, (Instr.slice 25 (.slice none 0 0) (some (.int .i64 0)) none none).run Tryd.prog W = .ok (.slice none 0 0) W := fun W => by kernel_rfl
                have hop3 := hide (hop.out _ (Below.drewN' (Below.refl _ _) 1) none (.inl ⟨rfl, rfl⟩))
                clear hop
                as_aux_lemma =>
                  have K0 : w4.drew.cell? ⟨bX, 0, none⟩ = some (.int .i64 28) ∧ w4.drew.cell? ⟨bX, 1, none⟩ = some (.int .i64 ty) ∧ w4.drew.cell? ⟨bX, 2, none⟩ = some (.int .i64 n) ∧ w4.drew.cell? ⟨bF + 1, 0, none⟩ = some (.slice GA gn gc) ∧ w4.drew.cell? ⟨bF + 1, 1, none⟩ = some (.slice FA fs.length fc) := ⟨n0, n1, n2, m0, m1⟩
                  have cc := K0
                  go_upto_region 18 with fail
                  clear n0 n1 n2 f3 m0 m1
                  go_region_held3 (fun w' => w'.cell? ⟨bX, 0, none⟩ = some (.int .i64 28) ∧ w'.cell? ⟨bX, 1, none⟩ = some (.int .i64 ty) ∧ w'.cell? ⟨bX, 2, none⟩ = some (.int .i64 n) ∧ w'.cell? ⟨bF + 1, 0, none⟩ = some (.slice GA gn gc) ∧ w'.cell? ⟨bF + 1, 1, none⟩ = some (.slice FA fs.length fc)) (first | exact cc | exact K0)
                    (first | (go_at_call 30; refine (hop3.out).mono ?_; rintro en w5 ⟨rfl, hb4⟩; have HZ := hide hb4; replace cc := And.intro (cell_below hb4 cc.1) (And.intro (cell_below hb4 cc.2.1) (And.intro (cell_below hb4 cc.2.2.1) (And.intro (cell_below hb4 cc.2.2.2.1) (cell_below hb4 cc.2.2.2.2)))); clear hb4))
                  have hb45 : Below w4.heap.size w4 w5 := (Below.drewN' (Below.refl _ _) 1).trans HZ.out
                  clear K0
                  clear hop3
                  have HO3 := hide (hO.out.below' hb45)
                  have hb5 : Hid (Below base w1 w5) := hide (hb.out.trans (hb45.mono (by have := hb.out.size; have := HBS.out; omega)))
                  have hbs5 : Hid (base ≤ w5.heap.size) := hide (by have := hb5.out.size; have := HBS.out; omega)
                  have HBW5 := hide (Below.all HBW.out hb45)
                  clear hb45 HZ hO hb hbs4 HBW HV
                  by_cases he : ER = 0
                  · have ge : (ER != 0) = false := by simpa using he
                    have HNX := hide (HOk2.out he)
                    subst he
                    clear HNd2 HOk2 cc
                    have hs3 : base ≤ (w5.alloc (.cells #[.int .i64 ty] 24)).heap.size := by rw [World.size_alloc]; have := hbs5.out; omega
                    have HO4 := hide (HO3.out.alloc (.cells #[.int .i64 ty] 24))
                    have hlt4 : Hid ((([] : List Int).take 0).length ≤ 1000) := hide (by simp)
                    go_wp2_with (refine wpList_append_rd _ rfl _ _ 25 rfl base 24 .i64 8 tysE9 (.slice none 0 0) _ (by simp [Act.eval]) HO4.out _ [ty] rfl (rd_one _ _ _) ?b0 ?b1 hs3 ?_)
                    case b0 => simp
                    case b1 => simp [maxLen]
                    rintro v' w6 ho hg hbl -
                    have HO6 : Hid (Own w6 base 24 .i64 v' (([] : List Int).take 0 ++ [ty])) := hide (by first | exact ho | simpa using ho)
                    have HB6 : Hid (Below base w1 w6) := hide ((hb5.out.alloc (by have := hb5.out.size; have := HBS.out; omega) _).trans hbl)
                    clear ho hg hbl hs3 HO4
                    go_wp2_with fail
                    go_roundw
                    case rel => exact ⟨k + 1, _, by omega, by go_num, hide (by rw [HNX.out]), HO6, hide (Nat.le_trans (snoc_len _ _ _) (Nat.succ_le_succ hl.out)), HB6⟩
                    case measure => simp [intOf]; omega
                  · have ge : (ER != 0) = true := by simpa using he
                    have h1 := HNd2.out he
                    subst h1
                    clear HNd2 HOk2 cc
                    go_wp2_with fail
                    go_ret2
                    exact ⟨rfl, HBW5.out⟩
              · injection e1 with e1 e8 e9
                subst e1
                subst e9
                clear e8
                by_cases h9 : cs = r
                · obtain rfl : r = st.length := by omega
                  obtain rfl : cs = st.length := by omega
                  have hop3 : Hid (Calls Tryd.prog 30 #[.agg #[.int .i64 28, .int .i64 ty, .int .i64 n], .slice (some ⟨g, 0, none⟩) 0 0, .agg #[.slice GA gn gc, .slice FA fs.length fc]] w4.drew fun e w' => e = .returned (.tuple #[.int .i64 ty, .int .i64 ER]) ∧ Below w4.drew.heap.size w4.drew w') := hide (by
                    have h := hop.out _ (Below.drewN' (Below.refl _ _) 1) (some ⟨g, 0, none⟩) (.inr (.inr rfl))
                    rw [Nat.sub_self] at h
                    exact h)
                  clear hop
                  as_aux_lemma =>
                    have K0 : w4.drew.cell? ⟨bX, 0, none⟩ = some (.int .i64 28) ∧ w4.drew.cell? ⟨bX, 1, none⟩ = some (.int .i64 ty) ∧ w4.drew.cell? ⟨bX, 2, none⟩ = some (.int .i64 n) ∧ w4.drew.cell? ⟨bF + 1, 0, none⟩ = some (.slice GA gn gc) ∧ w4.drew.cell? ⟨bF + 1, 1, none⟩ = some (.slice FA fs.length fc) := ⟨n0, n1, n2, m0, m1⟩
                    have cc := K0
                    go_upto_region 18 with fail
                    clear n0 n1 n2 f3 m0 m1
                    go_region_held3 (fun w' => w'.cell? ⟨bX, 0, none⟩ = some (.int .i64 28) ∧ w'.cell? ⟨bX, 1, none⟩ = some (.int .i64 ty) ∧ w'.cell? ⟨bX, 2, none⟩ = some (.int .i64 n) ∧ w'.cell? ⟨bF + 1, 0, none⟩ = some (.slice GA gn gc) ∧ w'.cell? ⟨bF + 1, 1, none⟩ = some (.slice FA fs.length fc)) (first | exact cc | exact K0)
                      (first | (go_at_call 30; refine (hop3.out).mono ?_; rintro en w5 ⟨rfl, hb4⟩; have HZ := hide hb4; replace cc := And.intro (cell_below hb4 cc.1) (And.intro (cell_below hb4 cc.2.1) (And.intro (cell_below hb4 cc.2.2.1) (And.intro (cell_below hb4 cc.2.2.2.1) (cell_below hb4 cc.2.2.2.2)))); clear hb4))
                    have hb45 : Below w4.heap.size w4 w5 := (Below.drewN' (Below.refl _ _) 1).trans HZ.out
                    clear K0
                    clear hop3
                    have HO3 := hide (hO.out.below' hb45)
                    have hb5 : Hid (Below base w1 w5) := hide (hb.out.trans (hb45.mono (by have := hb.out.size; have := HBS.out; omega)))
                    have hbs5 : Hid (base ≤ w5.heap.size) := hide (by have := hb5.out.size; have := HBS.out; omega)
                    have HBW5 := hide (Below.all HBW.out hb45)
                    clear hb45 HZ hO hb hbs4 HBW HV
                    by_cases he : ER = 0
                    · have ge : (ER != 0) = false := by simpa using he
                      have HNX := hide (HOk2.out he)
                      subst he
                      clear HNd2 HOk2 cc
                      have hs3 : base ≤ (w5.alloc (.cells #[.int .i64 ty] 24)).heap.size := by rw [World.size_alloc]; have := hbs5.out; omega
                      have HO4 := hide (HO3.out.alloc (.cells #[.int .i64 ty] 24))
                      have hlt4 : Hid ((st.take st.length).length ≤ 1000) := hide (by rw [List.length_take]; omega)
                      go_wp2_with (refine wpList_append_rd _ rfl _ _ 25 rfl base 24 .i64 8 tysE9 (.slice (some ⟨g, 0, none⟩) st.length st.length) _ (by simp [Act.eval]) HO4.out _ [ty] rfl (rd_one _ _ _) ?b0 ?b1 hs3 ?_)
                      case b0 => have := hlt4.out; first | omega | (simp only [List.length_singleton]; omega) | (simp only [List.take_length] at *; omega) | (simp only [List.length_singleton, List.take_length] at *; omega)
                      case b1 => have := hlt4.out; unfold maxLen; first | omega | (simp only [List.length_singleton]; omega) | (simp only [List.take_length] at *; omega) | (simp only [List.length_singleton, List.take_length] at *; omega)
                      rintro v' w6 ho hg hbl -
                      have HO6 : Hid (Own w6 base 24 .i64 v' (st.take st.length ++ [ty])) := hide (by first | exact ho | simpa using ho)
                      have HB6 : Hid (Below base w1 w6) := hide ((hb5.out.alloc (by have := hb5.out.size; have := HBS.out; omega) _).trans hbl)
                      clear ho hg hbl hs3 HO4
                      go_wp2_with fail
                      go_roundw
                      case rel => exact ⟨k + 1, _, by omega, by go_num, hide (by rw [HNX.out]), HO6, hide (Nat.le_trans (snoc_len _ _ _) (Nat.succ_le_succ hl.out)), HB6⟩
                      case measure => simp [intOf]; omega
                    · have ge : (ER != 0) = true := by simpa using he
                      have h1 := HNd2.out he
                      subst h1
                      clear HNd2 HOk2 cc
                      go_wp2_with fail
                      go_ret2
                      exact ⟨rfl, HBW5.out⟩
                · have h10 : ¬ r = cs := fun h => h9 h.symm
                  as_aux_lemma =>
                    have K0 : w4.drew.cell? ⟨bX, 0, none⟩ = some (.int .i64 28) ∧ w4.drew.cell? ⟨bX, 1, none⟩ = some (.int .i64 ty) ∧ w4.drew.cell? ⟨bX, 2, none⟩ = some (.int .i64 n) ∧ w4.drew.cell? ⟨bF + 1, 0, none⟩ = some (.slice GA gn gc) ∧ w4.drew.cell? ⟨bF + 1, 1, none⟩ = some (.slice FA fs.length fc) := ⟨n0, n1, n2, m0, m1⟩
                    have cc := K0
                    go_upto_region 18 with fail
                    clear n0 n1 n2 f3 m0 m1
                    go_region_held3 (fun w' => w'.cell? ⟨bX, 0, none⟩ = some (.int .i64 28) ∧ w'.cell? ⟨bX, 1, none⟩ = some (.int .i64 ty) ∧ w'.cell? ⟨bX, 2, none⟩ = some (.int .i64 n) ∧ w'.cell? ⟨bF + 1, 0, none⟩ = some (.slice GA gn gc) ∧ w'.cell? ⟨bF + 1, 1, none⟩ = some (.slice FA fs.length fc)) (first | exact cc | exact K0)
                      (first | (go_at_call 30; refine (hop.out _ (Below.drewN' (Below.refl _ _) 1) _ (.inr (.inl ⟨g, rfl, rfl⟩))).mono ?_; rintro en w5 ⟨rfl, hb4⟩; have HZ := hide hb4; replace cc := And.intro (cell_below hb4 cc.1) (And.intro (cell_below hb4 cc.2.1) (And.intro (cell_below hb4 cc.2.2.1) (And.intro (cell_below hb4 cc.2.2.2.1) (cell_below hb4 cc.2.2.2.2)))); clear hb4))
                    have hb45 : Below w4.heap.size w4 w5 := (Below.drewN' (Below.refl _ _) 1).trans HZ.out
                    clear K0
                    clear hop
                    have HO3 := hide (hO.out.below' hb45)
                    have hb5 : Hid (Below base w1 w5) := hide (hb.out.trans (hb45.mono (by have := hb.out.size; have := HBS.out; omega)))
                    have hbs5 : Hid (base ≤ w5.heap.size) := hide (by have := hb5.out.size; have := HBS.out; omega)
                    have HBW5 := hide (Below.all HBW.out hb45)
                    clear hb45 HZ hO hb hbs4 HBW HV
                    by_cases he : ER = 0
                    · have ge : (ER != 0) = false := by simpa using he
                      have HNX := hide (HOk2.out he)
                      subst he
                      clear HNd2 HOk2 cc
                      have hs3 : base ≤ (w5.alloc (.cells #[.int .i64 ty] 24)).heap.size := by rw [World.size_alloc]; have := hbs5.out; omega
                      have HO4 := hide ((HO3.out.front (m := r) (by omega)).alloc (.cells #[.int .i64 ty] 24))
                      have hlt4 : Hid ((st.take r).length ≤ 1000) := hide (by rw [List.length_take]; omega)
                      go_wp2_with (refine wpList_append_rd _ rfl _ _ 25 rfl base 24 .i64 8 tysE9 (.slice (some ⟨g, 0, none⟩) r cs) _ (by simp [Act.eval]) HO4.out _ [ty] rfl (rd_one _ _ _) ?b0 ?b1 hs3 ?_)
                      case b0 => have := hlt4.out; first | omega | (simp only [List.length_singleton]; omega) | (simp only [List.take_length] at *; omega) | (simp only [List.length_singleton, List.take_length] at *; omega)
                      case b1 => have := hlt4.out; unfold maxLen; first | omega | (simp only [List.length_singleton]; omega) | (simp only [List.take_length] at *; omega) | (simp only [List.length_singleton, List.take_length] at *; omega)
                      rintro v' w6 ho hg hbl -
                      have HO6 : Hid (Own w6 base 24 .i64 v' (st.take r ++ [ty])) := hide (by first | exact ho | simpa using ho)
                      have HB6 : Hid (Below base w1 w6) := hide ((hb5.out.alloc (by have := hb5.out.size; have := HBS.out; omega) _).trans hbl)
                      clear ho hg hbl hs3 HO4
                      go_wp2_with fail
                      go_roundw
                      case rel => exact ⟨k + 1, _, by omega, by go_num, hide (by rw [HNX.out]), HO6, hide (Nat.le_trans (snoc_len _ _ _) (Nat.succ_le_succ hl.out)), HB6⟩
                      case measure => simp [intOf]; omega
                    · have ge : (ER != 0) = true := by simpa using he
                      have h1 := HNd2.out he
                      subst h1
                      clear HNd2 HOk2 cc
                      go_wp2_with fail
                      go_ret2
                      exact ⟨rfl, HBW5.out⟩
        | true =>
          have h0 : ¬ n = 0 := by simpa using hn
          have hfe : fldE 28 ty n rl.length gn = 3 := by simp [fldE, h0, numE]
          clear h0
          as_aux_lemma =>
            have h1 := HErr.out 3 (hfe) (by decide)
            subst h1
            clear HErr HSh HNd HOkk
            go_wp2_with fail
            go_ret2
            exact ⟨rfl, HBW.out⟩
      have g28 : (op != 28) = true := by simpa using c28
      by_cases c1 : op = 1
      · subst c1
        have hsp : specM 1 = true := rfl
        have hf : fldE 1 ty n rl.length gn = 0 := by simp [fldE, numE, show specM 1 = true by rfl]
        cases hn : (n != 0) with
        | false =>
          as_aux_lemma =>
            by_cases hlt : st.length < cntE 1 ty
            · have h1 := HSh.out hf hlt
              subst h1
              have g0 : decide ((st.length : Int) < (cntE 1 ty : Int)) = true := by simp; omega
              have g00 : decide (st.length < cntE 1 ty) = true := by simpa using hlt
              obtain ⟨cnt, hcnt⟩ : ∃ z, cntE 1 ty = z := ⟨_, rfl⟩
              rw [hcnt] at g0 g00 ⊢
              clear hcnt hlt HErr HSh HNd HOkk
              go_wp2_with (go_at_call 29; refine (rspec_any _ _).mono ?_; rintro en wn ⟨rfl, rfl⟩; rw [hsp])
              go_ret2
              exact ⟨rfl, HBW.out⟩
            · obtain ⟨r, hr⟩ : ∃ r, st.length - cntE 1 ty = r := ⟨_, rfl⟩
              have hc4 : cntE 1 ty ≤ 4 := cntE_le _ _
              obtain ⟨ts, hts⟩ : ∃ ts, st.drop r = ts := ⟨_, rfl⟩
              have htl : ts.length = st.length - r := by rw [← hts, List.length_drop]
              obtain ⟨ER, hER⟩ : ∃ z, tyE ⟨1, ty, n⟩ ts gn fs.length = z := ⟨_, rfl⟩
              have HNd2 : Hid (ER ≠ 0 → CH = (0, ER)) := hide (fun h => by
                have := HNd.out hf hlt (by decide) (by rw [hr, hts, hER]; exact h)
                rwa [hr, hts, hER] at this)
              have HOk2 : Hid (ER = 0 → runE rl gn fs.length (e.take (k + 1)) [] = (0, st.take r ++ [ty])) := hide (fun h => by
                have := HOkk.out hf hlt (.inr (by rw [hr, hts, hER]; exact h))
                rwa [hr, if_neg (by decide)] at this)
              have g0 : decide ((st.length : Int) < (cntE 1 ty : Int)) = false := by simp; omega
              have g00 : decide (st.length < cntE 1 ty) = false := by simpa using hlt
              have hs1 : IntKind.i64.wrap ((st.length : Int) - (cntE 1 ty : Int)) = (r : Int) := by rw [show (st.length : Int) - (cntE 1 ty : Int) = (r : Int) by omega]; exact IntWalk.i64_in _ (by omega)
              have hs2 : ((st.length : Int) - (cntE 1 ty : Int)) = (r : Int) := by omega
              have hrc2 : r + cntE 1 ty = st.length := by omega
              obtain ⟨cnt, hcnt⟩ : ∃ z, cntE 1 ty = z := ⟨_, rfl⟩
              rw [hcnt] at g0 g00 hs1 hs2 hrc2 hc4 ⊢
              have gr0 : (0 : Int) ≤ (r : Int) := by omega
              have gr1 : (r : Int) ≤ (st.length : Int) := by omega
              have gr2 : r ≤ st.length := by omega
              have HTS := hide hts
              have HTL := hide htl
              have HER' := hide hER
              have hop : Hid (∀ W, Below w4.heap.size w4 W → ∀ A, (A = As ∧ r = 0 ∨ (∃ b, As = some ⟨b, 0, none⟩ ∧ A = some ⟨b, r, none⟩) ∨ r = st.length) → Calls Tryd.prog 30 #[.agg #[.int .i64 1, .int .i64 ty, .int .i64 n], .slice A (st.length - r) (cs - r), .agg #[.slice GA gn gc, .slice FA fs.length fc]] W fun e w' => e = .returned (.tuple #[.int .i64 ty, .int .i64 ER]) ∧ Below W.heap.size W w') := hide (fun W hW A hA => by
                have hbW := Below.all HBW.out hW
                have hrd := (hO.out.below' hW).rd
                have hrt : Rd W .i64 (.slice A ts.length (cs - r)) ts := by
                  rw [← HTS.out]
                  rcases hA with ⟨rfl, rfl⟩ | ⟨b, rfl, rfl⟩ | h0
                  · simpa using hrd
                  · have := hrd.back (m := r) (by omega) (some ⟨b, r, none⟩) (.inl (by simp))
                    rw [List.length_drop]
                    exact this
                  · subst h0
                    rw [List.drop_length]
                    exact ⟨A, cs - st.length, rfl, by simp, by unfold maxLen; omega, fun h => absurd h (by simp)⟩
                have h := node_any ⟨1, ty, n⟩ A (cs - r) ts (by rw [HTL.out]; omega) GA FA gn gc fc fs HSP.out (by show ¬ (1 : Int) = 30; decide) W (HT.out.below hbW) (HO.out.below hbW) hrt (HFS.out.below hbW)
                rw [HTL.out, HER'.out] at h
                exact h)
              clear hr hlt hts htl hER hcnt hf HErr HSh HNd HOkk
              rcases hO.out.2 with ⟨e1, e2⟩ | ⟨g, cap, _, e1, -, -, -, -, -, -⟩
              · injection e1 with e1 e3 e4
                subst e1
                subst e4
                obtain rfl : st = [] := List.eq_nil_of_length_eq_zero e2
                obtain rfl : r = 0 := by simp at hrc2; omega
                obtain rfl : cnt = 0 := by simp at hrc2; exact hrc2
                rw [List.length_nil]
                have hsl0 : ∀ W, (Instr.slice 25 (.slice none 0 0) (some (.int .i64 0)) none none).run Tryd.prog W = .ok (.slice none 0 0) W := fun W => by kernel_rfl
                have hop3 := hide (hop.out _ (Below.drewN' (Below.refl _ _) 1) none (.inl ⟨rfl, rfl⟩))
                clear hop
                as_aux_lemma =>
                  have K0 : w4.drew.cell? ⟨bX, 0, none⟩ = some (.int .i64 1) ∧ w4.drew.cell? ⟨bX, 1, none⟩ = some (.int .i64 ty) ∧ w4.drew.cell? ⟨bX, 2, none⟩ = some (.int .i64 n) ∧ w4.drew.cell? ⟨bF + 1, 0, none⟩ = some (.slice GA gn gc) ∧ w4.drew.cell? ⟨bF + 1, 1, none⟩ = some (.slice FA fs.length fc) := ⟨n0, n1, n2, m0, m1⟩
                  have cc := K0
                  go_upto_region 18 with (go_at_call 29; refine (rspec_any _ _).mono ?_; rintro en wn ⟨rfl, rfl⟩; rw [hsp])
                  clear n0 n1 n2 f3 m0 m1
                  go_region_held3 (fun w' => w'.cell? ⟨bX, 0, none⟩ = some (.int .i64 1) ∧ w'.cell? ⟨bX, 1, none⟩ = some (.int .i64 ty) ∧ w'.cell? ⟨bX, 2, none⟩ = some (.int .i64 n) ∧ w'.cell? ⟨bF + 1, 0, none⟩ = some (.slice GA gn gc) ∧ w'.cell? ⟨bF + 1, 1, none⟩ = some (.slice FA fs.length fc)) (first | exact cc | exact K0)
                    (first | (go_at_call 30; refine (hop3.out).mono ?_; rintro en w5 ⟨rfl, hb4⟩; have HZ := hide hb4; replace cc := And.intro (cell_below hb4 cc.1) (And.intro (cell_below hb4 cc.2.1) (And.intro (cell_below hb4 cc.2.2.1) (And.intro (cell_below hb4 cc.2.2.2.1) (cell_below hb4 cc.2.2.2.2)))); clear hb4))
                  have hb45 : Below w4.heap.size w4 w5 := (Below.drewN' (Below.refl _ _) 1).trans HZ.out
                  clear K0
                  clear hop3
                  have HO3 := hide (hO.out.below' hb45)
                  have hb5 : Hid (Below base w1 w5) := hide (hb.out.trans (hb45.mono (by have := hb.out.size; have := HBS.out; omega)))
                  have hbs5 : Hid (base ≤ w5.heap.size) := hide (by have := hb5.out.size; have := HBS.out; omega)
                  have HBW5 := hide (Below.all HBW.out hb45)
                  clear hb45 HZ hO hb hbs4 HBW HV
                  by_cases he : ER = 0
                  · have ge : (ER != 0) = false := by simpa using he
                    have HNX := hide (HOk2.out he)
                    subst he
                    clear HNd2 HOk2 cc
                    have hs3 : base ≤ (w5.alloc (.cells #[.int .i64 ty] 24)).heap.size := by rw [World.size_alloc]; have := hbs5.out; omega
                    have HO4 := hide (HO3.out.alloc (.cells #[.int .i64 ty] 24))
                    have hlt4 : Hid ((([] : List Int).take 0).length ≤ 1000) := hide (by simp)
                    go_wp2_with (refine wpList_append_rd _ rfl _ _ 25 rfl base 24 .i64 8 tysE9 (.slice none 0 0) _ (by simp [Act.eval]) HO4.out _ [ty] rfl (rd_one _ _ _) ?b0 ?b1 hs3 ?_)
                    case b0 => simp
                    case b1 => simp [maxLen]
                    rintro v' w6 ho hg hbl -
                    have HO6 : Hid (Own w6 base 24 .i64 v' (([] : List Int).take 0 ++ [ty])) := hide (by first | exact ho | simpa using ho)
                    have HB6 : Hid (Below base w1 w6) := hide ((hb5.out.alloc (by have := hb5.out.size; have := HBS.out; omega) _).trans hbl)
                    clear ho hg hbl hs3 HO4
                    go_wp2_with fail
                    go_roundw
                    case rel => exact ⟨k + 1, _, by omega, by go_num, hide (by rw [HNX.out]), HO6, hide (Nat.le_trans (snoc_len _ _ _) (Nat.succ_le_succ hl.out)), HB6⟩
                    case measure => simp [intOf]; omega
                  · have ge : (ER != 0) = true := by simpa using he
                    have h1 := HNd2.out he
                    subst h1
                    clear HNd2 HOk2 cc
                    go_wp2_with fail
                    go_ret2
                    exact ⟨rfl, HBW5.out⟩
              · injection e1 with e1 e8 e9
                subst e1
                subst e9
                clear e8
                by_cases h9 : cs = r
                · obtain rfl : r = st.length := by omega
                  obtain rfl : cs = st.length := by omega
                  have hop3 : Hid (Calls Tryd.prog 30 #[.agg #[.int .i64 1, .int .i64 ty, .int .i64 n], .slice (some ⟨g, 0, none⟩) 0 0, .agg #[.slice GA gn gc, .slice FA fs.length fc]] w4.drew fun e w' => e = .returned (.tuple #[.int .i64 ty, .int .i64 ER]) ∧ Below w4.drew.heap.size w4.drew w') := hide (by
                    have h := hop.out _ (Below.drewN' (Below.refl _ _) 1) (some ⟨g, 0, none⟩) (.inr (.inr rfl))
                    rw [Nat.sub_self] at h
                    exact h)
                  clear hop
                  as_aux_lemma =>
                    have K0 : w4.drew.cell? ⟨bX, 0, none⟩ = some (.int .i64 1) ∧ w4.drew.cell? ⟨bX, 1, none⟩ = some (.int .i64 ty) ∧ w4.drew.cell? ⟨bX, 2, none⟩ = some (.int .i64 n) ∧ w4.drew.cell? ⟨bF + 1, 0, none⟩ = some (.slice GA gn gc) ∧ w4.drew.cell? ⟨bF + 1, 1, none⟩ = some (.slice FA fs.length fc) := ⟨n0, n1, n2, m0, m1⟩
                    have cc := K0
                    go_upto_region 18 with (go_at_call 29; refine (rspec_any _ _).mono ?_; rintro en wn ⟨rfl, rfl⟩; rw [hsp])
                    clear n0 n1 n2 f3 m0 m1
                    go_region_held3 (fun w' => w'.cell? ⟨bX, 0, none⟩ = some (.int .i64 1) ∧ w'.cell? ⟨bX, 1, none⟩ = some (.int .i64 ty) ∧ w'.cell? ⟨bX, 2, none⟩ = some (.int .i64 n) ∧ w'.cell? ⟨bF + 1, 0, none⟩ = some (.slice GA gn gc) ∧ w'.cell? ⟨bF + 1, 1, none⟩ = some (.slice FA fs.length fc)) (first | exact cc | exact K0)
                      (first | (go_at_call 30; refine (hop3.out).mono ?_; rintro en w5 ⟨rfl, hb4⟩; have HZ := hide hb4; replace cc := And.intro (cell_below hb4 cc.1) (And.intro (cell_below hb4 cc.2.1) (And.intro (cell_below hb4 cc.2.2.1) (And.intro (cell_below hb4 cc.2.2.2.1) (cell_below hb4 cc.2.2.2.2)))); clear hb4))
                    have hb45 : Below w4.heap.size w4 w5 := (Below.drewN' (Below.refl _ _) 1).trans HZ.out
                    clear K0
                    clear hop3
                    have HO3 := hide (hO.out.below' hb45)
                    have hb5 : Hid (Below base w1 w5) := hide (hb.out.trans (hb45.mono (by have := hb.out.size; have := HBS.out; omega)))
                    have hbs5 : Hid (base ≤ w5.heap.size) := hide (by have := hb5.out.size; have := HBS.out; omega)
                    have HBW5 := hide (Below.all HBW.out hb45)
                    clear hb45 HZ hO hb hbs4 HBW HV
                    by_cases he : ER = 0
                    · have ge : (ER != 0) = false := by simpa using he
                      have HNX := hide (HOk2.out he)
                      subst he
                      clear HNd2 HOk2 cc
                      have hs3 : base ≤ (w5.alloc (.cells #[.int .i64 ty] 24)).heap.size := by rw [World.size_alloc]; have := hbs5.out; omega
                      have HO4 := hide (HO3.out.alloc (.cells #[.int .i64 ty] 24))
                      have hlt4 : Hid ((st.take st.length).length ≤ 1000) := hide (by rw [List.length_take]; omega)
                      go_wp2_with (refine wpList_append_rd _ rfl _ _ 25 rfl base 24 .i64 8 tysE9 (.slice (some ⟨g, 0, none⟩) st.length st.length) _ (by simp [Act.eval]) HO4.out _ [ty] rfl (rd_one _ _ _) ?b0 ?b1 hs3 ?_)
                      case b0 => have := hlt4.out; first | omega | (simp only [List.length_singleton]; omega) | (simp only [List.take_length] at *; omega) | (simp only [List.length_singleton, List.take_length] at *; omega)
                      case b1 => have := hlt4.out; unfold maxLen; first | omega | (simp only [List.length_singleton]; omega) | (simp only [List.take_length] at *; omega) | (simp only [List.length_singleton, List.take_length] at *; omega)
                      rintro v' w6 ho hg hbl -
                      have HO6 : Hid (Own w6 base 24 .i64 v' (st.take st.length ++ [ty])) := hide (by first | exact ho | simpa using ho)
                      have HB6 : Hid (Below base w1 w6) := hide ((hb5.out.alloc (by have := hb5.out.size; have := HBS.out; omega) _).trans hbl)
                      clear ho hg hbl hs3 HO4
                      go_wp2_with fail
                      go_roundw
                      case rel => exact ⟨k + 1, _, by omega, by go_num, hide (by rw [HNX.out]), HO6, hide (Nat.le_trans (snoc_len _ _ _) (Nat.succ_le_succ hl.out)), HB6⟩
                      case measure => simp [intOf]; omega
                    · have ge : (ER != 0) = true := by simpa using he
                      have h1 := HNd2.out he
                      subst h1
                      clear HNd2 HOk2 cc
                      go_wp2_with fail
                      go_ret2
                      exact ⟨rfl, HBW5.out⟩
                · have h10 : ¬ r = cs := fun h => h9 h.symm
                  as_aux_lemma =>
                    have K0 : w4.drew.cell? ⟨bX, 0, none⟩ = some (.int .i64 1) ∧ w4.drew.cell? ⟨bX, 1, none⟩ = some (.int .i64 ty) ∧ w4.drew.cell? ⟨bX, 2, none⟩ = some (.int .i64 n) ∧ w4.drew.cell? ⟨bF + 1, 0, none⟩ = some (.slice GA gn gc) ∧ w4.drew.cell? ⟨bF + 1, 1, none⟩ = some (.slice FA fs.length fc) := ⟨n0, n1, n2, m0, m1⟩
                    have cc := K0
                    go_upto_region 18 with (go_at_call 29; refine (rspec_any _ _).mono ?_; rintro en wn ⟨rfl, rfl⟩; rw [hsp])
                    clear n0 n1 n2 f3 m0 m1
                    go_region_held3 (fun w' => w'.cell? ⟨bX, 0, none⟩ = some (.int .i64 1) ∧ w'.cell? ⟨bX, 1, none⟩ = some (.int .i64 ty) ∧ w'.cell? ⟨bX, 2, none⟩ = some (.int .i64 n) ∧ w'.cell? ⟨bF + 1, 0, none⟩ = some (.slice GA gn gc) ∧ w'.cell? ⟨bF + 1, 1, none⟩ = some (.slice FA fs.length fc)) (first | exact cc | exact K0)
                      (first | (go_at_call 30; refine (hop.out _ (Below.drewN' (Below.refl _ _) 1) _ (.inr (.inl ⟨g, rfl, rfl⟩))).mono ?_; rintro en w5 ⟨rfl, hb4⟩; have HZ := hide hb4; replace cc := And.intro (cell_below hb4 cc.1) (And.intro (cell_below hb4 cc.2.1) (And.intro (cell_below hb4 cc.2.2.1) (And.intro (cell_below hb4 cc.2.2.2.1) (cell_below hb4 cc.2.2.2.2)))); clear hb4))
                    have hb45 : Below w4.heap.size w4 w5 := (Below.drewN' (Below.refl _ _) 1).trans HZ.out
                    clear K0
                    clear hop
                    have HO3 := hide (hO.out.below' hb45)
                    have hb5 : Hid (Below base w1 w5) := hide (hb.out.trans (hb45.mono (by have := hb.out.size; have := HBS.out; omega)))
                    have hbs5 : Hid (base ≤ w5.heap.size) := hide (by have := hb5.out.size; have := HBS.out; omega)
                    have HBW5 := hide (Below.all HBW.out hb45)
                    clear hb45 HZ hO hb hbs4 HBW HV
                    by_cases he : ER = 0
                    · have ge : (ER != 0) = false := by simpa using he
                      have HNX := hide (HOk2.out he)
                      subst he
                      clear HNd2 HOk2 cc
                      have hs3 : base ≤ (w5.alloc (.cells #[.int .i64 ty] 24)).heap.size := by rw [World.size_alloc]; have := hbs5.out; omega
                      have HO4 := hide ((HO3.out.front (m := r) (by omega)).alloc (.cells #[.int .i64 ty] 24))
                      have hlt4 : Hid ((st.take r).length ≤ 1000) := hide (by rw [List.length_take]; omega)
                      go_wp2_with (refine wpList_append_rd _ rfl _ _ 25 rfl base 24 .i64 8 tysE9 (.slice (some ⟨g, 0, none⟩) r cs) _ (by simp [Act.eval]) HO4.out _ [ty] rfl (rd_one _ _ _) ?b0 ?b1 hs3 ?_)
                      case b0 => have := hlt4.out; first | omega | (simp only [List.length_singleton]; omega) | (simp only [List.take_length] at *; omega) | (simp only [List.length_singleton, List.take_length] at *; omega)
                      case b1 => have := hlt4.out; unfold maxLen; first | omega | (simp only [List.length_singleton]; omega) | (simp only [List.take_length] at *; omega) | (simp only [List.length_singleton, List.take_length] at *; omega)
                      rintro v' w6 ho hg hbl -
                      have HO6 : Hid (Own w6 base 24 .i64 v' (st.take r ++ [ty])) := hide (by first | exact ho | simpa using ho)
                      have HB6 : Hid (Below base w1 w6) := hide ((hb5.out.alloc (by have := hb5.out.size; have := HBS.out; omega) _).trans hbl)
                      clear ho hg hbl hs3 HO4
                      go_wp2_with fail
                      go_roundw
                      case rel => exact ⟨k + 1, _, by omega, by go_num, hide (by rw [HNX.out]), HO6, hide (Nat.le_trans (snoc_len _ _ _) (Nat.succ_le_succ hl.out)), HB6⟩
                      case measure => simp [intOf]; omega
                    · have ge : (ER != 0) = true := by simpa using he
                      have h1 := HNd2.out he
                      subst h1
                      clear HNd2 HOk2 cc
                      go_wp2_with fail
                      go_ret2
                      exact ⟨rfl, HBW5.out⟩
        | true =>
          as_aux_lemma =>
            by_cases hlt : st.length < cntE 1 ty
            · have h1 := HSh.out hf hlt
              subst h1
              have g0 : decide ((st.length : Int) < (cntE 1 ty : Int)) = true := by simp; omega
              have g00 : decide (st.length < cntE 1 ty) = true := by simpa using hlt
              obtain ⟨cnt, hcnt⟩ : ∃ z, cntE 1 ty = z := ⟨_, rfl⟩
              rw [hcnt] at g0 g00 ⊢
              clear hcnt hlt HErr HSh HNd HOkk
              go_wp2_with (go_at_call 29; refine (rspec_any _ _).mono ?_; rintro en wn ⟨rfl, rfl⟩; rw [hsp])
              go_ret2
              exact ⟨rfl, HBW.out⟩
            · obtain ⟨r, hr⟩ : ∃ r, st.length - cntE 1 ty = r := ⟨_, rfl⟩
              have hc4 : cntE 1 ty ≤ 4 := cntE_le _ _
              obtain ⟨ts, hts⟩ : ∃ ts, st.drop r = ts := ⟨_, rfl⟩
              have htl : ts.length = st.length - r := by rw [← hts, List.length_drop]
              obtain ⟨ER, hER⟩ : ∃ z, tyE ⟨1, ty, n⟩ ts gn fs.length = z := ⟨_, rfl⟩
              have HNd2 : Hid (ER ≠ 0 → CH = (0, ER)) := hide (fun h => by
                have := HNd.out hf hlt (by decide) (by rw [hr, hts, hER]; exact h)
                rwa [hr, hts, hER] at this)
              have HOk2 : Hid (ER = 0 → runE rl gn fs.length (e.take (k + 1)) [] = (0, st.take r ++ [ty])) := hide (fun h => by
                have := HOkk.out hf hlt (.inr (by rw [hr, hts, hER]; exact h))
                rwa [hr, if_neg (by decide)] at this)
              have g0 : decide ((st.length : Int) < (cntE 1 ty : Int)) = false := by simp; omega
              have g00 : decide (st.length < cntE 1 ty) = false := by simpa using hlt
              have hs1 : IntKind.i64.wrap ((st.length : Int) - (cntE 1 ty : Int)) = (r : Int) := by rw [show (st.length : Int) - (cntE 1 ty : Int) = (r : Int) by omega]; exact IntWalk.i64_in _ (by omega)
              have hs2 : ((st.length : Int) - (cntE 1 ty : Int)) = (r : Int) := by omega
              have hrc2 : r + cntE 1 ty = st.length := by omega
              obtain ⟨cnt, hcnt⟩ : ∃ z, cntE 1 ty = z := ⟨_, rfl⟩
              rw [hcnt] at g0 g00 hs1 hs2 hrc2 hc4 ⊢
              have gr0 : (0 : Int) ≤ (r : Int) := by omega
              have gr1 : (r : Int) ≤ (st.length : Int) := by omega
              have gr2 : r ≤ st.length := by omega
              have HTS := hide hts
              have HTL := hide htl
              have HER' := hide hER
              have hop : Hid (∀ W, Below w4.heap.size w4 W → ∀ A, (A = As ∧ r = 0 ∨ (∃ b, As = some ⟨b, 0, none⟩ ∧ A = some ⟨b, r, none⟩) ∨ r = st.length) → Calls Tryd.prog 30 #[.agg #[.int .i64 1, .int .i64 ty, .int .i64 n], .slice A (st.length - r) (cs - r), .agg #[.slice GA gn gc, .slice FA fs.length fc]] W fun e w' => e = .returned (.tuple #[.int .i64 ty, .int .i64 ER]) ∧ Below W.heap.size W w') := hide (fun W hW A hA => by
                have hbW := Below.all HBW.out hW
                have hrd := (hO.out.below' hW).rd
                have hrt : Rd W .i64 (.slice A ts.length (cs - r)) ts := by
                  rw [← HTS.out]
                  rcases hA with ⟨rfl, rfl⟩ | ⟨b, rfl, rfl⟩ | h0
                  · simpa using hrd
                  · have := hrd.back (m := r) (by omega) (some ⟨b, r, none⟩) (.inl (by simp))
                    rw [List.length_drop]
                    exact this
                  · subst h0
                    rw [List.drop_length]
                    exact ⟨A, cs - st.length, rfl, by simp, by unfold maxLen; omega, fun h => absurd h (by simp)⟩
                have h := node_any ⟨1, ty, n⟩ A (cs - r) ts (by rw [HTL.out]; omega) GA FA gn gc fc fs HSP.out (by show ¬ (1 : Int) = 30; decide) W (HT.out.below hbW) (HO.out.below hbW) hrt (HFS.out.below hbW)
                rw [HTL.out, HER'.out] at h
                exact h)
              clear hr hlt hts htl hER hcnt hf HErr HSh HNd HOkk
              rcases hO.out.2 with ⟨e1, e2⟩ | ⟨g, cap, _, e1, -, -, -, -, -, -⟩
              · injection e1 with e1 e3 e4
                subst e1
                subst e4
                obtain rfl : st = [] := List.eq_nil_of_length_eq_zero e2
                obtain rfl : r = 0 := by simp at hrc2; omega
                obtain rfl : cnt = 0 := by simp at hrc2; exact hrc2
                rw [List.length_nil]
                have hsl0 : ∀ W, (Instr.slice 25 (.slice none 0 0) (some (.int .i64 0)) none none).run Tryd.prog W = .ok (.slice none 0 0) W := fun W => by kernel_rfl
                have hop3 := hide (hop.out _ (Below.drewN' (Below.refl _ _) 1) none (.inl ⟨rfl, rfl⟩))
                clear hop
                as_aux_lemma =>
                  have K0 : w4.drew.cell? ⟨bX, 0, none⟩ = some (.int .i64 1) ∧ w4.drew.cell? ⟨bX, 1, none⟩ = some (.int .i64 ty) ∧ w4.drew.cell? ⟨bX, 2, none⟩ = some (.int .i64 n) ∧ w4.drew.cell? ⟨bF + 1, 0, none⟩ = some (.slice GA gn gc) ∧ w4.drew.cell? ⟨bF + 1, 1, none⟩ = some (.slice FA fs.length fc) := ⟨n0, n1, n2, m0, m1⟩
                  have cc := K0
                  go_upto_region 18 with (go_at_call 29; refine (rspec_any _ _).mono ?_; rintro en wn ⟨rfl, rfl⟩; rw [hsp])
                  clear n0 n1 n2 f3 m0 m1
                  go_region_held3 (fun w' => w'.cell? ⟨bX, 0, none⟩ = some (.int .i64 1) ∧ w'.cell? ⟨bX, 1, none⟩ = some (.int .i64 ty) ∧ w'.cell? ⟨bX, 2, none⟩ = some (.int .i64 n) ∧ w'.cell? ⟨bF + 1, 0, none⟩ = some (.slice GA gn gc) ∧ w'.cell? ⟨bF + 1, 1, none⟩ = some (.slice FA fs.length fc)) (first | exact cc | exact K0)
                    (first | (go_at_call 30; refine (hop3.out).mono ?_; rintro en w5 ⟨rfl, hb4⟩; have HZ := hide hb4; replace cc := And.intro (cell_below hb4 cc.1) (And.intro (cell_below hb4 cc.2.1) (And.intro (cell_below hb4 cc.2.2.1) (And.intro (cell_below hb4 cc.2.2.2.1) (cell_below hb4 cc.2.2.2.2)))); clear hb4))
                  have hb45 : Below w4.heap.size w4 w5 := (Below.drewN' (Below.refl _ _) 1).trans HZ.out
                  clear K0
                  clear hop3
                  have HO3 := hide (hO.out.below' hb45)
                  have hb5 : Hid (Below base w1 w5) := hide (hb.out.trans (hb45.mono (by have := hb.out.size; have := HBS.out; omega)))
                  have hbs5 : Hid (base ≤ w5.heap.size) := hide (by have := hb5.out.size; have := HBS.out; omega)
                  have HBW5 := hide (Below.all HBW.out hb45)
                  clear hb45 HZ hO hb hbs4 HBW HV
                  by_cases he : ER = 0
                  · have ge : (ER != 0) = false := by simpa using he
                    have HNX := hide (HOk2.out he)
                    subst he
                    clear HNd2 HOk2 cc
                    have hs3 : base ≤ (w5.alloc (.cells #[.int .i64 ty] 24)).heap.size := by rw [World.size_alloc]; have := hbs5.out; omega
                    have HO4 := hide (HO3.out.alloc (.cells #[.int .i64 ty] 24))
                    have hlt4 : Hid ((([] : List Int).take 0).length ≤ 1000) := hide (by simp)
                    go_wp2_with (refine wpList_append_rd _ rfl _ _ 25 rfl base 24 .i64 8 tysE9 (.slice none 0 0) _ (by simp [Act.eval]) HO4.out _ [ty] rfl (rd_one _ _ _) ?b0 ?b1 hs3 ?_)
                    case b0 => simp
                    case b1 => simp [maxLen]
                    rintro v' w6 ho hg hbl -
                    have HO6 : Hid (Own w6 base 24 .i64 v' (([] : List Int).take 0 ++ [ty])) := hide (by first | exact ho | simpa using ho)
                    have HB6 : Hid (Below base w1 w6) := hide ((hb5.out.alloc (by have := hb5.out.size; have := HBS.out; omega) _).trans hbl)
                    clear ho hg hbl hs3 HO4
                    go_wp2_with fail
                    go_roundw
                    case rel => exact ⟨k + 1, _, by omega, by go_num, hide (by rw [HNX.out]), HO6, hide (Nat.le_trans (snoc_len _ _ _) (Nat.succ_le_succ hl.out)), HB6⟩
                    case measure => simp [intOf]; omega
                  · have ge : (ER != 0) = true := by simpa using he
                    have h1 := HNd2.out he
                    subst h1
                    clear HNd2 HOk2 cc
                    go_wp2_with fail
                    go_ret2
                    exact ⟨rfl, HBW5.out⟩
              · injection e1 with e1 e8 e9
                subst e1
                subst e9
                clear e8
                by_cases h9 : cs = r
                · obtain rfl : r = st.length := by omega
                  obtain rfl : cs = st.length := by omega
                  have hop3 : Hid (Calls Tryd.prog 30 #[.agg #[.int .i64 1, .int .i64 ty, .int .i64 n], .slice (some ⟨g, 0, none⟩) 0 0, .agg #[.slice GA gn gc, .slice FA fs.length fc]] w4.drew fun e w' => e = .returned (.tuple #[.int .i64 ty, .int .i64 ER]) ∧ Below w4.drew.heap.size w4.drew w') := hide (by
                    have h := hop.out _ (Below.drewN' (Below.refl _ _) 1) (some ⟨g, 0, none⟩) (.inr (.inr rfl))
                    rw [Nat.sub_self] at h
                    exact h)
                  clear hop
                  as_aux_lemma =>
                    have K0 : w4.drew.cell? ⟨bX, 0, none⟩ = some (.int .i64 1) ∧ w4.drew.cell? ⟨bX, 1, none⟩ = some (.int .i64 ty) ∧ w4.drew.cell? ⟨bX, 2, none⟩ = some (.int .i64 n) ∧ w4.drew.cell? ⟨bF + 1, 0, none⟩ = some (.slice GA gn gc) ∧ w4.drew.cell? ⟨bF + 1, 1, none⟩ = some (.slice FA fs.length fc) := ⟨n0, n1, n2, m0, m1⟩
                    have cc := K0
                    go_upto_region 18 with (go_at_call 29; refine (rspec_any _ _).mono ?_; rintro en wn ⟨rfl, rfl⟩; rw [hsp])
                    clear n0 n1 n2 f3 m0 m1
                    go_region_held3 (fun w' => w'.cell? ⟨bX, 0, none⟩ = some (.int .i64 1) ∧ w'.cell? ⟨bX, 1, none⟩ = some (.int .i64 ty) ∧ w'.cell? ⟨bX, 2, none⟩ = some (.int .i64 n) ∧ w'.cell? ⟨bF + 1, 0, none⟩ = some (.slice GA gn gc) ∧ w'.cell? ⟨bF + 1, 1, none⟩ = some (.slice FA fs.length fc)) (first | exact cc | exact K0)
                      (first | (go_at_call 30; refine (hop3.out).mono ?_; rintro en w5 ⟨rfl, hb4⟩; have HZ := hide hb4; replace cc := And.intro (cell_below hb4 cc.1) (And.intro (cell_below hb4 cc.2.1) (And.intro (cell_below hb4 cc.2.2.1) (And.intro (cell_below hb4 cc.2.2.2.1) (cell_below hb4 cc.2.2.2.2)))); clear hb4))
                    have hb45 : Below w4.heap.size w4 w5 := (Below.drewN' (Below.refl _ _) 1).trans HZ.out
                    clear K0
                    clear hop3
                    have HO3 := hide (hO.out.below' hb45)
                    have hb5 : Hid (Below base w1 w5) := hide (hb.out.trans (hb45.mono (by have := hb.out.size; have := HBS.out; omega)))
                    have hbs5 : Hid (base ≤ w5.heap.size) := hide (by have := hb5.out.size; have := HBS.out; omega)
                    have HBW5 := hide (Below.all HBW.out hb45)
                    clear hb45 HZ hO hb hbs4 HBW HV
                    by_cases he : ER = 0
                    · have ge : (ER != 0) = false := by simpa using he
                      have HNX := hide (HOk2.out he)
                      subst he
                      clear HNd2 HOk2 cc
                      have hs3 : base ≤ (w5.alloc (.cells #[.int .i64 ty] 24)).heap.size := by rw [World.size_alloc]; have := hbs5.out; omega
                      have HO4 := hide (HO3.out.alloc (.cells #[.int .i64 ty] 24))
                      have hlt4 : Hid ((st.take st.length).length ≤ 1000) := hide (by rw [List.length_take]; omega)
                      go_wp2_with (refine wpList_append_rd _ rfl _ _ 25 rfl base 24 .i64 8 tysE9 (.slice (some ⟨g, 0, none⟩) st.length st.length) _ (by simp [Act.eval]) HO4.out _ [ty] rfl (rd_one _ _ _) ?b0 ?b1 hs3 ?_)
                      case b0 => have := hlt4.out; first | omega | (simp only [List.length_singleton]; omega) | (simp only [List.take_length] at *; omega) | (simp only [List.length_singleton, List.take_length] at *; omega)
                      case b1 => have := hlt4.out; unfold maxLen; first | omega | (simp only [List.length_singleton]; omega) | (simp only [List.take_length] at *; omega) | (simp only [List.length_singleton, List.take_length] at *; omega)
                      rintro v' w6 ho hg hbl -
                      have HO6 : Hid (Own w6 base 24 .i64 v' (st.take st.length ++ [ty])) := hide (by first | exact ho | simpa using ho)
                      have HB6 : Hid (Below base w1 w6) := hide ((hb5.out.alloc (by have := hb5.out.size; have := HBS.out; omega) _).trans hbl)
                      clear ho hg hbl hs3 HO4
                      go_wp2_with fail
                      go_roundw
                      case rel => exact ⟨k + 1, _, by omega, by go_num, hide (by rw [HNX.out]), HO6, hide (Nat.le_trans (snoc_len _ _ _) (Nat.succ_le_succ hl.out)), HB6⟩
                      case measure => simp [intOf]; omega
                    · have ge : (ER != 0) = true := by simpa using he
                      have h1 := HNd2.out he
                      subst h1
                      clear HNd2 HOk2 cc
                      go_wp2_with fail
                      go_ret2
                      exact ⟨rfl, HBW5.out⟩
                · have h10 : ¬ r = cs := fun h => h9 h.symm
                  as_aux_lemma =>
                    have K0 : w4.drew.cell? ⟨bX, 0, none⟩ = some (.int .i64 1) ∧ w4.drew.cell? ⟨bX, 1, none⟩ = some (.int .i64 ty) ∧ w4.drew.cell? ⟨bX, 2, none⟩ = some (.int .i64 n) ∧ w4.drew.cell? ⟨bF + 1, 0, none⟩ = some (.slice GA gn gc) ∧ w4.drew.cell? ⟨bF + 1, 1, none⟩ = some (.slice FA fs.length fc) := ⟨n0, n1, n2, m0, m1⟩
                    have cc := K0
                    go_upto_region 18 with (go_at_call 29; refine (rspec_any _ _).mono ?_; rintro en wn ⟨rfl, rfl⟩; rw [hsp])
                    clear n0 n1 n2 f3 m0 m1
                    go_region_held3 (fun w' => w'.cell? ⟨bX, 0, none⟩ = some (.int .i64 1) ∧ w'.cell? ⟨bX, 1, none⟩ = some (.int .i64 ty) ∧ w'.cell? ⟨bX, 2, none⟩ = some (.int .i64 n) ∧ w'.cell? ⟨bF + 1, 0, none⟩ = some (.slice GA gn gc) ∧ w'.cell? ⟨bF + 1, 1, none⟩ = some (.slice FA fs.length fc)) (first | exact cc | exact K0)
                      (first | (go_at_call 30; refine (hop.out _ (Below.drewN' (Below.refl _ _) 1) _ (.inr (.inl ⟨g, rfl, rfl⟩))).mono ?_; rintro en w5 ⟨rfl, hb4⟩; have HZ := hide hb4; replace cc := And.intro (cell_below hb4 cc.1) (And.intro (cell_below hb4 cc.2.1) (And.intro (cell_below hb4 cc.2.2.1) (And.intro (cell_below hb4 cc.2.2.2.1) (cell_below hb4 cc.2.2.2.2)))); clear hb4))
                    have hb45 : Below w4.heap.size w4 w5 := (Below.drewN' (Below.refl _ _) 1).trans HZ.out
                    clear K0
                    clear hop
                    have HO3 := hide (hO.out.below' hb45)
                    have hb5 : Hid (Below base w1 w5) := hide (hb.out.trans (hb45.mono (by have := hb.out.size; have := HBS.out; omega)))
                    have hbs5 : Hid (base ≤ w5.heap.size) := hide (by have := hb5.out.size; have := HBS.out; omega)
                    have HBW5 := hide (Below.all HBW.out hb45)
                    clear hb45 HZ hO hb hbs4 HBW HV
                    by_cases he : ER = 0
                    · have ge : (ER != 0) = false := by simpa using he
                      have HNX := hide (HOk2.out he)
                      subst he
                      clear HNd2 HOk2 cc
                      have hs3 : base ≤ (w5.alloc (.cells #[.int .i64 ty] 24)).heap.size := by rw [World.size_alloc]; have := hbs5.out; omega
                      have HO4 := hide ((HO3.out.front (m := r) (by omega)).alloc (.cells #[.int .i64 ty] 24))
                      have hlt4 : Hid ((st.take r).length ≤ 1000) := hide (by rw [List.length_take]; omega)
                      go_wp2_with (refine wpList_append_rd _ rfl _ _ 25 rfl base 24 .i64 8 tysE9 (.slice (some ⟨g, 0, none⟩) r cs) _ (by simp [Act.eval]) HO4.out _ [ty] rfl (rd_one _ _ _) ?b0 ?b1 hs3 ?_)
                      case b0 => have := hlt4.out; first | omega | (simp only [List.length_singleton]; omega) | (simp only [List.take_length] at *; omega) | (simp only [List.length_singleton, List.take_length] at *; omega)
                      case b1 => have := hlt4.out; unfold maxLen; first | omega | (simp only [List.length_singleton]; omega) | (simp only [List.take_length] at *; omega) | (simp only [List.length_singleton, List.take_length] at *; omega)
                      rintro v' w6 ho hg hbl -
                      have HO6 : Hid (Own w6 base 24 .i64 v' (st.take r ++ [ty])) := hide (by first | exact ho | simpa using ho)
                      have HB6 : Hid (Below base w1 w6) := hide ((hb5.out.alloc (by have := hb5.out.size; have := HBS.out; omega) _).trans hbl)
                      clear ho hg hbl hs3 HO4
                      go_wp2_with fail
                      go_roundw
                      case rel => exact ⟨k + 1, _, by omega, by go_num, hide (by rw [HNX.out]), HO6, hide (Nat.le_trans (snoc_len _ _ _) (Nat.succ_le_succ hl.out)), HB6⟩
                      case measure => simp [intOf]; omega
                    · have ge : (ER != 0) = true := by simpa using he
                      have h1 := HNd2.out he
                      subst h1
                      clear HNd2 HOk2 cc
                      go_wp2_with fail
                      go_ret2
                      exact ⟨rfl, HBW5.out⟩
      by_cases c33 : op = 33
      · subst c33
        have hsp : specM 33 = true := rfl
        have hf : fldE 33 ty n rl.length gn = 0 := by simp [fldE, numE, show specM 33 = true by rfl]
        cases hn : (n != 0) with
        | false =>
          as_aux_lemma =>
            by_cases hlt : st.length < cntE 33 ty
            · have h1 := HSh.out hf hlt
              subst h1
              have g0 : decide ((st.length : Int) < (cntE 33 ty : Int)) = true := by simp; omega
              have g00 : decide (st.length < cntE 33 ty) = true := by simpa using hlt
              obtain ⟨cnt, hcnt⟩ : ∃ z, cntE 33 ty = z := ⟨_, rfl⟩
              rw [hcnt] at g0 g00 ⊢
              clear hcnt hlt HErr HSh HNd HOkk
              go_wp2_with (go_at_call 29; refine (rspec_any _ _).mono ?_; rintro en wn ⟨rfl, rfl⟩; rw [hsp])
              go_ret2
              exact ⟨rfl, HBW.out⟩
            · obtain ⟨r, hr⟩ : ∃ r, st.length - cntE 33 ty = r := ⟨_, rfl⟩
              have hc4 : cntE 33 ty ≤ 4 := cntE_le _ _
              obtain ⟨ts, hts⟩ : ∃ ts, st.drop r = ts := ⟨_, rfl⟩
              have htl : ts.length = st.length - r := by rw [← hts, List.length_drop]
              obtain ⟨ER, hER⟩ : ∃ z, tyE ⟨33, ty, n⟩ ts gn fs.length = z := ⟨_, rfl⟩
              have HNd2 : Hid (ER ≠ 0 → CH = (0, ER)) := hide (fun h => by
                have := HNd.out hf hlt (by decide) (by rw [hr, hts, hER]; exact h)
                rwa [hr, hts, hER] at this)
              have HOk2 : Hid (ER = 0 → runE rl gn fs.length (e.take (k + 1)) [] = (0, st.take r ++ [ty])) := hide (fun h => by
                have := HOkk.out hf hlt (.inr (by rw [hr, hts, hER]; exact h))
                rwa [hr, if_neg (by decide)] at this)
              have g0 : decide ((st.length : Int) < (cntE 33 ty : Int)) = false := by simp; omega
              have g00 : decide (st.length < cntE 33 ty) = false := by simpa using hlt
              have hs1 : IntKind.i64.wrap ((st.length : Int) - (cntE 33 ty : Int)) = (r : Int) := by rw [show (st.length : Int) - (cntE 33 ty : Int) = (r : Int) by omega]; exact IntWalk.i64_in _ (by omega)
              have hs2 : ((st.length : Int) - (cntE 33 ty : Int)) = (r : Int) := by omega
              have hrc2 : r + cntE 33 ty = st.length := by omega
              obtain ⟨cnt, hcnt⟩ : ∃ z, cntE 33 ty = z := ⟨_, rfl⟩
              rw [hcnt] at g0 g00 hs1 hs2 hrc2 hc4 ⊢
              have gr0 : (0 : Int) ≤ (r : Int) := by omega
              have gr1 : (r : Int) ≤ (st.length : Int) := by omega
              have gr2 : r ≤ st.length := by omega
              have HTS := hide hts
              have HTL := hide htl
              have HER' := hide hER
              have hop : Hid (∀ W, Below w4.heap.size w4 W → ∀ A, (A = As ∧ r = 0 ∨ (∃ b, As = some ⟨b, 0, none⟩ ∧ A = some ⟨b, r, none⟩) ∨ r = st.length) → Calls Tryd.prog 30 #[.agg #[.int .i64 33, .int .i64 ty, .int .i64 n], .slice A (st.length - r) (cs - r), .agg #[.slice GA gn gc, .slice FA fs.length fc]] W fun e w' => e = .returned (.tuple #[.int .i64 ty, .int .i64 ER]) ∧ Below W.heap.size W w') := hide (fun W hW A hA => by
                have hbW := Below.all HBW.out hW
                have hrd := (hO.out.below' hW).rd
                have hrt : Rd W .i64 (.slice A ts.length (cs - r)) ts := by
                  rw [← HTS.out]
                  rcases hA with ⟨rfl, rfl⟩ | ⟨b, rfl, rfl⟩ | h0
                  · simpa using hrd
                  · have := hrd.back (m := r) (by omega) (some ⟨b, r, none⟩) (.inl (by simp))
                    rw [List.length_drop]
                    exact this
                  · subst h0
                    rw [List.drop_length]
                    exact ⟨A, cs - st.length, rfl, by simp, by unfold maxLen; omega, fun h => absurd h (by simp)⟩
                have h := node_any ⟨33, ty, n⟩ A (cs - r) ts (by rw [HTL.out]; omega) GA FA gn gc fc fs HSP.out (by show ¬ (33 : Int) = 30; decide) W (HT.out.below hbW) (HO.out.below hbW) hrt (HFS.out.below hbW)
                rw [HTL.out, HER'.out] at h
                exact h)
              clear hr hlt hts htl hER hcnt hf HErr HSh HNd HOkk
              rcases hO.out.2 with ⟨e1, e2⟩ | ⟨g, cap, _, e1, -, -, -, -, -, -⟩
              · injection e1 with e1 e3 e4
                subst e1
                subst e4
                obtain rfl : st = [] := List.eq_nil_of_length_eq_zero e2
                obtain rfl : r = 0 := by simp at hrc2; omega
                obtain rfl : cnt = 0 := by simp at hrc2; exact hrc2
                rw [List.length_nil]
                have hsl0 : ∀ W, (Instr.slice 25 (.slice none 0 0) (some (.int .i64 0)) none none).run Tryd.prog W = .ok (.slice none 0 0) W := fun W => by kernel_rfl
                have hop3 := hide (hop.out _ (Below.drewN' (Below.refl _ _) 1) none (.inl ⟨rfl, rfl⟩))
                clear hop
                as_aux_lemma =>
                  have K0 : w4.drew.cell? ⟨bX, 0, none⟩ = some (.int .i64 33) ∧ w4.drew.cell? ⟨bX, 1, none⟩ = some (.int .i64 ty) ∧ w4.drew.cell? ⟨bX, 2, none⟩ = some (.int .i64 n) ∧ w4.drew.cell? ⟨bF + 1, 0, none⟩ = some (.slice GA gn gc) ∧ w4.drew.cell? ⟨bF + 1, 1, none⟩ = some (.slice FA fs.length fc) := ⟨n0, n1, n2, m0, m1⟩
                  have cc := K0
                  go_upto_region 18 with (go_at_call 29; refine (rspec_any _ _).mono ?_; rintro en wn ⟨rfl, rfl⟩; rw [hsp])
                  clear n0 n1 n2 f3 m0 m1
                  go_region_held3 (fun w' => w'.cell? ⟨bX, 0, none⟩ = some (.int .i64 33) ∧ w'.cell? ⟨bX, 1, none⟩ = some (.int .i64 ty) ∧ w'.cell? ⟨bX, 2, none⟩ = some (.int .i64 n) ∧ w'.cell? ⟨bF + 1, 0, none⟩ = some (.slice GA gn gc) ∧ w'.cell? ⟨bF + 1, 1, none⟩ = some (.slice FA fs.length fc)) (first | exact cc | exact K0)
                    (first | (go_at_call 30; refine (hop3.out).mono ?_; rintro en w5 ⟨rfl, hb4⟩; have HZ := hide hb4; replace cc := And.intro (cell_below hb4 cc.1) (And.intro (cell_below hb4 cc.2.1) (And.intro (cell_below hb4 cc.2.2.1) (And.intro (cell_below hb4 cc.2.2.2.1) (cell_below hb4 cc.2.2.2.2)))); clear hb4))
                  have hb45 : Below w4.heap.size w4 w5 := (Below.drewN' (Below.refl _ _) 1).trans HZ.out
                  clear K0
                  clear hop3
                  have HO3 := hide (hO.out.below' hb45)
                  have hb5 : Hid (Below base w1 w5) := hide (hb.out.trans (hb45.mono (by have := hb.out.size; have := HBS.out; omega)))
                  have hbs5 : Hid (base ≤ w5.heap.size) := hide (by have := hb5.out.size; have := HBS.out; omega)
                  have HBW5 := hide (Below.all HBW.out hb45)
                  clear hb45 HZ hO hb hbs4 HBW HV
                  by_cases he : ER = 0
                  · have ge : (ER != 0) = false := by simpa using he
                    have HNX := hide (HOk2.out he)
                    subst he
                    clear HNd2 HOk2 cc
                    have hs3 : base ≤ (w5.alloc (.cells #[.int .i64 ty] 24)).heap.size := by rw [World.size_alloc]; have := hbs5.out; omega
                    have HO4 := hide (HO3.out.alloc (.cells #[.int .i64 ty] 24))
                    have hlt4 : Hid ((([] : List Int).take 0).length ≤ 1000) := hide (by simp)
                    go_wp2_with (refine wpList_append_rd _ rfl _ _ 25 rfl base 24 .i64 8 tysE9 (.slice none 0 0) _ (by simp [Act.eval]) HO4.out _ [ty] rfl (rd_one _ _ _) ?b0 ?b1 hs3 ?_)
                    case b0 => simp
                    case b1 => simp [maxLen]
                    rintro v' w6 ho hg hbl -
                    have HO6 : Hid (Own w6 base 24 .i64 v' (([] : List Int).take 0 ++ [ty])) := hide (by first | exact ho | simpa using ho)
                    have HB6 : Hid (Below base w1 w6) := hide ((hb5.out.alloc (by have := hb5.out.size; have := HBS.out; omega) _).trans hbl)
                    clear ho hg hbl hs3 HO4
                    go_wp2_with fail
                    go_roundw
                    case rel => exact ⟨k + 1, _, by omega, by go_num, hide (by rw [HNX.out]), HO6, hide (Nat.le_trans (snoc_len _ _ _) (Nat.succ_le_succ hl.out)), HB6⟩
                    case measure => simp [intOf]; omega
                  · have ge : (ER != 0) = true := by simpa using he
                    have h1 := HNd2.out he
                    subst h1
                    clear HNd2 HOk2 cc
                    go_wp2_with fail
                    go_ret2
                    exact ⟨rfl, HBW5.out⟩
              · injection e1 with e1 e8 e9
                subst e1
                subst e9
                clear e8
                by_cases h9 : cs = r
                · obtain rfl : r = st.length := by omega
                  obtain rfl : cs = st.length := by omega
                  have hop3 : Hid (Calls Tryd.prog 30 #[.agg #[.int .i64 33, .int .i64 ty, .int .i64 n], .slice (some ⟨g, 0, none⟩) 0 0, .agg #[.slice GA gn gc, .slice FA fs.length fc]] w4.drew fun e w' => e = .returned (.tuple #[.int .i64 ty, .int .i64 ER]) ∧ Below w4.drew.heap.size w4.drew w') := hide (by
                    have h := hop.out _ (Below.drewN' (Below.refl _ _) 1) (some ⟨g, 0, none⟩) (.inr (.inr rfl))
                    rw [Nat.sub_self] at h
                    exact h)
                  clear hop
                  as_aux_lemma =>
                    have K0 : w4.drew.cell? ⟨bX, 0, none⟩ = some (.int .i64 33) ∧ w4.drew.cell? ⟨bX, 1, none⟩ = some (.int .i64 ty) ∧ w4.drew.cell? ⟨bX, 2, none⟩ = some (.int .i64 n) ∧ w4.drew.cell? ⟨bF + 1, 0, none⟩ = some (.slice GA gn gc) ∧ w4.drew.cell? ⟨bF + 1, 1, none⟩ = some (.slice FA fs.length fc) := ⟨n0, n1, n2, m0, m1⟩
                    have cc := K0
                    go_upto_region 18 with (go_at_call 29; refine (rspec_any _ _).mono ?_; rintro en wn ⟨rfl, rfl⟩; rw [hsp])
                    clear n0 n1 n2 f3 m0 m1
                    go_region_held3 (fun w' => w'.cell? ⟨bX, 0, none⟩ = some (.int .i64 33) ∧ w'.cell? ⟨bX, 1, none⟩ = some (.int .i64 ty) ∧ w'.cell? ⟨bX, 2, none⟩ = some (.int .i64 n) ∧ w'.cell? ⟨bF + 1, 0, none⟩ = some (.slice GA gn gc) ∧ w'.cell? ⟨bF + 1, 1, none⟩ = some (.slice FA fs.length fc)) (first | exact cc | exact K0)
                      (first | (go_at_call 30; refine (hop3.out).mono ?_; rintro en w5 ⟨rfl, hb4⟩; have HZ := hide hb4; replace cc := And.intro (cell_below hb4 cc.1) (And.intro (cell_below hb4 cc.2.1) (And.intro (cell_below hb4 cc.2.2.1) (And.intro (cell_below hb4 cc.2.2.2.1) (cell_below hb4 cc.2.2.2.2)))); clear hb4))
                    have hb45 : Below w4.heap.size w4 w5 := (Below.drewN' (Below.refl _ _) 1).trans HZ.out
                    clear K0
                    clear hop3
                    have HO3 := hide (hO.out.below' hb45)
                    have hb5 : Hid (Below base w1 w5) := hide (hb.out.trans (hb45.mono (by have := hb.out.size; have := HBS.out; omega)))
                    have hbs5 : Hid (base ≤ w5.heap.size) := hide (by have := hb5.out.size; have := HBS.out; omega)
                    have HBW5 := hide (Below.all HBW.out hb45)
                    clear hb45 HZ hO hb hbs4 HBW HV
                    by_cases he : ER = 0
                    · have ge : (ER != 0) = false := by simpa using he
                      have HNX := hide (HOk2.out he)
                      subst he
                      clear HNd2 HOk2 cc
                      have hs3 : base ≤ (w5.alloc (.cells #[.int .i64 ty] 24)).heap.size := by rw [World.size_alloc]; have := hbs5.out; omega
                      have HO4 := hide (HO3.out.alloc (.cells #[.int .i64 ty] 24))
                      have hlt4 : Hid ((st.take st.length).length ≤ 1000) := hide (by rw [List.length_take]; omega)
                      go_wp2_with (refine wpList_append_rd _ rfl _ _ 25 rfl base 24 .i64 8 tysE9 (.slice (some ⟨g, 0, none⟩) st.length st.length) _ (by simp [Act.eval]) HO4.out _ [ty] rfl (rd_one _ _ _) ?b0 ?b1 hs3 ?_)
                      case b0 => have := hlt4.out; first | omega | (simp only [List.length_singleton]; omega) | (simp only [List.take_length] at *; omega) | (simp only [List.length_singleton, List.take_length] at *; omega)
                      case b1 => have := hlt4.out; unfold maxLen; first | omega | (simp only [List.length_singleton]; omega) | (simp only [List.take_length] at *; omega) | (simp only [List.length_singleton, List.take_length] at *; omega)
                      rintro v' w6 ho hg hbl -
                      have HO6 : Hid (Own w6 base 24 .i64 v' (st.take st.length ++ [ty])) := hide (by first | exact ho | simpa using ho)
                      have HB6 : Hid (Below base w1 w6) := hide ((hb5.out.alloc (by have := hb5.out.size; have := HBS.out; omega) _).trans hbl)
                      clear ho hg hbl hs3 HO4
                      go_wp2_with fail
                      go_roundw
                      case rel => exact ⟨k + 1, _, by omega, by go_num, hide (by rw [HNX.out]), HO6, hide (Nat.le_trans (snoc_len _ _ _) (Nat.succ_le_succ hl.out)), HB6⟩
                      case measure => simp [intOf]; omega
                    · have ge : (ER != 0) = true := by simpa using he
                      have h1 := HNd2.out he
                      subst h1
                      clear HNd2 HOk2 cc
                      go_wp2_with fail
                      go_ret2
                      exact ⟨rfl, HBW5.out⟩
                · have h10 : ¬ r = cs := fun h => h9 h.symm
                  as_aux_lemma =>
                    have K0 : w4.drew.cell? ⟨bX, 0, none⟩ = some (.int .i64 33) ∧ w4.drew.cell? ⟨bX, 1, none⟩ = some (.int .i64 ty) ∧ w4.drew.cell? ⟨bX, 2, none⟩ = some (.int .i64 n) ∧ w4.drew.cell? ⟨bF + 1, 0, none⟩ = some (.slice GA gn gc) ∧ w4.drew.cell? ⟨bF + 1, 1, none⟩ = some (.slice FA fs.length fc) := ⟨n0, n1, n2, m0, m1⟩
                    have cc := K0
                    go_upto_region 18 with (go_at_call 29; refine (rspec_any _ _).mono ?_; rintro en wn ⟨rfl, rfl⟩; rw [hsp])
                    clear n0 n1 n2 f3 m0 m1
                    go_region_held3 (fun w' => w'.cell? ⟨bX, 0, none⟩ = some (.int .i64 33) ∧ w'.cell? ⟨bX, 1, none⟩ = some (.int .i64 ty) ∧ w'.cell? ⟨bX, 2, none⟩ = some (.int .i64 n) ∧ w'.cell? ⟨bF + 1, 0, none⟩ = some (.slice GA gn gc) ∧ w'.cell? ⟨bF + 1, 1, none⟩ = some (.slice FA fs.length fc)) (first | exact cc | exact K0)
                      (first | (go_at_call 30; refine (hop.out _ (Below.drewN' (Below.refl _ _) 1) _ (.inr (.inl ⟨g, rfl, rfl⟩))).mono ?_; rintro en w5 ⟨rfl, hb4⟩; have HZ := hide hb4; replace cc := And.intro (cell_below hb4 cc.1) (And.intro (cell_below hb4 cc.2.1) (And.intro (cell_below hb4 cc.2.2.1) (And.intro (cell_below hb4 cc.2.2.2.1) (cell_below hb4 cc.2.2.2.2)))); clear hb4))
                    have hb45 : Below w4.heap.size w4 w5 := (Below.drewN' (Below.refl _ _) 1).trans HZ.out
                    clear K0
                    clear hop
                    have HO3 := hide (hO.out.below' hb45)
                    have hb5 : Hid (Below base w1 w5) := hide (hb.out.trans (hb45.mono (by have := hb.out.size; have := HBS.out; omega)))
                    have hbs5 : Hid (base ≤ w5.heap.size) := hide (by have := hb5.out.size; have := HBS.out; omega)
                    have HBW5 := hide (Below.all HBW.out hb45)
                    clear hb45 HZ hO hb hbs4 HBW HV
                    by_cases he : ER = 0
                    · have ge : (ER != 0) = false := by simpa using he
                      have HNX := hide (HOk2.out he)
                      subst he
                      clear HNd2 HOk2 cc
                      have hs3 : base ≤ (w5.alloc (.cells #[.int .i64 ty] 24)).heap.size := by rw [World.size_alloc]; have := hbs5.out; omega
                      have HO4 := hide ((HO3.out.front (m := r) (by omega)).alloc (.cells #[.int .i64 ty] 24))
                      have hlt4 : Hid ((st.take r).length ≤ 1000) := hide (by rw [List.length_take]; omega)
                      go_wp2_with (refine wpList_append_rd _ rfl _ _ 25 rfl base 24 .i64 8 tysE9 (.slice (some ⟨g, 0, none⟩) r cs) _ (by simp [Act.eval]) HO4.out _ [ty] rfl (rd_one _ _ _) ?b0 ?b1 hs3 ?_)
                      case b0 => have := hlt4.out; first | omega | (simp only [List.length_singleton]; omega) | (simp only [List.take_length] at *; omega) | (simp only [List.length_singleton, List.take_length] at *; omega)
                      case b1 => have := hlt4.out; unfold maxLen; first | omega | (simp only [List.length_singleton]; omega) | (simp only [List.take_length] at *; omega) | (simp only [List.length_singleton, List.take_length] at *; omega)
                      rintro v' w6 ho hg hbl -
                      have HO6 : Hid (Own w6 base 24 .i64 v' (st.take r ++ [ty])) := hide (by first | exact ho | simpa using ho)
                      have HB6 : Hid (Below base w1 w6) := hide ((hb5.out.alloc (by have := hb5.out.size; have := HBS.out; omega) _).trans hbl)
                      clear ho hg hbl hs3 HO4
                      go_wp2_with fail
                      go_roundw
                      case rel => exact ⟨k + 1, _, by omega, by go_num, hide (by rw [HNX.out]), HO6, hide (Nat.le_trans (snoc_len _ _ _) (Nat.succ_le_succ hl.out)), HB6⟩
                      case measure => simp [intOf]; omega
                    · have ge : (ER != 0) = true := by simpa using he
                      have h1 := HNd2.out he
                      subst h1
                      clear HNd2 HOk2 cc
                      go_wp2_with fail
                      go_ret2
                      exact ⟨rfl, HBW5.out⟩
        | true =>
          as_aux_lemma =>
            by_cases hlt : st.length < cntE 33 ty
            · have h1 := HSh.out hf hlt
              subst h1
              have g0 : decide ((st.length : Int) < (cntE 33 ty : Int)) = true := by simp; omega
              have g00 : decide (st.length < cntE 33 ty) = true := by simpa using hlt
              obtain ⟨cnt, hcnt⟩ : ∃ z, cntE 33 ty = z := ⟨_, rfl⟩
              rw [hcnt] at g0 g00 ⊢
              clear hcnt hlt HErr HSh HNd HOkk
              go_wp2_with (go_at_call 29; refine (rspec_any _ _).mono ?_; rintro en wn ⟨rfl, rfl⟩; rw [hsp])
              go_ret2
              exact ⟨rfl, HBW.out⟩
            · obtain ⟨r, hr⟩ : ∃ r, st.length - cntE 33 ty = r := ⟨_, rfl⟩
              have hc4 : cntE 33 ty ≤ 4 := cntE_le _ _
              obtain ⟨ts, hts⟩ : ∃ ts, st.drop r = ts := ⟨_, rfl⟩
              have htl : ts.length = st.length - r := by rw [← hts, List.length_drop]
              obtain ⟨ER, hER⟩ : ∃ z, tyE ⟨33, ty, n⟩ ts gn fs.length = z := ⟨_, rfl⟩
              have HNd2 : Hid (ER ≠ 0 → CH = (0, ER)) := hide (fun h => by
                have := HNd.out hf hlt (by decide) (by rw [hr, hts, hER]; exact h)
                rwa [hr, hts, hER] at this)
              have HOk2 : Hid (ER = 0 → runE rl gn fs.length (e.take (k + 1)) [] = (0, st.take r ++ [ty])) := hide (fun h => by
                have := HOkk.out hf hlt (.inr (by rw [hr, hts, hER]; exact h))
                rwa [hr, if_neg (by decide)] at this)
              have g0 : decide ((st.length : Int) < (cntE 33 ty : Int)) = false := by simp; omega
              have g00 : decide (st.length < cntE 33 ty) = false := by simpa using hlt
              have hs1 : IntKind.i64.wrap ((st.length : Int) - (cntE 33 ty : Int)) = (r : Int) := by rw [show (st.length : Int) - (cntE 33 ty : Int) = (r : Int) by omega]; exact IntWalk.i64_in _ (by omega)
              have hs2 : ((st.length : Int) - (cntE 33 ty : Int)) = (r : Int) := by omega
              have hrc2 : r + cntE 33 ty = st.length := by omega
              obtain ⟨cnt, hcnt⟩ : ∃ z, cntE 33 ty = z := ⟨_, rfl⟩
              rw [hcnt] at g0 g00 hs1 hs2 hrc2 hc4 ⊢
              have gr0 : (0 : Int) ≤ (r : Int) := by omega
              have gr1 : (r : Int) ≤ (st.length : Int) := by omega
              have gr2 : r ≤ st.length := by omega
              have HTS := hide hts
              have HTL := hide htl
              have HER' := hide hER
              have hop : Hid (∀ W, Below w4.heap.size w4 W → ∀ A, (A = As ∧ r = 0 ∨ (∃ b, As = some ⟨b, 0, none⟩ ∧ A = some ⟨b, r, none⟩) ∨ r = st.length) → Calls Tryd.prog 30 #[.agg #[.int .i64 33, .int .i64 ty, .int .i64 n], .slice A (st.length - r) (cs - r), .agg #[.slice GA gn gc, .slice FA fs.length fc]] W fun e w' => e = .returned (.tuple #[.int .i64 ty, .int .i64 ER]) ∧ Below W.heap.size W w') := hide (fun W hW A hA => by
                have hbW := Below.all HBW.out hW
                have hrd := (hO.out.below' hW).rd
                have hrt : Rd W .i64 (.slice A ts.length (cs - r)) ts := by
                  rw [← HTS.out]
                  rcases hA with ⟨rfl, rfl⟩ | ⟨b, rfl, rfl⟩ | h0
                  · simpa using hrd
                  · have := hrd.back (m := r) (by omega) (some ⟨b, r, none⟩) (.inl (by simp))
                    rw [List.length_drop]
                    exact this
                  · subst h0
                    rw [List.drop_length]
                    exact ⟨A, cs - st.length, rfl, by simp, by unfold maxLen; omega, fun h => absurd h (by simp)⟩
                have h := node_any ⟨33, ty, n⟩ A (cs - r) ts (by rw [HTL.out]; omega) GA FA gn gc fc fs HSP.out (by show ¬ (33 : Int) = 30; decide) W (HT.out.below hbW) (HO.out.below hbW) hrt (HFS.out.below hbW)
                rw [HTL.out, HER'.out] at h
                exact h)
              clear hr hlt hts htl hER hcnt hf HErr HSh HNd HOkk
              rcases hO.out.2 with ⟨e1, e2⟩ | ⟨g, cap, _, e1, -, -, -, -, -, -⟩
              · injection e1 with e1 e3 e4
                subst e1
                subst e4
                obtain rfl : st = [] := List.eq_nil_of_length_eq_zero e2
                obtain rfl : r = 0 := by simp at hrc2; omega
                obtain rfl : cnt = 0 := by simp at hrc2; exact hrc2
                rw [List.length_nil]
                have hsl0 : ∀ W, (Instr.slice 25 (.slice none 0 0) (some (.int .i64 0)) none none).run Tryd.prog W = .ok (.slice none 0 0) W := fun W => by kernel_rfl
                have hop3 := hide (hop.out _ (Below.drewN' (Below.refl _ _) 1) none (.inl ⟨rfl, rfl⟩))
                clear hop
                as_aux_lemma =>
                  have K0 : w4.drew.cell? ⟨bX, 0, none⟩ = some (.int .i64 33) ∧ w4.drew.cell? ⟨bX, 1, none⟩ = some (.int .i64 ty) ∧ w4.drew.cell? ⟨bX, 2, none⟩ = some (.int .i64 n) ∧ w4.drew.cell? ⟨bF + 1, 0, none⟩ = some (.slice GA gn gc) ∧ w4.drew.cell? ⟨bF + 1, 1, none⟩ = some (.slice FA fs.length fc) := ⟨n0, n1, n2, m0, m1⟩
                  have cc := K0
                  go_upto_region 18 with (go_at_call 29; refine (rspec_any _ _).mono ?_; rintro en wn ⟨rfl, rfl⟩; rw [hsp])
                  clear n0 n1 n2 f3 m0 m1
                  go_region_held3 (fun w' => w'.cell? ⟨bX, 0, none⟩ = some (.int .i64 33) ∧ w'.cell? ⟨bX, 1, none⟩ = some (.int .i64 ty) ∧ w'.cell? ⟨bX, 2, none⟩ = some (.int .i64 n) ∧ w'.cell? ⟨bF + 1, 0, none⟩ = some (.slice GA gn gc) ∧ w'.cell? ⟨bF + 1, 1, none⟩ = some (.slice FA fs.length fc)) (first | exact cc | exact K0)
                    (first | (go_at_call 30; refine (hop3.out).mono ?_; rintro en w5 ⟨rfl, hb4⟩; have HZ := hide hb4; replace cc := And.intro (cell_below hb4 cc.1) (And.intro (cell_below hb4 cc.2.1) (And.intro (cell_below hb4 cc.2.2.1) (And.intro (cell_below hb4 cc.2.2.2.1) (cell_below hb4 cc.2.2.2.2)))); clear hb4))
                  have hb45 : Below w4.heap.size w4 w5 := (Below.drewN' (Below.refl _ _) 1).trans HZ.out
                  clear K0
                  clear hop3
                  have HO3 := hide (hO.out.below' hb45)
                  have hb5 : Hid (Below base w1 w5) := hide (hb.out.trans (hb45.mono (by have := hb.out.size; have := HBS.out; omega)))
                  have hbs5 : Hid (base ≤ w5.heap.size) := hide (by have := hb5.out.size; have := HBS.out; omega)
                  have HBW5 := hide (Below.all HBW.out hb45)
                  clear hb45 HZ hO hb hbs4 HBW HV
                  by_cases he : ER = 0
                  · have ge : (ER != 0) = false := by simpa using he
                    have HNX := hide (HOk2.out he)
                    subst he
                    clear HNd2 HOk2 cc
                    have hs3 : base ≤ (w5.alloc (.cells #[.int .i64 ty] 24)).heap.size := by rw [World.size_alloc]; have := hbs5.out; omega
                    have HO4 := hide (HO3.out.alloc (.cells #[.int .i64 ty] 24))
                    have hlt4 : Hid ((([] : List Int).take 0).length ≤ 1000) := hide (by simp)
                    go_wp2_with (refine wpList_append_rd _ rfl _ _ 25 rfl base 24 .i64 8 tysE9 (.slice none 0 0) _ (by simp [Act.eval]) HO4.out _ [ty] rfl (rd_one _ _ _) ?b0 ?b1 hs3 ?_)
                    case b0 => simp
                    case b1 => simp [maxLen]
                    rintro v' w6 ho hg hbl -
                    have HO6 : Hid (Own w6 base 24 .i64 v' (([] : List Int).take 0 ++ [ty])) := hide (by first | exact ho | simpa using ho)
                    have HB6 : Hid (Below base w1 w6) := hide ((hb5.out.alloc (by have := hb5.out.size; have := HBS.out; omega) _).trans hbl)
                    clear ho hg hbl hs3 HO4
                    go_wp2_with fail
                    go_roundw
                    case rel => exact ⟨k + 1, _, by omega, by go_num, hide (by rw [HNX.out]), HO6, hide (Nat.le_trans (snoc_len _ _ _) (Nat.succ_le_succ hl.out)), HB6⟩
                    case measure => simp [intOf]; omega
                  · have ge : (ER != 0) = true := by simpa using he
                    have h1 := HNd2.out he
                    subst h1
                    clear HNd2 HOk2 cc
                    go_wp2_with fail
                    go_ret2
                    exact ⟨rfl, HBW5.out⟩
              · injection e1 with e1 e8 e9
                subst e1
                subst e9
                clear e8
                by_cases h9 : cs = r
                · obtain rfl : r = st.length := by omega
                  obtain rfl : cs = st.length := by omega
                  have hop3 : Hid (Calls Tryd.prog 30 #[.agg #[.int .i64 33, .int .i64 ty, .int .i64 n], .slice (some ⟨g, 0, none⟩) 0 0, .agg #[.slice GA gn gc, .slice FA fs.length fc]] w4.drew fun e w' => e = .returned (.tuple #[.int .i64 ty, .int .i64 ER]) ∧ Below w4.drew.heap.size w4.drew w') := hide (by
                    have h := hop.out _ (Below.drewN' (Below.refl _ _) 1) (some ⟨g, 0, none⟩) (.inr (.inr rfl))
                    rw [Nat.sub_self] at h
                    exact h)
                  clear hop
                  as_aux_lemma =>
                    have K0 : w4.drew.cell? ⟨bX, 0, none⟩ = some (.int .i64 33) ∧ w4.drew.cell? ⟨bX, 1, none⟩ = some (.int .i64 ty) ∧ w4.drew.cell? ⟨bX, 2, none⟩ = some (.int .i64 n) ∧ w4.drew.cell? ⟨bF + 1, 0, none⟩ = some (.slice GA gn gc) ∧ w4.drew.cell? ⟨bF + 1, 1, none⟩ = some (.slice FA fs.length fc) := ⟨n0, n1, n2, m0, m1⟩
                    have cc := K0
                    go_upto_region 18 with (go_at_call 29; refine (rspec_any _ _).mono ?_; rintro en wn ⟨rfl, rfl⟩; rw [hsp])
                    clear n0 n1 n2 f3 m0 m1
                    go_region_held3 (fun w' => w'.cell? ⟨bX, 0, none⟩ = some (.int .i64 33) ∧ w'.cell? ⟨bX, 1, none⟩ = some (.int .i64 ty) ∧ w'.cell? ⟨bX, 2, none⟩ = some (.int .i64 n) ∧ w'.cell? ⟨bF + 1, 0, none⟩ = some (.slice GA gn gc) ∧ w'.cell? ⟨bF + 1, 1, none⟩ = some (.slice FA fs.length fc)) (first | exact cc | exact K0)
                      (first | (go_at_call 30; refine (hop3.out).mono ?_; rintro en w5 ⟨rfl, hb4⟩; have HZ := hide hb4; replace cc := And.intro (cell_below hb4 cc.1) (And.intro (cell_below hb4 cc.2.1) (And.intro (cell_below hb4 cc.2.2.1) (And.intro (cell_below hb4 cc.2.2.2.1) (cell_below hb4 cc.2.2.2.2)))); clear hb4))
                    have hb45 : Below w4.heap.size w4 w5 := (Below.drewN' (Below.refl _ _) 1).trans HZ.out
                    clear K0
                    clear hop3
                    have HO3 := hide (hO.out.below' hb45)
                    have hb5 : Hid (Below base w1 w5) := hide (hb.out.trans (hb45.mono (by have := hb.out.size; have := HBS.out; omega)))
                    have hbs5 : Hid (base ≤ w5.heap.size) := hide (by have := hb5.out.size; have := HBS.out; omega)
                    have HBW5 := hide (Below.all HBW.out hb45)
                    clear hb45 HZ hO hb hbs4 HBW HV
                    by_cases he : ER = 0
                    · have ge : (ER != 0) = false := by simpa using he
                      have HNX := hide (HOk2.out he)
                      subst he
                      clear HNd2 HOk2 cc
                      have hs3 : base ≤ (w5.alloc (.cells #[.int .i64 ty] 24)).heap.size := by rw [World.size_alloc]; have := hbs5.out; omega
                      have HO4 := hide (HO3.out.alloc (.cells #[.int .i64 ty] 24))
                      have hlt4 : Hid ((st.take st.length).length ≤ 1000) := hide (by rw [List.length_take]; omega)
                      go_wp2_with (refine wpList_append_rd _ rfl _ _ 25 rfl base 24 .i64 8 tysE9 (.slice (some ⟨g, 0, none⟩) st.length st.length) _ (by simp [Act.eval]) HO4.out _ [ty] rfl (rd_one _ _ _) ?b0 ?b1 hs3 ?_)
                      case b0 => have := hlt4.out; first | omega | (simp only [List.length_singleton]; omega) | (simp only [List.take_length] at *; omega) | (simp only [List.length_singleton, List.take_length] at *; omega)
                      case b1 => have := hlt4.out; unfold maxLen; first | omega | (simp only [List.length_singleton]; omega) | (simp only [List.take_length] at *; omega) | (simp only [List.length_singleton, List.take_length] at *; omega)
                      rintro v' w6 ho hg hbl -
                      have HO6 : Hid (Own w6 base 24 .i64 v' (st.take st.length ++ [ty])) := hide (by first | exact ho | simpa using ho)
                      have HB6 : Hid (Below base w1 w6) := hide ((hb5.out.alloc (by have := hb5.out.size; have := HBS.out; omega) _).trans hbl)
                      clear ho hg hbl hs3 HO4
                      go_wp2_with fail
                      go_roundw
                      case rel => exact ⟨k + 1, _, by omega, by go_num, hide (by rw [HNX.out]), HO6, hide (Nat.le_trans (snoc_len _ _ _) (Nat.succ_le_succ hl.out)), HB6⟩
                      case measure => simp [intOf]; omega
                    · have ge : (ER != 0) = true := by simpa using he
                      have h1 := HNd2.out he
                      subst h1
                      clear HNd2 HOk2 cc
                      go_wp2_with fail
                      go_ret2
                      exact ⟨rfl, HBW5.out⟩
                · have h10 : ¬ r = cs := fun h => h9 h.symm
                  as_aux_lemma =>
                    have K0 : w4.drew.cell? ⟨bX, 0, none⟩ = some (.int .i64 33) ∧ w4.drew.cell? ⟨bX, 1, none⟩ = some (.int .i64 ty) ∧ w4.drew.cell? ⟨bX, 2, none⟩ = some (.int .i64 n) ∧ w4.drew.cell? ⟨bF + 1, 0, none⟩ = some (.slice GA gn gc) ∧ w4.drew.cell? ⟨bF + 1, 1, none⟩ = some (.slice FA fs.length fc) := ⟨n0, n1, n2, m0, m1⟩
                    have cc := K0
                    go_upto_region 18 with (go_at_call 29; refine (rspec_any _ _).mono ?_; rintro en wn ⟨rfl, rfl⟩; rw [hsp])
                    clear n0 n1 n2 f3 m0 m1
                    go_region_held3 (fun w' => w'.cell? ⟨bX, 0, none⟩ = some (.int .i64 33) ∧ w'.cell? ⟨bX, 1, none⟩ = some (.int .i64 ty) ∧ w'.cell? ⟨bX, 2, none⟩ = some (.int .i64 n) ∧ w'.cell? ⟨bF + 1, 0, none⟩ = some (.slice GA gn gc) ∧ w'.cell? ⟨bF + 1, 1, none⟩ = some (.slice FA fs.length fc)) (first | exact cc | exact K0)
                      (first | (go_at_call 30; refine (hop.out _ (Below.drewN' (Below.refl _ _) 1) _ (.inr (.inl ⟨g, rfl, rfl⟩))).mono ?_; rintro en w5 ⟨rfl, hb4⟩; have HZ := hide hb4; replace cc := And.intro (cell_below hb4 cc.1) (And.intro (cell_below hb4 cc.2.1) (And.intro (cell_below hb4 cc.2.2.1) (And.intro (cell_below hb4 cc.2.2.2.1) (cell_below hb4 cc.2.2.2.2)))); clear hb4))
                    have hb45 : Below w4.heap.size w4 w5 := (Below.drewN' (Below.refl _ _) 1).trans HZ.out
                    clear K0
                    clear hop
                    have HO3 := hide (hO.out.below' hb45)
                    have hb5 : Hid (Below base w1 w5) := hide (hb.out.trans (hb45.mono (by have := hb.out.size; have := HBS.out; omega)))
                    have hbs5 : Hid (base ≤ w5.heap.size) := hide (by have := hb5.out.size; have := HBS.out; omega)
                    have HBW5 := hide (Below.all HBW.out hb45)
                    clear hb45 HZ hO hb hbs4 HBW HV
                    by_cases he : ER = 0
                    · have ge : (ER != 0) = false := by simpa using he
                      have HNX := hide (HOk2.out he)
                      subst he
                      clear HNd2 HOk2 cc
                      have hs3 : base ≤ (w5.alloc (.cells #[.int .i64 ty] 24)).heap.size := by rw [World.size_alloc]; have := hbs5.out; omega
                      have HO4 := hide ((HO3.out.front (m := r) (by omega)).alloc (.cells #[.int .i64 ty] 24))
                      have hlt4 : Hid ((st.take r).length ≤ 1000) := hide (by rw [List.length_take]; omega)
                      go_wp2_with (refine wpList_append_rd _ rfl _ _ 25 rfl base 24 .i64 8 tysE9 (.slice (some ⟨g, 0, none⟩) r cs) _ (by simp [Act.eval]) HO4.out _ [ty] rfl (rd_one _ _ _) ?b0 ?b1 hs3 ?_)
                      case b0 => have := hlt4.out; first | omega | (simp only [List.length_singleton]; omega) | (simp only [List.take_length] at *; omega) | (simp only [List.length_singleton, List.take_length] at *; omega)
                      case b1 => have := hlt4.out; unfold maxLen; first | omega | (simp only [List.length_singleton]; omega) | (simp only [List.take_length] at *; omega) | (simp only [List.length_singleton, List.take_length] at *; omega)
                      rintro v' w6 ho hg hbl -
                      have HO6 : Hid (Own w6 base 24 .i64 v' (st.take r ++ [ty])) := hide (by first | exact ho | simpa using ho)
                      have HB6 : Hid (Below base w1 w6) := hide ((hb5.out.alloc (by have := hb5.out.size; have := HBS.out; omega) _).trans hbl)
                      clear ho hg hbl hs3 HO4
                      go_wp2_with fail
                      go_roundw
                      case rel => exact ⟨k + 1, _, by omega, by go_num, hide (by rw [HNX.out]), HO6, hide (Nat.le_trans (snoc_len _ _ _) (Nat.succ_le_succ hl.out)), HB6⟩
                      case measure => simp [intOf]; omega
                    · have ge : (ER != 0) = true := by simpa using he
                      have h1 := HNd2.out he
                      subst h1
                      clear HNd2 HOk2 cc
                      go_wp2_with fail
                      go_ret2
                      exact ⟨rfl, HBW5.out⟩
      have g1 : (op == 1) = false := by simpa using c1
      have g33 : (op == 33) = false := by simpa using c33
      cases hsp : specM op with
      | false =>
        have hfe : fldE op ty n rl.length gn = 9 := by simp [fldE, c28, hsp]
        as_aux_lemma =>
          have h1 := HErr.out 9 (hfe) (by decide)
          subst h1
          clear HErr HSh HNd HOkk
          go_wp2_with (go_at_call 29; refine (rspec_any _ _).mono ?_; rintro en wn ⟨rfl, rfl⟩; rw [hsp])
          go_ret2
          exact ⟨rfl, HBW.out⟩
      | true =>
        cases hn : (n != 0) with
        | false =>
          have h0 : n = 0 := by simpa using hn
          have hf : fldE op ty n rl.length gn = 0 := by simp [fldE, h0, hsp, c4, c25]
          have c30 := fld_call hf
          clear h0
          as_aux_lemma =>
            by_cases hlt : st.length < cntE op ty
            · have h1 := HSh.out hf hlt
              subst h1
              have g0 : decide ((st.length : Int) < (cntE op ty : Int)) = true := by simp; omega
              have g00 : decide (st.length < cntE op ty) = true := by simpa using hlt
              obtain ⟨cnt, hcnt⟩ : ∃ z, cntE op ty = z := ⟨_, rfl⟩
              rw [hcnt] at g0 g00 ⊢
              clear hcnt hlt HErr HSh HNd HOkk
              go_wp2_with (go_at_call 29; refine (rspec_any _ _).mono ?_; rintro en wn ⟨rfl, rfl⟩; rw [hsp])
              go_ret2
              exact ⟨rfl, HBW.out⟩
            · obtain ⟨r, hr⟩ : ∃ r, st.length - cntE op ty = r := ⟨_, rfl⟩
              have hc4 : cntE op ty ≤ 4 := cntE_le _ _
              obtain ⟨ts, hts⟩ : ∃ ts, st.drop r = ts := ⟨_, rfl⟩
              have htl : ts.length = st.length - r := by rw [← hts, List.length_drop]
              obtain ⟨ER, hER⟩ : ∃ z, tyE ⟨op, ty, n⟩ ts gn fs.length = z := ⟨_, rfl⟩
              have HNd2 : Hid (ER ≠ 0 → CH = (0, ER)) := hide (fun h => by
                have := HNd.out hf hlt c4 (by rw [hr, hts, hER]; exact h)
                rwa [hr, hts, hER] at this)
              have HOk2 : Hid (ER = 0 → runE rl gn fs.length (e.take (k + 1)) [] = (0, st.take r ++ [ty])) := hide (fun h => by
                have := HOkk.out hf hlt (.inr (by rw [hr, hts, hER]; exact h))
                rwa [hr, if_neg c4] at this)
              have g0 : decide ((st.length : Int) < (cntE op ty : Int)) = false := by simp; omega
              have g00 : decide (st.length < cntE op ty) = false := by simpa using hlt
              have hs1 : IntKind.i64.wrap ((st.length : Int) - (cntE op ty : Int)) = (r : Int) := by rw [show (st.length : Int) - (cntE op ty : Int) = (r : Int) by omega]; exact IntWalk.i64_in _ (by omega)
              have hs2 : ((st.length : Int) - (cntE op ty : Int)) = (r : Int) := by omega
              have hrc2 : r + cntE op ty = st.length := by omega
              obtain ⟨cnt, hcnt⟩ : ∃ z, cntE op ty = z := ⟨_, rfl⟩
              rw [hcnt] at g0 g00 hs1 hs2 hrc2 hc4 ⊢
              have gr0 : (0 : Int) ≤ (r : Int) := by omega
              have gr1 : (r : Int) ≤ (st.length : Int) := by omega
              have gr2 : r ≤ st.length := by omega
              have HTS := hide hts
              have HTL := hide htl
              have HER' := hide hER
              have hop : Hid (∀ W, Below w4.heap.size w4 W → ∀ A, (A = As ∧ r = 0 ∨ (∃ b, As = some ⟨b, 0, none⟩ ∧ A = some ⟨b, r, none⟩) ∨ r = st.length) → Calls Tryd.prog 30 #[.agg #[.int .i64 op, .int .i64 ty, .int .i64 n], .slice A (st.length - r) (cs - r), .agg #[.slice GA gn gc, .slice FA fs.length fc]] W fun e w' => e = .returned (.tuple #[.int .i64 ty, .int .i64 ER]) ∧ Below W.heap.size W w') := hide (fun W hW A hA => by
                have hbW := Below.all HBW.out hW
                have hrd := (hO.out.below' hW).rd
                have hrt : Rd W .i64 (.slice A ts.length (cs - r)) ts := by
                  rw [← HTS.out]
                  rcases hA with ⟨rfl, rfl⟩ | ⟨b, rfl, rfl⟩ | h0
                  · simpa using hrd
                  · have := hrd.back (m := r) (by omega) (some ⟨b, r, none⟩) (.inl (by simp))
                    rw [List.length_drop]
                    exact this
                  · subst h0
                    rw [List.drop_length]
                    exact ⟨A, cs - st.length, rfl, by simp, by unfold maxLen; omega, fun h => absurd h (by simp)⟩
                have h := node_any ⟨op, ty, n⟩ A (cs - r) ts (by rw [HTL.out]; omega) GA FA gn gc fc fs HSP.out c30 W (HT.out.below hbW) (HO.out.below hbW) hrt (HFS.out.below hbW)
                rw [HTL.out, HER'.out] at h
                exact h)
              clear hr hlt hts htl hER hcnt hf HErr HSh HNd HOkk
              rcases hO.out.2 with ⟨e1, e2⟩ | ⟨g, cap, _, e1, -, -, -, -, -, -⟩
              · injection e1 with e1 e3 e4
                subst e1
                subst e4
                obtain rfl : st = [] := List.eq_nil_of_length_eq_zero e2
                obtain rfl : r = 0 := by simp at hrc2; omega
                obtain rfl : cnt = 0 := by simp at hrc2; exact hrc2
                rw [List.length_nil]
                have hsl0 : ∀ W, (Instr.slice 25 (.slice none 0 0) (some (.int .i64 0)) none none).run Tryd.prog W = .ok (.slice none 0 0) W := fun W => by kernel_rfl
                have hop3 := hide (hop.out _ (Below.drewN' (Below.refl _ _) 1) none (.inl ⟨rfl, rfl⟩))
                clear hop
                as_aux_lemma =>
                  have K0 : w4.drew.cell? ⟨bX, 0, none⟩ = some (.int .i64 op) ∧ w4.drew.cell? ⟨bX, 1, none⟩ = some (.int .i64 ty) ∧ w4.drew.cell? ⟨bX, 2, none⟩ = some (.int .i64 n) ∧ w4.drew.cell? ⟨bF + 1, 0, none⟩ = some (.slice GA gn gc) ∧ w4.drew.cell? ⟨bF + 1, 1, none⟩ = some (.slice FA fs.length fc) := ⟨n0, n1, n2, m0, m1⟩
                  have cc := K0
                  go_upto_region 18 with (go_at_call 29; refine (rspec_any _ _).mono ?_; rintro en wn ⟨rfl, rfl⟩; rw [hsp])
                  clear n0 n1 n2 f3 m0 m1
                  go_region_held3 (fun w' => w'.cell? ⟨bX, 0, none⟩ = some (.int .i64 op) ∧ w'.cell? ⟨bX, 1, none⟩ = some (.int .i64 ty) ∧ w'.cell? ⟨bX, 2, none⟩ = some (.int .i64 n) ∧ w'.cell? ⟨bF + 1, 0, none⟩ = some (.slice GA gn gc) ∧ w'.cell? ⟨bF + 1, 1, none⟩ = some (.slice FA fs.length fc)) (first | exact cc | exact K0)
                    (first | (go_at_call 30; refine (hop3.out).mono ?_; rintro en w5 ⟨rfl, hb4⟩; have HZ := hide hb4; replace cc := And.intro (cell_below hb4 cc.1) (And.intro (cell_below hb4 cc.2.1) (And.intro (cell_below hb4 cc.2.2.1) (And.intro (cell_below hb4 cc.2.2.2.1) (cell_below hb4 cc.2.2.2.2)))); clear hb4))
                  have hb45 : Below w4.heap.size w4 w5 := (Below.drewN' (Below.refl _ _) 1).trans HZ.out
                  clear K0
                  clear hop3
                  have HO3 := hide (hO.out.below' hb45)
                  have hb5 : Hid (Below base w1 w5) := hide (hb.out.trans (hb45.mono (by have := hb.out.size; have := HBS.out; omega)))
                  have hbs5 : Hid (base ≤ w5.heap.size) := hide (by have := hb5.out.size; have := HBS.out; omega)
                  have HBW5 := hide (Below.all HBW.out hb45)
                  clear hb45 HZ hO hb hbs4 HBW HV
                  by_cases he : ER = 0
                  · have ge : (ER != 0) = false := by simpa using he
                    have HNX := hide (HOk2.out he)
                    subst he
                    clear HNd2 HOk2 cc
                    have hs3 : base ≤ (w5.alloc (.cells #[.int .i64 ty] 24)).heap.size := by rw [World.size_alloc]; have := hbs5.out; omega
                    have HO4 := hide (HO3.out.alloc (.cells #[.int .i64 ty] 24))
                    have hlt4 : Hid ((([] : List Int).take 0).length ≤ 1000) := hide (by simp)
                    go_wp2_with (refine wpList_append_rd _ rfl _ _ 25 rfl base 24 .i64 8 tysE9 (.slice none 0 0) _ (by simp [Act.eval]) HO4.out _ [ty] rfl (rd_one _ _ _) ?b0 ?b1 hs3 ?_)
                    case b0 => simp
                    case b1 => simp [maxLen]
                    rintro v' w6 ho hg hbl -
                    have HO6 : Hid (Own w6 base 24 .i64 v' (([] : List Int).take 0 ++ [ty])) := hide (by first | exact ho | simpa using ho)
                    have HB6 : Hid (Below base w1 w6) := hide ((hb5.out.alloc (by have := hb5.out.size; have := HBS.out; omega) _).trans hbl)
                    clear ho hg hbl hs3 HO4
                    go_wp2_with fail
                    go_roundw
                    case rel => exact ⟨k + 1, _, by omega, by go_num, hide (by rw [HNX.out]), HO6, hide (Nat.le_trans (snoc_len _ _ _) (Nat.succ_le_succ hl.out)), HB6⟩
                    case measure => simp [intOf]; omega
                  · have ge : (ER != 0) = true := by simpa using he
                    have h1 := HNd2.out he
                    subst h1
                    clear HNd2 HOk2 cc
                    go_wp2_with fail
                    go_ret2
                    exact ⟨rfl, HBW5.out⟩
              · injection e1 with e1 e8 e9
                subst e1
                subst e9
                clear e8
                by_cases h9 : cs = r
                · obtain rfl : r = st.length := by omega
                  obtain rfl : cs = st.length := by omega
                  have hop3 : Hid (Calls Tryd.prog 30 #[.agg #[.int .i64 op, .int .i64 ty, .int .i64 n], .slice (some ⟨g, 0, none⟩) 0 0, .agg #[.slice GA gn gc, .slice FA fs.length fc]] w4.drew fun e w' => e = .returned (.tuple #[.int .i64 ty, .int .i64 ER]) ∧ Below w4.drew.heap.size w4.drew w') := hide (by
                    have h := hop.out _ (Below.drewN' (Below.refl _ _) 1) (some ⟨g, 0, none⟩) (.inr (.inr rfl))
                    rw [Nat.sub_self] at h
                    exact h)
                  clear hop
                  as_aux_lemma =>
                    have K0 : w4.drew.cell? ⟨bX, 0, none⟩ = some (.int .i64 op) ∧ w4.drew.cell? ⟨bX, 1, none⟩ = some (.int .i64 ty) ∧ w4.drew.cell? ⟨bX, 2, none⟩ = some (.int .i64 n) ∧ w4.drew.cell? ⟨bF + 1, 0, none⟩ = some (.slice GA gn gc) ∧ w4.drew.cell? ⟨bF + 1, 1, none⟩ = some (.slice FA fs.length fc) := ⟨n0, n1, n2, m0, m1⟩
                    have cc := K0
                    go_upto_region 18 with (go_at_call 29; refine (rspec_any _ _).mono ?_; rintro en wn ⟨rfl, rfl⟩; rw [hsp])
                    clear n0 n1 n2 f3 m0 m1
                    go_region_held3 (fun w' => w'.cell? ⟨bX, 0, none⟩ = some (.int .i64 op) ∧ w'.cell? ⟨bX, 1, none⟩ = some (.int .i64 ty) ∧ w'.cell? ⟨bX, 2, none⟩ = some (.int .i64 n) ∧ w'.cell? ⟨bF + 1, 0, none⟩ = some (.slice GA gn gc) ∧ w'.cell? ⟨bF + 1, 1, none⟩ = some (.slice FA fs.length fc)) (first | exact cc | exact K0)
                      (first | (go_at_call 30; refine (hop3.out).mono ?_; rintro en w5 ⟨rfl, hb4⟩; have HZ := hide hb4; replace cc := And.intro (cell_below hb4 cc.1) (And.intro (cell_below hb4 cc.2.1) (And.intro (cell_below hb4 cc.2.2.1) (And.intro (cell_below hb4 cc.2.2.2.1) (cell_below hb4 cc.2.2.2.2)))); clear hb4))
                    have hb45 : Below w4.heap.size w4 w5 := (Below.drewN' (Below.refl _ _) 1).trans HZ.out
                    clear K0
                    clear hop3
                    have HO3 := hide (hO.out.below' hb45)
                    have hb5 : Hid (Below base w1 w5) := hide (hb.out.trans (hb45.mono (by have := hb.out.size; have := HBS.out; omega)))
                    have hbs5 : Hid (base ≤ w5.heap.size) := hide (by have := hb5.out.size; have := HBS.out; omega)
                    have HBW5 := hide (Below.all HBW.out hb45)
                    clear hb45 HZ hO hb hbs4 HBW HV
                    by_cases he : ER = 0
                    · have ge : (ER != 0) = false := by simpa using he
                      have HNX := hide (HOk2.out he)
                      subst he
                      clear HNd2 HOk2 cc
                      have hs3 : base ≤ (w5.alloc (.cells #[.int .i64 ty] 24)).heap.size := by rw [World.size_alloc]; have := hbs5.out; omega
                      have HO4 := hide (HO3.out.alloc (.cells #[.int .i64 ty] 24))
                      have hlt4 : Hid ((st.take st.length).length ≤ 1000) := hide (by rw [List.length_take]; omega)
                      go_wp2_with (refine wpList_append_rd _ rfl _ _ 25 rfl base 24 .i64 8 tysE9 (.slice (some ⟨g, 0, none⟩) st.length st.length) _ (by simp [Act.eval]) HO4.out _ [ty] rfl (rd_one _ _ _) ?b0 ?b1 hs3 ?_)
                      case b0 => have := hlt4.out; first | omega | (simp only [List.length_singleton]; omega) | (simp only [List.take_length] at *; omega) | (simp only [List.length_singleton, List.take_length] at *; omega)
                      case b1 => have := hlt4.out; unfold maxLen; first | omega | (simp only [List.length_singleton]; omega) | (simp only [List.take_length] at *; omega) | (simp only [List.length_singleton, List.take_length] at *; omega)
                      rintro v' w6 ho hg hbl -
                      have HO6 : Hid (Own w6 base 24 .i64 v' (st.take st.length ++ [ty])) := hide (by first | exact ho | simpa using ho)
                      have HB6 : Hid (Below base w1 w6) := hide ((hb5.out.alloc (by have := hb5.out.size; have := HBS.out; omega) _).trans hbl)
                      clear ho hg hbl hs3 HO4
                      go_wp2_with fail
                      go_roundw
                      case rel => exact ⟨k + 1, _, by omega, by go_num, hide (by rw [HNX.out]), HO6, hide (Nat.le_trans (snoc_len _ _ _) (Nat.succ_le_succ hl.out)), HB6⟩
                      case measure => simp [intOf]; omega
                    · have ge : (ER != 0) = true := by simpa using he
                      have h1 := HNd2.out he
                      subst h1
                      clear HNd2 HOk2 cc
                      go_wp2_with fail
                      go_ret2
                      exact ⟨rfl, HBW5.out⟩
                · have h10 : ¬ r = cs := fun h => h9 h.symm
                  as_aux_lemma =>
                    have K0 : w4.drew.cell? ⟨bX, 0, none⟩ = some (.int .i64 op) ∧ w4.drew.cell? ⟨bX, 1, none⟩ = some (.int .i64 ty) ∧ w4.drew.cell? ⟨bX, 2, none⟩ = some (.int .i64 n) ∧ w4.drew.cell? ⟨bF + 1, 0, none⟩ = some (.slice GA gn gc) ∧ w4.drew.cell? ⟨bF + 1, 1, none⟩ = some (.slice FA fs.length fc) := ⟨n0, n1, n2, m0, m1⟩
                    have cc := K0
                    go_upto_region 18 with (go_at_call 29; refine (rspec_any _ _).mono ?_; rintro en wn ⟨rfl, rfl⟩; rw [hsp])
                    clear n0 n1 n2 f3 m0 m1
                    go_region_held3 (fun w' => w'.cell? ⟨bX, 0, none⟩ = some (.int .i64 op) ∧ w'.cell? ⟨bX, 1, none⟩ = some (.int .i64 ty) ∧ w'.cell? ⟨bX, 2, none⟩ = some (.int .i64 n) ∧ w'.cell? ⟨bF + 1, 0, none⟩ = some (.slice GA gn gc) ∧ w'.cell? ⟨bF + 1, 1, none⟩ = some (.slice FA fs.length fc)) (first | exact cc | exact K0)
                      (first | (go_at_call 30; refine (hop.out _ (Below.drewN' (Below.refl _ _) 1) _ (.inr (.inl ⟨g, rfl, rfl⟩))).mono ?_; rintro en w5 ⟨rfl, hb4⟩; have HZ := hide hb4; replace cc := And.intro (cell_below hb4 cc.1) (And.intro (cell_below hb4 cc.2.1) (And.intro (cell_below hb4 cc.2.2.1) (And.intro (cell_below hb4 cc.2.2.2.1) (cell_below hb4 cc.2.2.2.2)))); clear hb4))
                    have hb45 : Below w4.heap.size w4 w5 := (Below.drewN' (Below.refl _ _) 1).trans HZ.out
                    clear K0
                    clear hop
                    have HO3 := hide (hO.out.below' hb45)
                    have hb5 : Hid (Below base w1 w5) := hide (hb.out.trans (hb45.mono (by have := hb.out.size; have := HBS.out; omega)))
                    have hbs5 : Hid (base ≤ w5.heap.size) := hide (by have := hb5.out.size; have := HBS.out; omega)
                    have HBW5 := hide (Below.all HBW.out hb45)
                    clear hb45 HZ hO hb hbs4 HBW HV
                    by_cases he : ER = 0
                    · have ge : (ER != 0) = false := by simpa using he
                      have HNX := hide (HOk2.out he)
                      subst he
                      clear HNd2 HOk2 cc
                      have hs3 : base ≤ (w5.alloc (.cells #[.int .i64 ty] 24)).heap.size := by rw [World.size_alloc]; have := hbs5.out; omega
                      have HO4 := hide ((HO3.out.front (m := r) (by omega)).alloc (.cells #[.int .i64 ty] 24))
                      have hlt4 : Hid ((st.take r).length ≤ 1000) := hide (by rw [List.length_take]; omega)
                      go_wp2_with (refine wpList_append_rd _ rfl _ _ 25 rfl base 24 .i64 8 tysE9 (.slice (some ⟨g, 0, none⟩) r cs) _ (by simp [Act.eval]) HO4.out _ [ty] rfl (rd_one _ _ _) ?b0 ?b1 hs3 ?_)
                      case b0 => have := hlt4.out; first | omega | (simp only [List.length_singleton]; omega) | (simp only [List.take_length] at *; omega) | (simp only [List.length_singleton, List.take_length] at *; omega)
                      case b1 => have := hlt4.out; unfold maxLen; first | omega | (simp only [List.length_singleton]; omega) | (simp only [List.take_length] at *; omega) | (simp only [List.length_singleton, List.take_length] at *; omega)
                      rintro v' w6 ho hg hbl -
                      have HO6 : Hid (Own w6 base 24 .i64 v' (st.take r ++ [ty])) := hide (by first | exact ho | simpa using ho)
                      have HB6 : Hid (Below base w1 w6) := hide ((hb5.out.alloc (by have := hb5.out.size; have := HBS.out; omega) _).trans hbl)
                      clear ho hg hbl hs3 HO4
                      go_wp2_with fail
                      go_roundw
                      case rel => exact ⟨k + 1, _, by omega, by go_num, hide (by rw [HNX.out]), HO6, hide (Nat.le_trans (snoc_len _ _ _) (Nat.succ_le_succ hl.out)), HB6⟩
                      case measure => simp [intOf]; omega
                    · have ge : (ER != 0) = true := by simpa using he
                      have h1 := HNd2.out he
                      subst h1
                      clear HNd2 HOk2 cc
                      go_wp2_with fail
                      go_ret2
                      exact ⟨rfl, HBW5.out⟩
        | true =>
          have h0 : ¬ n = 0 := by simpa using hn
          have hfe : fldE op ty n rl.length gn = 3 := by simp [fldE, h0, hsp, c4, c25, numE, c1, c33]
          clear h0
          as_aux_lemma =>
            have h1 := HErr.out 3 (hfe) (by decide)
            subst h1
            clear HErr HSh HNd HOkk
            go_wp2_with (go_at_call 29; refine (rspec_any _ _).mono ?_; rintro en wn ⟨rfl, rfl⟩; rw [hsp])
            go_ret2
            exact ⟨rfl, HBW.out⟩
    · have hkl : e.take k = e := List.take_of_length_le (by omega)
      rw [hkl] at hR
      have HOw := hO
      clear hO hl hkl
      rcases st with _ | ⟨t, _ | ⟨u, r⟩⟩
      · have h1 := chkE_nil hR.out
        rw [HCH.out] at h1
        subst h1
        clear HOw HCH
        go_wp2_with fail
        go_ret2
        exact ⟨rfl, hbw.out⟩
      · have h1 := chkE_one hR.out
        rw [HCH.out] at h1
        subst h1
        obtain ⟨b8, o8, e8, hb8, hc8⟩ := HOw.out.rd.toV.at 0 (.int .i64 t) rfl
        subst e8
        have c8 : wq.cell? ⟨b8, o8, none⟩ = some (.int .i64 t) := hc8
        have hcs1 : 1 ≤ cs := hcl
        clear HOw HCH hc8 hcl hR
        go_wp2_with fail
        go_ret2
        exact ⟨rfl, hbw.out⟩
      · have h1 := chkE_more hR.out
        rw [HCH.out] at h1
        subst h1
        have g0 : (((t :: u :: r).length : Int) == 0) = false := by rw [beq_eq_false_iff_ne]; simp; omega
        have g1 : decide (((t :: u :: r).length : Int) > 1) = true := by simp; omega
        have g2 : decide ((1 : Int) < ((t :: u :: r).length : Int)) = true := by simp; omega
        obtain ⟨m, hm⟩ : ∃ m, (t :: u :: r).length = m := ⟨_, rfl⟩
        rw [hm] at g0 g1 g2 hcl ⊢
        clear hm HOw HCH hR hst
        go_wp2_with fail
        go_ret2
        exact ⟨rfl, hbw.out⟩
end Go.Proofs.YtnhaanjpcnnifaaDoor

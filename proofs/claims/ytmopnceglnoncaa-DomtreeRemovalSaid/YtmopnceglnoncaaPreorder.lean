/-
  Layer 8 (domtree): Preorder of a tree.
-/
import Derived.Test.YtmopnceglnoncaaPreM
namespace Go.Proofs.Ytmopnceglnoncaa
open Go.RowKit Go.Shelf

attribute [local go_sem] Oper.semAt_some

set_option maxRecDepth 100000 in
set_option maxHeartbeats 16000000 in
theorem preorder_in {n r : Nat} {f : Nat → Int} {dp : Nat → Nat} (T : Tr n f r dp) (hn : n ≤ 65536) (m : Nat) (hm : 3 ≤ m) (A : Option Addr) (c : Nat) (w : World) (hI : Rd w .i64 (.slice A n c) (fz n f)) :
    CallsIn Fence.wide m Try.prog 25 #[.slice A n c] w fun en w' => ∃ v, en = .returned v ∧ Own w' w.heap.size 3 .i64 v (ints (pre f n dp r)) ∧ Below w.heap.size w w' := by
  obtain ⟨Ab, Ao, rfl, hbl, -⟩ := rd_at hI (fz_get f T.rlt)
  obtain ⟨q, hq⟩ : ∃ q, w.heap.size = q := ⟨_, rfl⟩
  obtain ⟨w1, hw1⟩ : ∃ x, w.alloc (.cells #[.slice none 0 0] 28) = x := ⟨_, rfl⟩
  have hs1 : w1.heap.size = q + 1 := by rw [← hw1, World.size_alloc, hq]
  have hb1 : Below w.heap.size w w1 := by rw [← hw1]; exact (Below.refl _ _).alloc (Nat.le_refl _) _
  have hX1 : Whole w1 q 28 #[.slice none 0 0] := by rw [← hq, ← hw1]; exact Whole.new _ _ _
  have HCH := hide (children_tree T hn (some ⟨Ab, Ao, none⟩) c w1 (hI.below' hb1))
  have HT := hide T
  have HI := hide hI
  have HB1 : Hid (Below q w w1) := hide (by rw [← hq]; exact hb1)
  have HX1 := hide hX1
  have h1 : 1 ≤ m := by omega
  have hn0 : 0 < n := Nat.lt_of_le_of_lt (Nat.zero_le _) T.rlt
  have hrn := T.rlt
  clear hb1 hX1 T hI
  refine callsIn_of_wp_marks Try.func25 rfl trivial ?_ rfl
  simp only [Try.ntmps25, List.size_toArray, List.length_cons, List.length_nil, Nat.reduceAdd, Nat.reduceSub, Array.replicate_succ, Array.replicate_zero, List.push_toArray, List.append_toArray, List.nil_append, List.cons_append]
  gi_wp2_with (refine ⟨trivial, ?_⟩; gi_at_call 23; refine (callsIn_wide.2 HCH.out).mono ?_; rintro e wc ⟨D, R, rfl, hOL, hbc⟩)
  rw [hs1] at hOL
  have HOL := hide hOL
  have hRn : R.length = n := by rw [hOL.len, wl_len]
  have hDq : q + 1 ≤ D := hOL.lt.1
  have hDc : D < wc.heap.size := hOL.lt.2
  have hqc : q < wc.heap.size := by omega
  have HBC : Hid (Below q w wc) := hide (HB1.out.trans (hbc.mono (by omega)))
  have HSQ : Hid (∃ nv, QSt wc q nv (.slice none 0 0) (if r < 0 then [r] else []) [] wc) := hide ⟨_, ⟨HX1.out.below' hbc, Own.nil, Own.nil, fun g hg => (by cases hg), Frm.refl _ _⟩⟩
  have HIW : Hid (∀ {nv ov next order W}, QSt wc q nv ov next order W → Below q w W) := hide (fun h => HBC.out.trans (h.fr.toBelow (fun g hg => by rw [List.mem_singleton.1 hg]; exact Nat.le_refl _) (by omega)))
  clear hOL hbc HCH HX1 hw1 hs1
  gi_loopw [15] (fun z wr => ∃ i : Nat, i ≤ n ∧ z = .int .i64 (i : Nat) ∧ Hid (∃ nv, QSt wc q nv (.slice none 0 0) (if r < i then [r] else []) [] wr)) (fun z _ => n - (intOf z).toNat)
  case atStart => exact ⟨0, Nat.zero_le _, rfl, HSQ⟩
  case round =>
    clear HSQ
    obtain ⟨i, hi, rfl, HS⟩ := hrel
    obtain ⟨W, rfl⟩ : ∃ x, x = wr := ⟨_, rfl⟩
    by_cases hlt : i < n
    · have hlt' : (i : Int) < n := by omega
      obtain ⟨nv, hS⟩ := HS.out
      obtain ⟨b1, o1, e1, -, c1⟩ := rd_at (HI.out.below' (by rw [hq]; exact HIW.out hS)) (fz_get f hlt)
      injection e1 with e1
      injection e1 with e1 e2
      subst e1 e2
      by_cases hir : i = r
      · subst hir
        rw [HT.out.root] at c1
        have e0 : (if i < i then [i] else []) = ([] : List Nat) := by simp
        have e2 : (if i < i + 1 then [i] else []) = [i] := by simp
        rw [e0] at hS
        have t1 : ((i : Int) == (i : Int)) = true := by simp
        obtain ⟨Av, cv, rfl, hcv, hcm, -⟩ := hS.nx.rd
        rw [ints_len] at hcv
        have hcv9 : cv ≤ 9223372036854775807 := by unfold maxLen at hcm; omega
        obtain ⟨z0, hz0⟩ : ∃ z0, ([] : List Nat).length = z0 := ⟨_, rfl⟩
        rw [hz0] at hcv
        have k1 : W.cell? ⟨q, 0, none⟩ = some (.slice Av z0 cv) := by have := hS.bx.cell 0; rw [ints_len, hz0] at this; exact this
        have HZ0 := hide hz0
        have HSS := hide hS
        have hcs : wc.heap.size ≤ W.heap.size := hS.fr.size
        clear hS HS e0 hcm hz0
        gi_wp2_with (gi_at_builtin; refine wpListIn_append_rd _ rfl _ _ 28 rfl wc.heap.size 3 .i64 8 intE _ (ints []) (by rw [ints_len, HZ0.out]; rfl) (HSS.out.nx.alloc _) _ [(i : Int)] rfl (rd_one W 3 (i : Int)) (by rw [ints_len, List.length_singleton, List.length_nil]; omega) (by unfold maxLen; rw [ints_len, List.length_singleton, List.length_nil]; omega) (by rw [World.size_alloc]; omega) ?_; intro v' w7 ho7 hf7 hb7; obtain ⟨g1, g2, g3, g4⟩ := HSS.out.pushN hqc ho7 hf7 hb7; have k4 : w7.cell? ⟨q, 0, none⟩ = some (.slice Av z0 cv) := (by have := g1.cell 0; rw [ints_len, HZ0.out] at this; exact this); have k4f := g1.free 0; have HG2 : Hid (∃ nv, QSt wc q nv (.slice none 0 0) (if i < i + 1 then [i] else []) [] (w7.setCell ⟨q, 0, none⟩ v')) := hide ⟨v', by rw [e2]; exact g2⟩; obtain ⟨A7, c7, e7, -, -, -⟩ := ho7.rd; rw [List.length_append, List.length_singleton, ints_len, HZ0.out] at e7; subst e7; clear ho7 hf7 hb7 g1 g2 g3 g4)
        go_roundw
        case rel => exact ⟨i + 1, by omega, by go_num, HG2⟩
        case measure => simp [intOf]; omega
      · obtain ⟨v, hv⟩ : ∃ v, f i = v := ⟨_, rfl⟩
        rw [hv] at c1
        have t1 : (v == (i : Int)) = false := by
          have : v ≠ (i : Int) := fun e => hir (HT.out.self hlt (by rw [hv, e]))
          simpa using this
        have HG2 : Hid (∃ nv, QSt wc q nv (.slice none 0 0) (if r < i + 1 then [r] else []) [] W) := hide ⟨nv, by
          have e : (if r < i + 1 then [r] else []) = (if r < i then [r] else []) := by
            by_cases h : r < i
            · rw [if_pos h, if_pos (by omega)]
            · rw [if_neg h, if_neg (by omega)]
          rw [e]; exact hS⟩
        clear hS HS hv
        gi_wp2
        go_roundw
        case rel => exact ⟨i + 1, by omega, by go_num, HG2⟩
        case measure => simp [intOf]; omega
    · obtain rfl : i = n := by omega
      have HS0 : Hid (∃ nv, QSt wc q nv (.slice none 0 0) [r] [] W) := hide (by have := HS.out; rwa [if_pos hrn] at this)
      clear HS
      gi_wp2
      refine wpIn_loop (fun a W => ∃ (next order : List Nat) (nv ov : Value) (Ds : List Nat), ∃ v1 v2 v6 v7 v8 v9 v10 v11 v12 v13 v14 v15 v16 v17 v18 v19 v20 v21 v22 v23 v24 v25 v26 v27 v28 v29 v30 v31 v32 v33 v34 v35 v36 v37 v38 v39 v40 v41 v42 v43 v44 v45 v46 v47 v48 v49 v50 v51 v52 v53 v54 v55 v56 v57 : Value, a = { tmps := #[.slice (some ⟨Ab, Ao, none⟩) i c, v1, v2, ov, .pointer (some ⟨q, 0, none⟩), .slice (some ⟨D, 0, none⟩) i i, v6, v7, v8, v9, v10, v11, v12, v13, v14, v15, v16, v17, v18, v19, v20, v21, v22, v23, v24, v25, v26, v27, v28, v29, v30, v31, v32, v33, v34, v35, v36, v37, v38, v39, v40, v41, v42, v43, v44, v45, v46, v47, v48, v49, v50, v51, v52, v53, v54, v55, v56, v57], defers := Ds.map mark } ∧ Hid (Pst i f dp r order next) ∧ Hid (QSt wc q nv ov next order W) ∧ Hid (Marks q Ds W)) (fun a _ => i - lenV (a.tmps.getD 3 undef)) ?_ ?_
      · obtain ⟨nv, hS⟩ := HS0.out
        exact ⟨[r], [], nv, _, [], _, _, _, _, _, _, _, _, _, _, _, _, _, _, _, _, _, _, _, _, _, _, _, _, _, _, _, _, _, _, _, _, _, _, _, _, _, _, _, _, _, _, _, _, _, _, _, _, _, _, _, _, _, _, rfl, hide (Pst.start HT.out), hide hS, hide Marks.nil⟩
      · clear HS0
        rintro a W ⟨next, order, nv, ov, Ds, v1, v2, v6, v7, v8, v9, v10, v11, v12, v13, v14, v15, v16, v17, v18, v19, v20, v21, v22, v23, v24, v25, v26, v27, v28, v29, v30, v31, v32, v33, v34, v35, v36, v37, v38, v39, v40, v41, v42, v43, v44, v45, v46, v47, v48, v49, v50, v51, v52, v53, v54, v55, v56, v57, rfl, HP, HS, HM⟩
        have hPl := HP.out.len HT.out
        obtain ⟨Av, cv, rfl, hcv, hcm, hAv⟩ := HS.out.nx.rd
        obtain ⟨Ao2, co, rfl, hco, hcom, -⟩ := HS.out.od.rd
        rw [ints_len] at hcv hco
        have hcv9 : cv ≤ 9223372036854775807 := by unfold maxLen at hcm; omega
        have hco9 : co ≤ 9223372036854775807 := by unfold maxLen at hcom; omega
        have k1 : W.cell? ⟨q, 0, none⟩ = some (.slice Av next.length cv) := by have := HS.out.bx.cell 0; rw [ints_len] at this; exact this
        clear hcm hcom
        rcases List.eq_nil_or_concat next with rfl | ⟨next', x, rfl⟩
        · have HPD := hide HP.out.done
          have HZ := hide (And.intro HS.out.od (And.intro (HIW.out HS.out) (by have := HS.out.fr.size; omega : q ≤ W.heap.size)))
          rw [ints_len]
          clear HP HS hAv
          gi_wp2
          refine leavesM (B := q) (Others q) (Others.refl _) (fun h k => h.trans k) (fun X D hD hd => Others.put hD hd) Ds W HM.out ?_
          intro Y hY
          have hO := HZ.out.1
          rw [ints_len] at hO
          refine ⟨.slice Ao2 order.length co, ?_, .slice Ao2 order.length co, rfl, by rw [hq, ← HPD.out]; exact (OwnV.toI (hY.own hO.toV)).low (by omega), by rw [hq]; exact hY.below (Nat.le_refl _) HZ.out.2.2 HZ.out.2.1⟩
          simp [results, Try.f25, go_sem]
        · simp only [List.concat_eq_append] at HP hPl hcv hAv HS k1 ⊢
          obtain ⟨g, og, rfl, -, -⟩ := hAv (by simp [ints])
          obtain ⟨g2, cap2, e2, -, -, hg1, hg2⟩ := HS.out.nx.form (by simp [ints])
          have e9 : cv = cap2 := congrArg capV e2
          injection e2 with e2
          injection e2 with e2
          injection e2 with e2 e3
          subst e2 e3 e9
          clear hAv
          have hx := HP.out.ok x (by simp)
          have HXX := hide hx
          obtain ⟨N', hN'⟩ : ∃ N', next'.length = N' := ⟨_, rfl⟩
          have hNl : (next' ++ [x]).length = N' + 1 := by rw [List.length_append, hN', List.length_singleton]
          obtain ⟨N, hN⟩ : ∃ N, N' + 1 = N := ⟨_, rfl⟩
          rw [hNl, hN] at hcv hPl k1
          have hcell := HS.out.nx.cellAt (j := N') (z := (x : Int)) (by rw [ints_get, List.getElem?_append_right (by omega), hN', Nat.sub_self]; rfl)
          have t1 : decide ((N : Int) > 0) = true := decide_eq_true (by omega)
          have t1' : decide ((0 : Int) < (N : Int)) = true := decide_eq_true (by omega)
          have t1'' : decide (0 < N) = true := decide_eq_true (by omega)
          have hw1 : IntKind.i64.wrap ((N : Int) - 1) = (N' : Int) := by rw [IntWalk.i64_in _ (by omega)]; omega
          have hNN : (N' : Int) < N := by omega
          have hcN : (N' : Int) ≤ cv := by omega
          have hx' : (x : Int) < i := by have := hx.1; omega
          have hOl : order.length ≤ i := by omega
          obtain ⟨oz, hoz⟩ : ∃ oz, order.length = oz := ⟨_, rfl⟩
          have HOZ := hide hoz
          have HNN := hide (And.intro hN' (And.intro hNl hN))
          rw [ints_len, hoz]
          rw [hoz] at hOl hPl hco
          have hcs : wc.heap.size ≤ W.heap.size := HS.out.fr.size
          obtain ⟨rv, hrv⟩ : ∃ rv, R[x]? = some rv := ⟨_, List.getElem?_eq_getElem (by rw [hRn]; exact hx.1)⟩
          have hrow := HOL.out.row x rv _ hrv (wl_get (kidsTo f i) hx.1)
          obtain ⟨Ar, cr, rfl, hcr, hcrm, -⟩ := hrow.rd
          obtain ⟨kl, hkl⟩ : ∃ kl, (kidsTo f i x).length = kl := ⟨_, rfl⟩
          have hkli : kl ≤ i := by rw [← hkl]; exact kidsTo_len f i x
          have HKL := hide hkl
          rw [ints_len, hkl] at hcr
          have hcr9 : cr ≤ 9223372036854775807 := by unfold maxLen at hcrm; omega
          have HROW := hide hrow
          have HRV := hide hrv
          have HST := hide (HP.out.step HT.out)
          clear hN' hNl hN hoz HP hx hrv hrow hkl hcrm
          gi_wp2_with (first | (gi_at_builtin; refine wpListIn_append_rd _ rfl _ _ 28 rfl wc.heap.size 3 .i64 8 intE _ (ints order) (by rw [ints_len, HOZ.out]; rfl) (HS.out.od.alloc _) _ [(x : Int)] rfl (rd_one W 3 (x : Int)) (by rw [ints_len, List.length_singleton, HOZ.out]; omega) (by unfold maxLen; rw [ints_len, List.length_singleton, HOZ.out]; omega) (by rw [World.size_alloc]; omega) ?_; intro v' w7 ho7 hf7 hb7; have HPO := hide (HS.out.pushO hqc ho7 hf7 hb7); obtain ⟨A7, c7, e7, -, -, -⟩ := ho7.rd; rw [List.length_append, List.length_singleton, ints_len, HOZ.out] at e7; subst e7; have k4 : w7.cell? ⟨q, 0, none⟩ = some (.slice (some ⟨g, 0, none⟩) N cv) := (by have := HPO.out.1.bx.cell 0; rw [ints_len, HNN.out.2.1, HNN.out.2.2] at this; exact this); have k4f := HPO.out.1.bx.free 0; clear ho7 hf7 hb7; obtain ⟨w8, hw8⟩ : ∃ y, w7.setCell ⟨q, 0, none⟩ (.slice (some ⟨g, 0, none⟩) N' cv) = y := ⟨_, rfl⟩; have HS8 : Hid (QSt wc q (.slice (some ⟨g, 0, none⟩) N' cv) (.slice A7 (oz + 1) c7) next' (order ++ [x]) w8) := hide (by have := HPO.out.1.pop hqc; rw [HNN.out.1, hw8] at this; exact this); have k5 : w8.cell? ⟨D, x, none⟩ = some (.slice Ar kl cr) := (by have := (HOL.out.far HS8.out.fr (fun g hg => by rw [List.mem_singleton.1 hg]; omega)).own.cellAt HRV.out; rw [ints_len, HKL.out] at this; exact this); obtain ⟨zb, hzb⟩ : ∃ z, w8.heap.size = z := ⟨_, rfl⟩; have HBK := hide (back_call Ar kl cr w8); rw [hzb] at HBK; obtain ⟨Y1, hY1⟩ : ∃ y, w8.alloc (.cells #[.slice Ar kl cr] 28) = y := ⟨_, rfl⟩; rw [hY1] at HBK) | (refine ⟨trivial, ?_⟩; gi_at_call 44; refine (callsIn_wide.2 HBK.out).mono ?_; rintro e w' ⟨rfl, hw'⟩; obtain rfl := hw'))
          have hy1 : Y1.heap.size = zb + 1 := by rw [← hY1, World.size_alloc, hzb]
          have hbY : Below w8.heap.size w8 Y1 := by rw [← hY1]; exact (Below.refl _ _).alloc (Nat.le_refl _) _
          have HXY : Hid (Whole Y1 zb 28 #[.slice Ar kl cr]) := hide (by rw [← hzb, ← hY1]; exact Whole.new _ _ _)
          have HKY : Hid (KeepsOthers W Y1) := hide ((HPO.out.2.trans (show KeepsOthers w7 w8 by rw [← hw8]; exact KeepsOthers.setCell _ _ _)).trans (show KeepsOthers w8 Y1 by rw [← hY1]; exact KeepsOthers.alloc _ _))
          have HSY := hide (HS8.out.frm hqc (Frm.below (S := []) hbY))
          have HMY := hide (HM.out.keep HKY.out)
          have hgz := HS8.out.nx.size g rfl
          rw [hzb] at hgz
          have HRY : Hid (Rd Y1 .i64 (.slice Ar kl cr) (ints (kidsTo f i x))) := hide (by
            have := (HROW.out.frmS HSY.out.fr (fun g' hg' hm => by have := (HROW.out.size g' hg').1; rw [List.mem_singleton.1 hm] at this; omega)).rd
            rw [ints_len, HKL.out] at this
            exact this)
          have hAr : ∀ j, (∃ o, Ar = some ⟨j, o, none⟩) → q + 1 ≤ j ∧ j < wc.heap.size := fun j ⟨o', e'⟩ => HROW.out.size j (by rw [e']; rfl)
          have HDLT : Hid (∀ E ∈ Ds, E < zb) := hide (fun E hE => by
            have h1 := HM.out.lt E hE
            have h2 := HPO.out.1.fr.size
            have h3 := HKY.out.size
            have := HM.out.lt E hE
            have h4 : W.heap.size ≤ w8.heap.size := (HPO.out.2.trans (show KeepsOthers w7 w8 by rw [← hw8]; exact KeepsOthers.setCell _ _ _)).size
            omega)
          clear hw8 hzb hY1 hbY HBK HPO k5 k4 k4f HS8 k1 hcell
          refine' wpIn_rangeFunc_ownF rfl h1 (gf := 54) (lb := #[.pointer (some ⟨zb, 0, none⟩)]) rfl trivial (enters_of Try.func54 (by kernel_rfl) rfl)
            (back_stops (m - 1) zb cr (zb + 1) Ar [q, g] (kidsTo f i x) (by rw [HKL.out]; omega) (fun x => x < i) (fun y hy => (kids_mem.1 hy).1) (by omega) Y1 (fun j hj => by
              rcases hj with rfl | hj
              · exact ⟨by omega, by simp; omega⟩
              · have := hAr j hj; exact ⟨by omega, by simp; omega⟩) (by omega) (by rw [HKL.out]; exact HXY.out.cell 0) (by rw [HKL.out]; exact HRY.out)) Kq.t (Kq.b (by omega)) (Below.refl _ _) (fun _ => rfl)
            (fun pre W => Hid ((∃ nv, QSt wc q nv (.slice A7 (oz + 1) c7) (next' ++ pre.map (fun p => p.2.1)) (order ++ [x]) W ∧ (∀ g', nv.ownBlock = some g' → g' = g ∨ zb + 1 ≤ g')) ∧ Quiets Ds W ∧ zb + 1 ≤ W.heap.size))
            (fun _ _ _ => False)
            ?own2 ?ownx2 ?h02 _ ?assign2 ?body2 ?done2 ?stop2
          case own2 =>
            rintro pre X Y row hh hg hr
            obtain ⟨⟨nv, g1, g2⟩, g4, g5⟩ := hh.out
            have kt : Turn wc.heap.size X Y row := ⟨hg, fun r e => ⟨by have := (hr r e).1; omega, (hr r e).2⟩⟩
            exact hide ⟨⟨nv, g1.turn kt, g2⟩, fun E hE => (hg.block E (by have := (HDLT.out E hE); omega) (fun e => by have := (hr E e.symm).1; have := HDLT.out E hE; omega)).trans (g4 E hE), Nat.le_trans g5 hg.size⟩
          case ownx2 =>
            rintro c' pre X Y row hh hg hr
            exact hh.elim
          case h02 => exact hide ⟨⟨_, by rw [List.map_nil, List.append_nil]; exact HSY.out, fun g' hg' => .inl (by simpa [Value.ownBlock] using hg'.symm)⟩, fun E hE => (HMY.out.at_ E hE).2, by omega⟩
          case assign2 =>
            intro l x W K hK
            gi_wp2
            simpa using hK
          case body2 =>
            rintro l pre ⟨jx, y, hy⟩ W hh hpl
            obtain ⟨⟨nv, hS, hb⟩, hD, hz⟩ := hh.out
            obtain ⟨P, hP⟩ : ∃ P, next' ++ pre.map (fun p => p.2.1) = P := ⟨_, rfl⟩
            have hPl : P.length ≤ 200000 := by
              rw [← hP, List.length_append, List.length_map, HNN.out.1]
              rw [HKL.out] at hpl
              omega
            have HPS : Hid (∀ h, next' ++ (pre ++ [((jx, ⟨y, h⟩) : Nat × Nd (fun x => x < i))]).map (fun p => p.2.1) = P ++ [y]) := hide (fun h => by rw [List.map_append, ← hP]; simp)
            rw [hP] at hS
            obtain ⟨An, cn, rfl, hcn, hcnm, -⟩ := hS.nx.rd
            rw [ints_len] at hcn
            have hcn9 : cn ≤ 9223372036854775807 := by unfold maxLen at hcnm; omega
            have k1 : W.cell? ⟨q, 0, none⟩ = some (.slice An P.length cn) := by have := hS.bx.cell 0; rw [ints_len] at this; exact this
            have hcs2 : wc.heap.size ≤ W.heap.size := hS.fr.size
            have HSS := hide hS
            have HND := hide (And.intro hb (And.intro hD hz))
            clear hS hb hD hz hh hP hpl hcnm
            gi_wp2_with (gi_at_builtin; refine wpListIn_append_rd _ rfl _ _ 28 rfl wc.heap.size 3 .i64 8 intE _ (ints P) (by rw [ints_len]; rfl) (HSS.out.nx.alloc _) _ [(y : Int)] rfl (rd_one W 3 (y : Int)) (by rw [ints_len, List.length_singleton]; omega) (by unfold maxLen; rw [ints_len, List.length_singleton]; omega) (by rw [World.size_alloc]; omega) ?_; intro v' w7 ho7 hf7 hb7; have HPU := hide (And.intro (HSS.out.pushN hqc ho7 hf7 hb7) hb7); obtain ⟨A7, c7, e7, -, -, -⟩ := ho7.rd; rw [List.length_append, List.length_singleton, ints_len] at e7; subst e7; have k4 : w7.cell? ⟨q, 0, none⟩ = some (.slice An P.length cn) := (by have := HPU.out.1.1.cell 0; rw [ints_len] at this; exact this); have k4f := HPU.out.1.1.free 0; clear ho7 hf7 hb7)
            obtain ⟨⟨-, g2, g3, g4⟩, g5⟩ := HPU.out
            exact ⟨g4, kq_frm g3 HND.out.2.2 (fun g' hg' => by
              rcases List.mem_cons.1 hg' with rfl | hg'
              · exact .inl (by simp)
              · rcases HND.out.1 g' (by simpa using hg') with rfl | h
                · exact .inl (by simp)
                · exact .inr h), hide ⟨⟨_, by rw [HPS.out]; exact g2, fun g' hg' => by
                  rcases g5 with g5 | g5
                  · exact HND.out.1 g' (by rw [← g5]; exact hg')
                  · rw [g5, World.size_alloc] at hg'
                    injection hg' with hg'
                    have := HND.out.2.2; exact .inr (by omega)⟩, fun E hE => g4.same E _ (HND.out.2.1 E hE) rfl, Nat.le_trans HND.out.2.2 g3.size⟩⟩
          case done2 =>
            rintro D2 ys W2 hD2 hys hh hDW2
            obtain ⟨⟨nv, hS2, -⟩, hD2s, hz2⟩ := hh.out
            have hys' : ys.map (fun p => p.2.1) = (kidsTo f i x).reverse := hys
            rw [hys'] at hS2
            have HMN : Hid (Marks q (D2 :: Ds) W2) := hide ⟨List.nodup_cons.2 ⟨fun hm => by have := HDLT.out D2 hm; omega, HMY.out.nd⟩, fun E hE => by
              rcases List.mem_cons.1 hE with rfl | hE
              · exact ⟨by omega, hDW2⟩
              · exact ⟨(HMY.out.at_ E hE).1, hD2s E hE⟩⟩
            have HSN := hide hS2
            have hoN : oz < i := by have := HNN.out.2.2; omega
            clear hS2 hD2s hh hys hys' hDW2
            gi_wp2
            refine ⟨⟨next' ++ (kidsTo f i x).reverse, order ++ [x], nv, _, D2 :: Ds, _, _, _, _, _, _, _, _, _, _, _, _, _, _, _, _, _, _, _, _, _, _, _, _, _, _, _, _, _, _, _, _, _, _, _, _, _, _, _, _, _, _, _, _, _, _, _, _, _, _, _, _, _, _, rfl, HST, HSN, HMN⟩, ?_⟩
            simp [lenV]; omega
          case stop2 =>
            rintro D2 c' pre W2 _ _ hh _
            exact hh.elim
end Go.Proofs.Ytmopnceglnoncaa

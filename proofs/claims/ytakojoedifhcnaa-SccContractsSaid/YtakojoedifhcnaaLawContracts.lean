/-
  SccContracts, layer 7 (scc).
-/
import Derived.Deep.RegionLaw
import Derived.Test.YtakojoedifhcnaaTri
import Derived.Test.YtakojoedifhcnaaLarge
import Derived.Test.YtakojoedifhcnaaDown
import Derived.Test.YtakojoedifhcnaaContB
import Derived.Test.YtakojoedifhcnaaTPaths
namespace Go.Proofs.Ytakojoedifhcnaa
open Go.RowKit

theorem comps_h {g : List (List Int)} {cnt : Nat} {num : Nat → Nat} {lst : List Nat} (h : Lists (stray g) cnt num lst) (A : Option Addr) (c : Nat) (w : World) (hg : RdL w A c (cond (stray g) (idx lst num) cnt)) (hN : cnt ≤ 50) (hE : edges (stray g) ≤ 1000) :
    Calls Try.prog 9 #[.agg #[.slice A cnt c]] w fun en w' => (∃ A3 d, en = .returned (.slice A3 cnt d)) ∧ Below w.heap.size w w' := by
  have hok := cond_ok (num := idx lst num) (cnt := cnt) (stray_ok g) (fun x hx => h.lt hx)
  have h0 := comps_any A c _ w hg (by rw [cond_len]; omega) (Nat.le_trans cond_edges (by omega))
  rw [cond_len] at h0
  refine h0.mono ?_
  rintro en w' ⟨⟨sv, R, cnt', num', lst', rfl, hls, hG⟩, hb⟩
  rw [stray_self hok] at hls
  obtain ⟨A3, d, e, hd, hm⟩ := hG.form
  rw [partsTo_len, (cond_downG (stray_ok g) h).count hls.parts, cond_len] at e
  exact ⟨⟨A3, d, by rw [e]⟩, hb⟩
theorem on_h {g : List (List Int)} {cnt : Nat} {num : Nat → Nat} {lst : List Nat} (h : Lists (stray g) cnt num lst) (A : Option Addr) (c : Nat) (w : World) (hg : RdL w A c (cond (stray g) (idx lst num) cnt)) (hN : cnt ≤ 50) (hE : edges (stray g) ≤ 1000) :
    Calls Try.prog 15 #[.agg #[.slice A cnt c]] w fun en w' => (∃ F, en = .returned (.slice (some ⟨F, 0, none⟩) cnt cnt) ∧ OwnV w' w.heap.size 4 (.slice (some ⟨F, 0, none⟩) cnt cnt) (bl cnt (fun _ => false))) ∧ Below w.heap.size w w' := by
  have hok := cond_ok (num := idx lst num) (cnt := cnt) (stray_ok g) (fun x hx => h.lt hx)
  have h0 := on_any A c _ w hg (by rw [cond_len]; omega) (Nat.le_trans cond_edges (by omega))
  rw [cond_len, stray_self hok, bl_congr (h := fun _ => false) (fun i _ => (cond_downG (stray_ok g) h).none hok i)] at h0
  exact h0

set_option maxRecDepth 100000 in
set_option maxHeartbeats 8000000 in
theorem lawContracts (A : Option Addr) (c : Nat) (g : List (List Int)) (w : World) (hg : RdL w A c g) (hbig : g.length ≤ 5864062014806) :
    Calls Try.prog 6 #[.agg #[.slice A g.length c]] w (LawDone w) := by
  have hc := hg.cap
  have hc9 : c ≤ 9223372036854775807 := by unfold maxLen at hc; omega
  obtain ⟨w1, hw1⟩ : ∃ x, w.alloc (.cells #[.slice A g.length c] 24) = x := ⟨_, rfl⟩
  have hb1 : Below w.heap.size w w1 := by rw [← hw1]; exact (Below.refl _ _).alloc (Nat.le_refl _) _
  have HB1 := hide hb1
  have HG1 := hide (hg.below' hb1)
  have hx1 : w1.cell? ⟨w.heap.size, 0, none⟩ = some (.slice A g.length c) := by rw [← hw1]; simp [go_sem]
  have HK := hide (large_any A c g w1 HG1.out hbig)
  clear hg hbig hb1 hc
  go_enter Try.func6, Try.ntmps6
  go_wp2_with fail
  refine HK.out.mono ?_
  rintro en w2 ⟨rfl, hb2⟩
  have HB2 : Hid (Below w.heap.size w w2) := hide (HB1.out.trans (hb2.mono HB1.out.size))
  have HG2 := hide (HG1.out.below' hb2)
  have hx2 := (hb2.cell (p := ⟨w.heap.size, 0, none⟩) (lt_of_cell hx1)).trans hx1
  clear hb2 hw1 hx1 HK HG1 HB1
  cases hbg : bigB g with
  | true =>
    clear hbg
    go_wp2_with fail
    refine (awake_any _).mono ?_
    rintro en w3 ⟨rfl, hb3⟩
    have HZ := hide (HB2.out.trans (hb3.mono HB2.out.size))
    clear hb3
    go_wp2_with fail
    go_ret
    exact ⟨rfl, HZ.out⟩
  | false =>
    obtain ⟨h50, hE⟩ := bigB_small hbg
    have HE := hide hE
    have HKI := hide (index_any A c g w2 HG2.out (by omega) (by omega))
    clear hbg hE
    go_wp2_with fail
    refine HKI.out.mono ?_
    rintro en w3 ⟨⟨F, cnt, num, lst, rfl, hls, hF⟩, hb3⟩
    have HLS := hide hls
    have HB3 : Hid (Below w.heap.size w w3) := hide (HB2.out.trans (hb3.mono HB2.out.size))
    have HG3 := hide (HG2.out.below' hb3)
    have HF3 := hide (hF.low (b := w.heap.size) HB2.out.size)
    have hx3 := (hb3.cell (p := ⟨w.heap.size, 0, none⟩) (lt_of_cell hx2)).trans hx2
    have hcnt : cnt ≤ 50 := by have := hls.parts.le; rw [stray_len] at this; omega
    have HKC := hide (comps_any A c g w3 HG3.out (by omega) (Nat.le_trans HE.out (by decide)))
    clear hls hb3 hF HB2 HG2 hx2 HKI
    go_wp2_with fail
    refine HKC.out.mono ?_
    rintro en w4 ⟨⟨sv, R, cnt', num', lst', rfl, hls', hG⟩, hb4⟩
    obtain ⟨ec, -⟩ := HLS.out.unique (stray_ok g) hls'
    obtain ⟨A3, d, e, hd, hm⟩ := hG.form
    rw [partsTo_len, ← ec] at e
    rw [partsTo_len, ← ec] at hd
    subst e
    have hd9 : d ≤ 9223372036854775807 := by unfold maxLen at hm; omega
    have HB4 : Hid (Below w.heap.size w w4) := hide (HB3.out.trans (hb4.mono HB3.out.size))
    have HG4 := hide (HG3.out.below' hb4)
    have HF4 := hide (HF3.out.below' hb4)
    have hx4 := (hb4.cell (p := ⟨w.heap.size, 0, none⟩) (lt_of_cell hx3)).trans hx3
    have hmk := run_made w4 22 29 (.slice none 0 0) 24 Try.underlying22 infoInts rfl (Nat.le_refl _) cnt (by omega)
    obtain ⟨s, hs⟩ : ∃ s, stray g = s := ⟨_, rfl⟩
    obtain ⟨f, hf⟩ : ∃ f, idx lst num = f := ⟨_, rfl⟩
    obtain ⟨DH, hDH⟩ : ∃ x, w4.heap.size = x := ⟨_, rfl⟩
    have hsl : s.length = g.length := by rw [← hs, stray_len]
    have HFC : Hid (∀ x, x < g.length → f x < cnt) := hide fun x hx => hf ▸ HLS.out.lt (by rw [stray_len]; exact hx)
    have HSR : Hid (∀ a l, g[a]? = some l → s.getD a [] = keepRow g.length l) := hide fun a l hl => by rw [← hs, stray_getD, getD_of hl]
    have HSE : Hid (edges s ≤ 1000) := hide (by rw [← hs]; exact Nat.le_trans (stray_edges g) HE.out)
    obtain ⟨w5, h5⟩ : ∃ x, w4.alloc (.cells (madeCells #[.slice none 0 0] cnt) 29) = x := ⟨_, rfl⟩
    have hs5 : w5.heap.size = DH + 1 := by rw [← h5, World.size_alloc, hDH]
    have hb5 : Below w4.heap.size w4 w5 := by rw [← h5]; exact (Below.refl _ _).alloc (Nat.le_refl _) _
    have hL5 : OwnL w5 DH DH (List.replicate cnt (.slice none 0 0)) (cAt s f g.length cnt 0 []) := by
      rw [← h5, cAt_zero, ← hDH]; exact OwnL.made w4 w4.heap.size cnt (by unfold maxLen; omega) (Nat.le_refl _)
    obtain ⟨w6, h6⟩ : ∃ x, w5.alloc (.cells #[.slice (some ⟨DH, 0, none⟩) cnt cnt] 24) = x := ⟨_, rfl⟩
    have hb6 : Below w5.heap.size w5 w6 := by rw [← h6]; exact (Below.refl _ _).alloc (Nat.le_refl _) _
    have HL6 := hide (hL5.frm (Frm.below hb6))
    have HX6 : Hid (Whole w6 (DH + 1) 24 #[.slice (some ⟨DH, 0, none⟩) cnt cnt]) := hide (by rw [← h6, ← hs5]; exact Whole.new _ _ _)
    have HB6 : Hid (Below DH w4 w6) := hide (by rw [← hDH]; exact hb5.trans (hb6.mono hb5.size))
    have HR6 : Hid (∀ v ∈ List.replicate cnt (Value.slice none 0 0), v.ownBlock ≠ some (DH + 1)) := hide fun v hv => by
      rw [(List.mem_replicate.1 hv).2]; simp [Value.ownBlock]
    have hx6 : w6.cell? ⟨w.heap.size, 0, none⟩ = some (.slice A g.length c) := (HB6.out.cell (p := ⟨w.heap.size, 0, none⟩) (by rw [← hDH]; exact lt_of_cell hx4)).trans hx4
    have HRL : Hid ((List.replicate cnt (Value.slice none 0 0)).length = cnt) := hide (by simp)
    have hx4' := hx4
    clear hls' hG ec hm hb4 HB3 HG3 HF3 hx3 HKC hb5 hL5 hb6
    rw [hDH] at hmk
    go_wp2_with fail
    clear h5 h6 hmk hx6 hx4 hx4'
    go_loopw [30] (fun z wr => ∃ (a : Nat) (R : List Value), a ≤ g.length ∧ z = .int .i64 (a : Nat) ∧ Hid (R.length = cnt) ∧ Hid (OwnL wr DH DH R (cAt s f g.length cnt a [])) ∧ Hid (∀ v ∈ R, v.ownBlock ≠ some (DH + 1)) ∧ Hid (Whole wr (DH + 1) 24 #[.slice (some ⟨DH, 0, none⟩) cnt cnt]) ∧ Hid (Below DH w4 wr)) (fun z _ => g.length - (intOf z).toNat)
    case atStart => exact ⟨0, _, Nat.zero_le _, rfl, HRL, HL6, HR6, HX6, HB6⟩
    case round =>
      clear HL6 HX6 HB6 HR6 HRL
      obtain ⟨wq, rfl⟩ : ∃ x, x = wr := ⟨_, rfl⟩
      obtain ⟨a, R, ha, rfl, HRL, HL, HR, HX, HB⟩ := hrel
      by_cases hlt : a < g.length
      · have hlt' : (a : Int) < g.length := by omega
        obtain ⟨l, hl⟩ : ∃ l, g[a]? = some l := ⟨_, List.getElem?_eq_getElem hlt⟩
        have HBW : Hid (Below w4.heap.size w4 wq) := hide (by rw [hDH]; exact HB.out)
        obtain ⟨b, off, B, dv, rfl, hbl2, hcell2, hrow⟩ := HG4.out.at hl
        have hcell := (HBW.out.cell (p := ⟨b, off + a, none⟩) hbl2).trans hcell2
        have HRW := hide hrow
        obtain ⟨_, _, e3, hd1, hd2, -⟩ := hrow
        injection e3 with e3 e4 e5
        subst e3 e5
        have hdv9 : dv ≤ 9223372036854775807 := by unfold maxLen at hd2; omega
        have HLg := hide hl
        have HSA := hide (HSR.out a l hl)
        clear hbl2 hcell2 hd2 e4 hl
        go_wp2_with fail
        clear hcell
        go_loopw [37] (fun z wr => ∃ (j : Nat) (R : List Value), j ≤ l.length ∧ z = .int .i64 (j : Nat) ∧ Hid (R.length = cnt) ∧ Hid (OwnL wr DH DH R (cAt s f g.length cnt a (l.take j))) ∧ Hid (∀ v ∈ R, v.ownBlock ≠ some (DH + 1)) ∧ Hid (Whole wr (DH + 1) 24 #[.slice (some ⟨DH, 0, none⟩) cnt cnt]) ∧ Hid (Below DH w4 wr)) (fun z _ => l.length - (intOf z).toNat)
        case atStart => exact ⟨0, R, Nat.zero_le _, rfl, HRL, HL, HR, HX, HB⟩
        case round =>
          clear HRL HL HR HX HB HBW
          obtain ⟨wp, rfl⟩ : ∃ x, x = wr := ⟨_, rfl⟩
          obtain ⟨j, R, hj, rfl, HRL, HL, HR, HX, HB⟩ := hrel
          have HBW : Hid (Below w4.heap.size w4 wp) := hide (by rw [hDH]; exact HB.out)
          by_cases hlt2 : j < l.length
          · have hlt2' : (j : Int) < l.length := by omega
            obtain ⟨m, hm⟩ : ∃ z, l[j]? = some z := ⟨_, List.getElem?_eq_getElem hlt2⟩
            obtain ⟨b2, off2, rfl, hbl3, cx⟩ := rd_at (HRW.out.below' HBW.out) hm
            have HM := hide hm
            clear hm hbl3
            by_cases h0 : 0 ≤ m
            · obtain ⟨y, rfl⟩ := Int.eq_ofNat_of_zero_le h0
              have t1 : decide ((y : Int) < 0) = false := decide_eq_false (by omega)
              by_cases h1 : y < g.length
              · have h1' : (y : Int) < g.length := by omega
                have t2 : decide ((g.length : Int) ≤ (y : Int)) = false := decide_eq_false (by omega)
                have c1 := (HF4.out.below' HBW.out).cellAt (fl_get (idx lst num) hlt)
                have c2 := (HF4.out.below' HBW.out).cellAt (fl_get (idx lst num) h1)
                rw [hf] at c1 c2
                have hfa := HFC.out a hlt
                have hfy := HFC.out y h1
                have hfa' : (f a : Int) < cnt := by omega
                have t3 : decide ((f a : Int) < 0) = false := decide_eq_false (by omega)
                have t4 : decide ((f y : Int) < 0) = false := decide_eq_false (by omega)
                have t5 : decide ((cnt : Int) ≤ (f a : Int)) = false := decide_eq_false (by omega)
                have t6 : decide ((cnt : Int) ≤ (f y : Int)) = false := decide_eq_false (by omega)
                have cb := HX.out.cell 0
                clear h0
                go_wp2_with fail
                go_quiet (fail)
                clear c1 c2 cx t1 t2
                generalize hwn : wp.drewN _ = wn
                have hbn : Below wp.heap.size wp wn := by rw [← hwn]; exact Below.drewN' (Below.refl _ _) _
                have HLn := hide (HL.out.frm (Frm.below hbn))
                have HXn := hide (HX.out.below' hbn)
                have HBn := hide (HB.out.trans (hbn.mono (by have := HB.out.size; omega)))
                have cbn := HXn.out.cell 0
                clear hwn hbn cb
                by_cases he : f a = f y
                · have t7 : ((f a : Int) != (f y : Int)) = false := by rw [bne_eq_false_iff_eq]; omega
                  have HSK := hide (cAt_skip s f g.length cnt a HM.out (by rw [Int.toNat_natCast]; exact fun h => h.2 he.symm))
                  rw [HSK.out] at HLn
                  clear he
                  go_wp2_with fail
                  go_roundw
                  case rel => exact ⟨j + 1, R, by omega, by go_num, HRL, HLn, HR, HXn, HBn⟩
                  case measure => simp [intOf]; omega
                · have t7 : ((f a : Int) != (f y : Int)) = true := by rw [bne_iff_ne]; omega
                  have HAD := hide (cAt_add s f g.length cnt a HM.out h1 (fun e => he e.symm))
                  obtain ⟨v, hv⟩ : ∃ v, R[f a]? = some v := ⟨_, List.getElem?_eq_getElem (by rw [HRL.out]; exact hfa)⟩
                  obtain ⟨ls, hls⟩ : ∃ ls, cRow s f g.length a (l.take j) (f a) = ls := ⟨_, rfl⟩
                  have hget : (cAt s f g.length cnt a (l.take j))[f a]? = some ls := by rw [cAt_get s f g.length cnt a _ hfa, hls]
                  have hown := HLn.out.row (f a) v _ hv hget
                  have HLE : Hid (ls.length ≤ 1000) := hide (by rw [← hls]; exact Nat.le_trans (cRow_le f g.length a (by rw [hsl]; exact hlt) HSA.out j (f a)) HSE.out)
                  rw [hls] at HAD
                  have cv : wn.cell? ⟨DH, f a, none⟩ = some v := HLn.out.own.cellAt hv
                  obtain ⟨Av, cv', rfl, hcv1, hcv2, -⟩ := hown.rd
                  have hcv9 : cv' ≤ 9223372036854775807 := by unfold maxLen at hcv2; omega
                  obtain ⟨wa, hwa⟩ : ∃ x, wn.alloc (.cells #[.int .i64 (f y : Nat)] 3) = x := ⟨_, rfl⟩
                  have hfa1 : Frm wn wa [] := by rw [← hwa]; exact (Frm.refl _ _).alloc _
                  have hba : Below wn.heap.size wn wa := by rw [← hwa]; exact (Below.refl _ _).alloc (Nat.le_refl _) _
                  have hsa : wa.heap.size = wn.heap.size + 1 := by rw [← hwa, World.size_alloc]
                  have HLa := hide (HLn.out.frm hfa1)
                  have HXa := hide (HXn.out.below' hba)
                  have HO2 : Hid (OwnV wa.drew DH 3 (.slice Av ls.length cv') (ls.map (Value.int .i64))) := hide (hown.toV.frm hfa1 (fun _ _ => by simp)).drew
                  have cva : wa.cell? ⟨DH, f a, none⟩ = some (.slice Av ls.length cv') := HLa.out.own.cellAt hv
                  have cba : wa.cell? ⟨DH + 1, 0, none⟩ = some (.slice (some ⟨DH, 0, none⟩) cnt cnt) := HXa.out.cell 0
                  have hrd : RdV wa.drew (.slice (some ⟨wn.heap.size, 0, none⟩) 1 1) [.int .i64 (f y : Nat)] := by rw [← hwa]; exact rdv_one_drew _ _ _
                  have hone : ∀ q ∈ [Value.int .i64 (f y : Int)], q.oneCell' = true := by
                    intro q hq; rw [List.mem_singleton] at hq; subst hq; rfl
                  have hby : ((ls.map (Value.int .i64)).length + [Value.int .i64 (f y : Int)].length) * 8 ≤ 140737488355328 := by
                    have := HLE.out
                    simp only [List.length_map, List.length_cons, List.length_nil]; omega
                  have hml : (ls.map (Value.int .i64)).length + [Value.int .i64 (f y : Int)].length ≤ maxLen := by
                    have := HLE.out
                    unfold maxLen; simp only [List.length_map, List.length_cons, List.length_nil]; omega
                  have hB2 : DH ≤ wa.drew.heap.size := by
                    show DH ≤ wa.heap.size
                    have := HBn.out.size
                    omega
                  have HAFT : Hid (∀ v' w5, OwnV w5 DH 3 v' (ls.map (Value.int .i64) ++ [.int .i64 (f y : Int)]) → Frm wa.drew w5 (Value.slice Av ls.length cv').ownBlock.toList → (v'.ownBlock = (Value.slice Av ls.length cv').ownBlock ∨ v'.ownBlock = some wa.drew.heap.size) →
                      ∃ A5 c5, v' = .slice A5 (ls.length + 1) c5 ∧ w5.cell? ⟨DH + 1, 0, none⟩ = some (.slice (some ⟨DH, 0, none⟩) cnt cnt) ∧ w5.cell? ⟨DH, f a, none⟩ = some (.slice Av ls.length cv') ∧ w5.frozen? ⟨DH, f a, none⟩ = false ∧
                        Hid (OwnL (w5.setCell ⟨DH, f a, none⟩ v') DH DH (R.set (f a) v') (cAt s f g.length cnt a (l.take (j + 1))) ∧ (∀ u ∈ R.set (f a) v', u.ownBlock ≠ some (DH + 1)) ∧ Whole (w5.setCell ⟨DH, f a, none⟩ v') (DH + 1) 24 #[.slice (some ⟨DH, 0, none⟩) cnt cnt] ∧ Below DH w4 (w5.setCell ⟨DH, f a, none⟩ v'))) := hide (by
                    intro v' w5 ho5 hf5 hb5
                    have hf5' : Frm wa w5 (Value.slice Av ls.length cv').ownBlock.toList := (Frm.drew _ _).trans hf5
                    have hb5' : v'.ownBlock = (Value.slice Av ls.length cv').ownBlock ∨ ∀ g', v'.ownBlock = some g' → wa.heap.size ≤ g' := hb5.imp id (fun h g' hg' => by rw [h] at hg'; injection hg' with e; exact Nat.le_of_eq e)
                    have ho6 : Own w5 DH 3 .i64 v' (ls ++ [(f y : Int)]) := OwnV.toI (by rw [List.map_append]; exact ho5)
                    have hP := HLa.out.push hv hget hf5' ho6 hb5'
                    rw [HAD.out] at hP
                    have hvR : (Value.slice Av ls.length cv').ownBlock ≠ some (DH + 1) := HR.out _ (List.mem_of_getElem? hv)
                    have hDn : DH ∉ (Value.slice Av ls.length cv').ownBlock.toList := fun hg => HLn.out.apart (f a) _ hv (by simpa using hg)
                    have hX5 : Whole w5 (DH + 1) 24 #[.slice (some ⟨DH, 0, none⟩) cnt cnt] := HXa.out.frm hf5' (fun hg => hvR (by simpa using hg))
                    have hO5 := HLa.out.own.frm hf5' (fun g' hg' => by
                      have e : DH = g' := by simpa [Value.ownBlock] using hg'
                      subst e
                      exact hDn)
                    have hxl := HXa.out.lt
                    obtain ⟨A5, c5, e9, -, -, -⟩ := ho6.rd
                    rw [List.length_append, List.length_singleton] at e9
                    refine ⟨A5, c5, e9, hX5.cell 0, hO5.cellAt hv, hO5.freeAt (f a), hide ⟨hP, fun u hu => ?_, hX5.far (by show DH + 1 ≠ DH; omega) _, ?_⟩⟩
                    · rcases List.mem_or_eq_of_mem_set hu with hu | rfl
                      · exact HR.out u hu
                      · rcases hb5' with e | e
                        · rw [e]; exact hvR
                        · intro c; have := e _ c; omega
                    · exact ((HBn.out.trans (hba.mono (by have := HBn.out.size; omega))).trans (hf5'.toBelow (fun g' hg' => (hown.size g' (by simpa using hg')).1) (by have := HBn.out.size; omega))).setCell (p := ⟨DH, f a, none⟩) (Nat.le_refl _) _)
                  clear he hv hls hget hown hcv1 hcv2 hfa1 hba t3 t4 t5 t6 HLn HLa HXa
                  go_upto_region 18 with fail
                  go_region_law (refine step_append_v rfl (.tmp 87) (.tmp 89) 29 rfl DH 3 (.int .i64 0) 8 intV (.slice Av ls.length cv') (ls.map (Value.int .i64)) (by simp [Act.eval]) HO2.out (.slice (some ⟨wn.heap.size, 0, none⟩) 1 1) [.int .i64 (f y : Int)] (by simp [Act.eval]) hrd hone hby hml hB2 ?_; intro v' w5 ho5 hf5 hb5; obtain ⟨A5, c5, rfl, cb6, cv6, fr6, HP⟩ := HAFT.out v' w5 ho5 hf5 hb5; clear ho5 hf5 hb5)
                  all_goals
                    go_wp2_with fail
                    go_roundw
                    case rel => exact ⟨j + 1, R.set (f a) _, by omega, by go_num, hide (by rw [List.length_set]; exact HRL.out), hide HP.out.1, hide HP.out.2.1, hide HP.out.2.2.1, hide HP.out.2.2.2⟩
                    case measure => simp [intOf]; omega
              · have t2 : decide ((g.length : Int) ≤ (y : Int)) = true := decide_eq_true (by omega)
                have HSK := hide (cAt_skip s f g.length cnt a HM.out (by omega))
                rw [HSK.out] at HL
                clear h0
                go_wp2_with fail
                go_roundw
                case rel => exact ⟨j + 1, R, by omega, by go_num, HRL, HL, HR, HX, HB⟩
                case measure => simp [intOf]; omega
            · have t1 : decide (m < 0) = true := decide_eq_true (by omega)
              have t1' : m < 0 := by omega
              have HSK := hide (cAt_skip s f g.length cnt a HM.out (by omega))
              rw [HSK.out] at HL
              clear h0
              go_wp2_with fail
              go_roundw
              case rel => exact ⟨j + 1, R, by omega, by go_num, HRL, HL, HR, HX, HB⟩
              case measure => simp [intOf]; omega
          · obtain rfl : j = l.length := by omega
            rw [List.take_length, cAt_row s f g.length cnt a HSA.out] at HL
            go_wp2_with fail
            go_roundw
            case rel => exact ⟨a + 1, R, by omega, by go_num, HRL, HL, HR, HX, HB⟩
            case measure => simp [intOf]; omega
      · obtain rfl : a = g.length := by omega
        have hL := HL.out
        rw [← hsl] at hL
        rw [show cAt s f s.length cnt s.length [] = cond s f cnt from cAt_end s f s.length cnt] at hL
        have hrd := hL.rd
        rw [HRL.out, ← hs, ← hf] at hrd
        have HG : Hid (RdL wq.drew (some ⟨DH, 0, none⟩) cnt (cond (stray g) (idx lst num) cnt)) := hide (hrd.below' (Below.refl _ _).drew)
        have HBT : Hid (Below w.heap.size w wq.drew) := hide (HB4.out.trans (HB.out.mono (by rw [← hDH]; exact HB4.out.size))).drew
        have cc : wq.drew.cell? ⟨DH + 1, 0, none⟩ = some (.slice (some ⟨DH, 0, none⟩) cnt cnt) := HX.out.cell 0
        have HSE2 : Hid (edges (stray g) ≤ 1000) := hide (by rw [hs]; exact HSE.out)
        clear hL hrd HL HX HR HB HRL
        go_upto_region 21 with fail
        go_region_held3 (fun w' => w'.cell? ⟨DH + 1, 0, none⟩ = some (.slice (some ⟨DH, 0, none⟩) cnt cnt)) (first | exact cc) (first | (go_at_call 8; refine (awake_any _).mono ?_; rintro en w7 ⟨rfl, hb⟩; replace cc := (hb.cell (p := ⟨DH + 1, 0, none⟩) (lt_of_cell cc)).trans cc; replace HG := hide (HG.out.below' hb); replace HBT := hide (HBT.out.trans (hb.mono HBT.out.size)); clear hb) | (go_at_call 9; refine (comps_h HLS.out _ _ _ HG.out hcnt HSE2.out).mono ?_; rintro en w8 ⟨⟨A8, d8, rfl⟩, hb⟩; replace cc := (hb.cell (p := ⟨DH + 1, 0, none⟩) (lt_of_cell cc)).trans cc; replace HG := hide (HG.out.below' hb); replace HBT := hide (HBT.out.trans (hb.mono HBT.out.size)); clear hb) | (go_at_call 15; refine (on_h HLS.out _ _ _ HG.out hcnt HSE2.out).mono ?_; rintro en w9 ⟨⟨F9, rfl, hF9⟩, hb⟩; have HF9 := hide hF9.rd; replace cc := (hb.cell (p := ⟨DH + 1, 0, none⟩) (lt_of_cell cc)).trans cc; replace HG := hide (HG.out.below' hb); replace HBT := hide (HBT.out.trans (hb.mono HBT.out.size)); clear hb hF9) | (go_at_call 17; refine (contb_any _ cnt _ HF9.out).mono ?_; rintro en w10 ⟨rfl, hb⟩; replace cc := (hb.cell (p := ⟨DH + 1, 0, none⟩) (lt_of_cell cc)).trans cc; replace HBT := hide (HBT.out.trans (hb.mono HBT.out.size)); clear hb HF9))
        all_goals
          clear cc HG
          go_wp2_with fail
          go_ret
          exact ⟨rfl, HBT.out⟩
end Go.Proofs.Ytakojoedifhcnaa

/-
  SccComponents, layer 7 (scc).
-/
import Derived.Test.YtakojoedifhcnaaTri
import Derived.Test.YtakojoedifhcnaaLarge
import Derived.Test.YtakojoedifhcnaaTRefIdx
namespace Go.Proofs.Ytakojoedifhcnaa
open Go.RowKit

/-- What the law holds: the graph, and the components twice. -/
structure Two (w0 w : World) (tb : Nat) (A : Option Addr) (c : Nat) (g : List (List Int)) (base d d' cnt : Nat) (A3 A4 : Option Addr) (R R' : List Value) (f : Nat → Nat) : Prop where
  gr : RdL w A c g
  cell : w.cell? ⟨tb, 0, none⟩ = some (.slice A g.length c)
  one : OwnG w base (.slice A3 cnt d) R (partsTo f g.length cnt)
  two : OwnG w base (.slice A4 cnt d') R' (partsTo f g.length cnt)
  below : Below w0.heap.size w0 w
theorem Two.next {w0 w w' : World} {tb : Nat} {A : Option Addr} {c : Nat} {g : List (List Int)} {base d d' cnt : Nat} {A3 A4 : Option Addr} {R R' : List Value} {f : Nat → Nat} (h : Two w0 w tb A c g base d d' cnt A3 A4 R R' f) (hb : Below w.heap.size w w') : Two w0 w' tb A c g base d d' cnt A3 A4 R R' f :=
  ⟨h.gr.below' hb, (hb.cell (p := ⟨tb, 0, none⟩) (lt_of_cell h.cell)).trans h.cell, h.one.frm (Frm.below hb), h.two.frm (Frm.below hb), h.below.trans (hb.mono h.below.size)⟩
theorem comps_two (A : Option Addr) (c : Nat) (g : List (List Int)) (w : World) (hg : RdL w A c g) (hN : g.length ≤ 50) (hE : edges g ≤ 1000) :
    Calls Try.prog 9 #[.agg #[.slice A g.length c]] w fun en w' => (∃ A3 d R cnt num lst, en = .returned (.slice A3 cnt d) ∧ d ≤ 9223372036854775807 ∧ Lists (stray g) cnt num lst ∧ OwnG w' w.heap.size (.slice A3 cnt d) R (partsTo (idx lst num) g.length cnt)) ∧ Below w.heap.size w w' := by
  refine (comps_any A c g w hg (by omega) (by omega)).mono ?_
  rintro en w' ⟨⟨sv, R, cnt, num, lst, rfl, hls, hG⟩, hb⟩
  obtain ⟨A3, d, e, hd, hm⟩ := hG.form
  rw [partsTo_len] at e
  subst e
  exact ⟨⟨A3, d, R, cnt, num, lst, rfl, by unfold maxLen at hm; omega, hls, hG⟩, hb⟩
theorem rcomps_two {g : List (List Int)} {cnt : Nat} {num : Nat → Nat} {lst : List Nat} (h : Lists (stray g) cnt num lst) (A : Option Addr) (c : Nat) (w : World) (hg : RdL w A c g) (hN : g.length ≤ 50) :
    Calls Try.prog 10 #[.agg #[.slice A g.length c]] w fun en w' => (∃ A3 d R, en = .returned (.slice A3 cnt d) ∧ d ≤ 9223372036854775807 ∧ OwnG w' w.heap.size (.slice A3 cnt d) R (partsTo (idx lst num) g.length cnt)) ∧ Below w.heap.size w w' := by
  refine (rcomps_any A c g cnt num w hg hN h.parts).mono ?_
  rintro en w' ⟨⟨sv, R, lst', rfl, hls, hG⟩, hb⟩
  have e := h.same' hls
  subst e
  rw [h.maps] at hG
  obtain ⟨A3, d, e, hd, hm⟩ := hG.form
  rw [partsTo_len] at e
  subst e
  exact ⟨⟨A3, d, R, rfl, by unfold maxLen at hm; omega, hG⟩, hb⟩
theorem index_two {g : List (List Int)} {cnt : Nat} {num : Nat → Nat} {lst : List Nat} (h : Lists (stray g) cnt num lst) (A : Option Addr) (c : Nat) (w : World) (hg : RdL w A c g) (hN : g.length ≤ 50) (hE : edges g ≤ 1000) :
    Calls Try.prog 12 #[.agg #[.slice A g.length c]] w fun en w' => (∃ F, en = .returned (.slice (some ⟨F, 0, none⟩) g.length g.length) ∧ Own w' w.heap.size 3 .i64 (.slice (some ⟨F, 0, none⟩) g.length g.length) (fl g.length (idx lst num))) ∧ Below w.heap.size w w' := by
  refine (index_any A c g w hg (by omega) (by omega)).mono ?_
  rintro en w' ⟨⟨F, cnt', num', lst', rfl, hls, hF⟩, hb⟩
  obtain ⟨-, e⟩ := h.unique (stray_ok g) hls
  rw [fl_ext (h := idx lst num) (fun i hi => (e i (by rw [stray_len]; exact hi)).symm)] at hF
  exact ⟨⟨F, rfl, hF⟩, hb⟩

set_option maxRecDepth 100000 in
set_option maxHeartbeats 8000000 in
theorem lawComps (A : Option Addr) (c : Nat) (g : List (List Int)) (w : World) (hg : RdL w A c g) (hbig : g.length ≤ 5864062014806) :
    Calls Try.prog 3 #[.agg #[.slice A g.length c]] w (LawDone w) := by
  have hc := hg.cap
  have hc9 : c ≤ 9223372036854775807 := by unfold maxLen at hc; omega
  obtain ⟨w1, hw1⟩ : ∃ x, w.alloc (.cells #[.slice A g.length c] 24) = x := ⟨_, rfl⟩
  have hb1 : Below w.heap.size w w1 := by rw [← hw1]; exact (Below.refl _ _).alloc (Nat.le_refl _) _
  have HB1 := hide hb1
  have HG1 := hide (hg.below' hb1)
  have hx1 : w1.cell? ⟨w.heap.size, 0, none⟩ = some (.slice A g.length c) := by rw [← hw1]; simp [go_sem]
  have HK := hide (large_any A c g w1 HG1.out hbig)
  clear hg hbig hb1 hc
  go_enter Try.func3, Try.ntmps3
  go_wp2_with fail
  refine HK.out.mono ?_
  rintro en w2 ⟨rfl, hb2⟩
  have HB2 : Hid (Below w.heap.size w w2) := hide (HB1.out.trans (hb2.mono HB1.out.size))
  have HG2 := hide (HG1.out.below' hb2)
  have hx2 := (hb2.cell (p := ⟨w.heap.size, 0, none⟩) (lt_of_cell hx1)).trans hx1
  clear hb2 hw1 hx1 HK HG1 HB1
  cases hbg : bigB g with
  | true =>
    clear hbg
    go_wp2_with fail
    refine (awake_any _).mono ?_
    rintro en w3 ⟨rfl, hb3⟩
    have HZ := hide (HB2.out.trans (hb3.mono HB2.out.size))
    clear hb3
    go_wp2_with fail
    go_ret
    exact ⟨rfl, HZ.out⟩
  | false =>
    obtain ⟨h50, hE⟩ := bigB_small hbg
    have HE := hide hE
    clear hbg hE
    go_upto_region 3 with fail
    have cc : w2.drew.cell? ⟨w.heap.size, 0, none⟩ = some (.slice A g.length c) := hx2
    have HG : Hid (RdL w2.drew A c g) := hide (HG2.out.below' (Below.refl _ _).drew)
    have HB : Hid (Below w.heap.size w w2.drew) := hide HB2.out.drew
    clear HG2 HB2 hx2
    go_region_held3 (fun w' => w'.cell? ⟨w.heap.size, 0, none⟩ = some (.slice A g.length c)) (first | exact cc) (first | (go_at_call 9; refine (comps_two A c g _ HG.out h50 HE.out).mono ?_; rintro en w3 ⟨⟨A3, d, R, cnt, num, lst, rfl, hd, hls, hG3⟩, hb⟩; have HP := hide (hG3.low HB.out.size); have HLS := hide hls; replace cc := (hb.cell (p := ⟨w.heap.size, 0, none⟩) (lt_of_cell cc)).trans cc; replace HG := hide (HG.out.below' hb); replace HB := hide (HB.out.trans (hb.mono HB.out.size)); clear hb hls hG3) | (go_at_call 10; refine (rcomps_two HLS.out A c _ HG.out h50).mono ?_; rintro en w4 ⟨⟨A4, d', R', rfl, hd', hG4⟩, hb⟩; have HQ := hide (hG4.low HB.out.size); replace HP := hide (HP.out.frm (Frm.below hb)); replace cc := (hb.cell (p := ⟨w.heap.size, 0, none⟩) (lt_of_cell cc)).trans cc; replace HG := hide (HG.out.below' hb); replace HB := hide (HB.out.trans (hb.mono HB.out.size)); clear hb hG4))
    all_goals
      have HJ : Hid (Two w w4 w.heap.size A c g w.heap.size d d' cnt A3 A4 R R' (idx lst num)) := hide ⟨HG.out, cc, HP.out, HQ.out, HB.out⟩
      obtain ⟨f, hf⟩ : ∃ f, idx lst num = f := ⟨_, rfl⟩
      rw [hf] at HJ
      have hcnt : cnt ≤ 50 := by have := HLS.out.parts.le; rw [stray_len] at this; omega
      clear HG HP HQ HB
      go_wp2_with fail
      clear cc
      go_loopw [20] (fun z wr => ∃ i : Nat, i ≤ cnt ∧ z = .int .i64 (i : Nat) ∧ Hid (Two w wr w.heap.size A c g w.heap.size d d' cnt A3 A4 R R' f)) (fun z _ => cnt - (intOf z).toNat)
      case atStart => exact ⟨0, Nat.zero_le _, rfl, HJ⟩
      case round =>
        clear HJ
        obtain ⟨wq, rfl⟩ : ∃ x, x = wr := ⟨_, rfl⟩
        obtain ⟨i, hi, rfl, HJ⟩ := hrel
        by_cases hlt : i < cnt
        · have hlt' : (i : Int) < cnt := by omega
          obtain ⟨v, hv⟩ : ∃ v, R[i]? = some v := ⟨_, List.getElem?_eq_getElem (by rw [HJ.out.one.len, partsTo_len]; exact hlt)⟩
          obtain ⟨u, hu⟩ : ∃ v, R'[i]? = some v := ⟨_, List.getElem?_eq_getElem (by rw [HJ.out.two.len, partsTo_len]; exact hlt)⟩
          obtain ⟨D, d3, e3, -, -, -, -⟩ := HJ.out.one.own.form (by rw [HJ.out.one.len, partsTo_len]; omega)
          injection e3 with e3 e4 e5
          subst e3
          obtain ⟨D', d4, e6, -, -, -, -⟩ := HJ.out.two.own.form (by rw [HJ.out.two.len, partsTo_len]; omega)
          injection e6 with e6 e7 e8
          subst e6
          have c1 := HJ.out.one.own.cellAt hv
          have c2 := HJ.out.two.own.cellAt hu
          have HR1 := hide (HJ.out.one.row i v _ hv (partsTo_get f g.length hlt)).rd
          have HR2 := hide (HJ.out.two.row i u _ hu (partsTo_get f g.length hlt)).rd
          clear hv hu e4 e5 e7 e8
          go_upto_region 9 with fail
          have HJD := hide (HJ.out.next (Below.refl _ _).drew)
          have HEQ := hide (eq_same (HR1.out.below' (Below.refl _ _).drew) (HR2.out.below' (Below.refl _ _).drew))
          have k1 : wq.drew.cell? ⟨D, i, none⟩ = some v := c1
          have k2 : wq.drew.cell? ⟨D', i, none⟩ = some u := c2
          clear HJ HR1 HR2 c1 c2
          go_region_held3 (fun w' => w'.cell? ⟨D, i, none⟩ = some v ∧ w'.cell? ⟨D', i, none⟩ = some u) (first | exact ⟨k1, k2⟩) (first | (go_at_call 11; refine HEQ.out.mono ?_; rintro en w6 ⟨rfl, hb⟩; replace k1 := (hb.cell (p := ⟨D, i, none⟩) (lt_of_cell k1)).trans k1; replace k2 := (hb.cell (p := ⟨D', i, none⟩) (lt_of_cell k2)).trans k2; have HJ := hide (HJD.out.next hb); clear hb))
          all_goals
            clear HJD HEQ k1 k2
            go_wp2_with fail
            go_roundw
            case rel => exact ⟨i + 1, by omega, by go_num, HJ⟩
            case measure => simp [intOf]; omega
        · obtain rfl : i = cnt := by omega
          have cc := HJ.out.cell
          have HG := hide HJ.out.gr
          have HB := hide HJ.out.below
          clear HJ
          go_upto_region 12 with fail
          replace cc : wq.drew.cell? ⟨w.heap.size, 0, none⟩ = some (.slice A g.length c) := cc
          replace HG : Hid (RdL wq.drew A c g) := hide (HG.out.below' (Below.refl _ _).drew)
          replace HB : Hid (Below w.heap.size w wq.drew) := hide HB.out.drew
          go_region_held3 (fun w' => w'.cell? ⟨w.heap.size, 0, none⟩ = some (.slice A g.length c)) (first | exact cc) (first | (go_at_call 8; refine (awake_any _).mono ?_; rintro en w3 ⟨rfl, hb⟩; replace cc := (hb.cell (p := ⟨w.heap.size, 0, none⟩) (lt_of_cell cc)).trans cc; replace HG := hide (HG.out.below' hb); replace HB := hide (HB.out.trans (hb.mono HB.out.size)); clear hb) | (go_at_call 12; refine (index_two HLS.out A c _ HG.out h50 HE.out).mono ?_; rintro en w4 ⟨⟨F, rfl, hF⟩, hb⟩; have HF := hide hF.rd; replace cc := (hb.cell (p := ⟨w.heap.size, 0, none⟩) (lt_of_cell cc)).trans cc; replace HG := hide (HG.out.below' hb); replace HB := hide (HB.out.trans (hb.mono HB.out.size)); clear hb hF) | (go_at_call 13; refine (rindex_any A c g _ _ _ _ HG.out h50 HLS.out).mono ?_; rintro en w5 ⟨⟨F2, rfl, hS⟩, hb⟩; have HS := hide hS.rd; replace HF := hide (HF.out.below' hb); replace cc := (hb.cell (p := ⟨w.heap.size, 0, none⟩) (lt_of_cell cc)).trans cc; replace HG := hide (HG.out.below' hb); replace HB := hide (HB.out.trans (hb.mono HB.out.size)); clear hb hS) | (go_at_call 11; refine (eq_same HF.out HS.out).mono ?_; rintro en w6 ⟨rfl, hb⟩; replace cc := (hb.cell (p := ⟨w.heap.size, 0, none⟩) (lt_of_cell cc)).trans cc; replace HB := hide (HB.out.trans (hb.mono HB.out.size)); clear hb HF HS))
          all_goals
            clear cc HG
            go_wp2_with fail
            go_ret
            exact ⟨rfl, HB.out⟩
end Go.Proofs.Ytakojoedifhcnaa

/-
  SccOrders, layer 7 (scc).
-/
import Derived.Test.YtakojoedifhcnaaTri
import Derived.Test.YtakojoedifhcnaaLarge
import Derived.Test.YtakojoedifhcnaaLists
import Derived.Test.YtakojoedifhcnaaTPaths
namespace Go.Proofs.Ytakojoedifhcnaa
open Go.RowKit

/-- What the law holds: the graph, its components, their index, and who lies on a cycle. -/
structure Ord (w0 w : World) (tb : Nat) (A : Option Addr) (c : Nat) (g : List (List Int)) (base d F1 F2 cnt : Nat) (A3 : Option Addr) (R : List Value) (f : Nat → Nat) : Prop where
  gr : RdL w A c g
  cell : w.cell? ⟨tb, 0, none⟩ = some (.slice A g.length c)
  parts : OwnG w base (.slice A3 cnt d) R (partsTo f g.length cnt)
  index : Own w base 3 .i64 (.slice (some ⟨F1, 0, none⟩) g.length g.length) (fl g.length f)
  on : OwnV w base 4 (.slice (some ⟨F2, 0, none⟩) g.length g.length) (bl g.length (fun x => path1B (stray g) x x))
  below : Below w0.heap.size w0 w
theorem Ord.next {w0 w w' : World} {tb : Nat} {A : Option Addr} {c : Nat} {g : List (List Int)} {base d F1 F2 cnt : Nat} {A3 : Option Addr} {R : List Value} {f : Nat → Nat} (h : Ord w0 w tb A c g base d F1 F2 cnt A3 R f) (hb : Below w.heap.size w w') : Ord w0 w' tb A c g base d F1 F2 cnt A3 R f :=
  ⟨h.gr.below' hb, (hb.cell (p := ⟨tb, 0, none⟩) (lt_of_cell h.cell)).trans h.cell, h.parts.frm (Frm.below hb), h.index.below' hb, h.on.below' hb, h.below.trans (hb.mono h.below.size)⟩
theorem comps_ord (A : Option Addr) (c : Nat) (g : List (List Int)) (w : World) (hg : RdL w A c g) (hN : g.length ≤ 50) (hE : edges g ≤ 1000) :
    Calls Try.prog 9 #[.agg #[.slice A g.length c]] w fun en w' => (∃ A3 d R cnt num lst, en = .returned (.slice A3 cnt d) ∧ d ≤ 9223372036854775807 ∧ Lists (stray g) cnt num lst ∧ OwnG w' w.heap.size (.slice A3 cnt d) R (partsTo (idx lst num) g.length cnt)) ∧ Below w.heap.size w w' := by
  refine (comps_any A c g w hg (by omega) (by omega)).mono ?_
  rintro en w' ⟨⟨sv, R, cnt, num, lst, rfl, hls, hG⟩, hb⟩
  obtain ⟨A3, d, e, hd, hm⟩ := hG.form
  rw [partsTo_len] at e
  subst e
  exact ⟨⟨A3, d, R, cnt, num, lst, rfl, by unfold maxLen at hm; omega, hls, hG⟩, hb⟩
theorem index_ord {g : List (List Int)} {cnt : Nat} {num : Nat → Nat} {lst : List Nat} (h : Lists (stray g) cnt num lst) (A : Option Addr) (c : Nat) (w : World) (hg : RdL w A c g) (hN : g.length ≤ 50) (hE : edges g ≤ 1000) :
    Calls Try.prog 12 #[.agg #[.slice A g.length c]] w fun en w' => (∃ F, en = .returned (.slice (some ⟨F, 0, none⟩) g.length g.length) ∧ Own w' w.heap.size 3 .i64 (.slice (some ⟨F, 0, none⟩) g.length g.length) (fl g.length (idx lst num))) ∧ Below w.heap.size w w' := by
  refine (index_any A c g w hg (by omega) (by omega)).mono ?_
  rintro en w' ⟨⟨F, cnt', num', lst', rfl, hls, hF⟩, hb⟩
  obtain ⟨-, e⟩ := h.unique (stray_ok g) hls
  rw [fl_ext (h := idx lst num) (fun i hi => (e i (by rw [stray_len]; exact hi)).symm)] at hF
  exact ⟨⟨F, rfl, hF⟩, hb⟩

set_option maxRecDepth 100000 in
set_option maxHeartbeats 8000000 in
theorem lawOrders (A : Option Addr) (c : Nat) (g : List (List Int)) (w : World) (hg : RdL w A c g) (hbig : g.length ≤ 5864062014806) :
    Calls Try.prog 5 #[.agg #[.slice A g.length c]] w (LawDone w) := by
  have hc := hg.cap
  have hc9 : c ≤ 9223372036854775807 := by unfold maxLen at hc; omega
  obtain ⟨w1, hw1⟩ : ∃ x, w.alloc (.cells #[.slice A g.length c] 24) = x := ⟨_, rfl⟩
  have hb1 : Below w.heap.size w w1 := by rw [← hw1]; exact (Below.refl _ _).alloc (Nat.le_refl _) _
  have HB1 := hide hb1
  have HG1 := hide (hg.below' hb1)
  have hx1 : w1.cell? ⟨w.heap.size, 0, none⟩ = some (.slice A g.length c) := by rw [← hw1]; simp [go_sem]
  have HK := hide (large_any A c g w1 HG1.out hbig)
  clear hg hbig hb1 hc
  go_enter Try.func5, Try.ntmps5
  go_wp2_with fail
  refine HK.out.mono ?_
  rintro en w2 ⟨rfl, hb2⟩
  have HB2 : Hid (Below w.heap.size w w2) := hide (HB1.out.trans (hb2.mono HB1.out.size))
  have HG2 := hide (HG1.out.below' hb2)
  have hx2 := (hb2.cell (p := ⟨w.heap.size, 0, none⟩) (lt_of_cell hx1)).trans hx1
  clear hb2 hw1 hx1 HK HG1 HB1
  cases hbg : bigB g with
  | true =>
    clear hbg
    go_wp2_with fail
    refine (awake_any _).mono ?_
    rintro en w3 ⟨rfl, hb3⟩
    have HZ := hide (HB2.out.trans (hb3.mono HB2.out.size))
    clear hb3
    go_wp2_with fail
    go_ret
    exact ⟨rfl, HZ.out⟩
  | false =>
    obtain ⟨h50, hE⟩ := bigB_small hbg
    have HE := hide hE
    clear hbg hE
    go_upto_region 3 with fail
    have cc : w2.drew.cell? ⟨w.heap.size, 0, none⟩ = some (.slice A g.length c) := hx2
    have HG : Hid (RdL w2.drew A c g) := hide (HG2.out.below' (Below.refl _ _).drew)
    have HB : Hid (Below w.heap.size w w2.drew) := hide HB2.out.drew
    clear HG2 HB2 hx2
    go_region_held3 (fun w' => w'.cell? ⟨w.heap.size, 0, none⟩ = some (.slice A g.length c)) (first | exact cc) (first | (go_at_call 9; refine (comps_ord A c g _ HG.out h50 HE.out).mono ?_; rintro en w3 ⟨⟨A3, d, R, cnt, num, lst, rfl, hd, hls, hG3⟩, hb⟩; have HP := hide (hG3.low HB.out.size); have HLS := hide hls; replace cc := (hb.cell (p := ⟨w.heap.size, 0, none⟩) (lt_of_cell cc)).trans cc; replace HG := hide (HG.out.below' hb); replace HB := hide (HB.out.trans (hb.mono HB.out.size)); clear hb hls hG3) | (go_at_call 12; refine (index_ord HLS.out A c _ HG.out h50 HE.out).mono ?_; rintro en w4 ⟨⟨F1, rfl, hF⟩, hb⟩; have HI := hide (hF.low HB.out.size); replace HP := hide (HP.out.frm (Frm.below hb)); replace cc := (hb.cell (p := ⟨w.heap.size, 0, none⟩) (lt_of_cell cc)).trans cc; replace HG := hide (HG.out.below' hb); replace HB := hide (HB.out.trans (hb.mono HB.out.size)); clear hb hF) | (go_at_call 15; refine (on_any A c g _ HG.out (by omega) (Nat.le_trans HE.out (by decide))).mono ?_; rintro en w5 ⟨⟨F2, rfl, hF⟩, hb⟩; have HO := hide (hF.low HB.out.size); replace HP := hide (HP.out.frm (Frm.below hb)); replace HI := hide (HI.out.below' hb); replace cc := (hb.cell (p := ⟨w.heap.size, 0, none⟩) (lt_of_cell cc)).trans cc; replace HG := hide (HG.out.below' hb); replace HB := hide (HB.out.trans (hb.mono HB.out.size)); clear hb hF))
    all_goals
      obtain ⟨f, hf⟩ : ∃ f, idx lst num = f := ⟨_, rfl⟩
      have HJ : Hid (Ord w w5 w.heap.size A c g w.heap.size d F1 F2 cnt A3 R f) := hide ⟨HG.out, cc, hf ▸ HP.out, hf ▸ HI.out, HO.out, HB.out⟩
      have HFC : Hid (∀ x, x < g.length → f x < cnt) := hide fun x hx => hf ▸ HLS.out.lt (by rw [stray_len]; exact hx)
      have HED : Hid (∀ x y, x < g.length → y ∈ succs (stray g) x → f y ≤ f x) := hide fun x y hx hy => hf ▸ HLS.out.edge (stray_ok g) (by rw [stray_len]; exact hx) hy
      have HON : Hid (∀ x l, g[x]? = some l → path1B (stray g) x x = (decide (1 < cntTo f g.length (f x)) || decide ((x : Int) ∈ l))) := hide fun x l hl => by rw [← hf]; exact on_math HLS.out hl
      have hcnt : cnt ≤ 50 := by have := HLS.out.parts.le; rw [stray_len] at this; omega
      clear HG HP HI HO HB HLS hf
      go_wp2_with fail
      clear cc
      go_loopw [7, 41] (fun s z wr => ∃ i : Nat, i ≤ cnt ∧ z = .int .i64 (i : Nat) ∧ s = .int .i64 (tot f g.length i : Nat) ∧ Hid (Ord w wr w.heap.size A c g w.heap.size d F1 F2 cnt A3 R f)) (fun _ z _ => cnt - (intOf z).toNat)
      case atStart => exact ⟨0, Nat.zero_le _, rfl, rfl, HJ⟩
      case round =>
        clear HJ
        obtain ⟨wq, rfl⟩ : ∃ x, x = wr := ⟨_, rfl⟩
        obtain ⟨i, hi, rfl, rfl, HJ⟩ := hrel
        by_cases hlt : i < cnt
        · have hlt' : (i : Int) < cnt := by omega
          obtain ⟨v, hv⟩ : ∃ v, R[i]? = some v := ⟨_, List.getElem?_eq_getElem (by rw [HJ.out.parts.len, partsTo_len]; exact hlt)⟩
          obtain ⟨D, d3, e3, -, -, -, -⟩ := HJ.out.parts.own.form (by rw [HJ.out.parts.len, partsTo_len]; omega)
          injection e3 with e3 e4 e5
          subst e3
          have c1 := HJ.out.parts.own.cellAt hv
          have hrow := (HJ.out.parts.row i v _ hv (partsTo_get f g.length hlt)).rd
          obtain ⟨l, hl⟩ : ∃ l, part g.length f i = l := ⟨_, rfl⟩
          have HTS : Hid (tot f g.length (i + 1) = tot f g.length i + l.length) := hide (by rw [tot_succ, hl])
          have htl : tot f g.length i ≤ 50 := by
            have h1 := tot_le f g.length (i := i) (m := cnt) (by omega)
            rw [tot_all f cnt g.length HFC.out] at h1
            omega
          have hll : l.length ≤ 50 := by have := part_lt (n := g.length) (f := f) (k := i); rw [hl] at this; omega
          have HPM : Hid (∀ (j : Nat) (z : Int), l[j]? = some z → ∃ x : Nat, z = x ∧ x < g.length ∧ f x = i) := hide fun j z hz => part_mem (f := f) (n := g.length) (k := i) (j := j) (by rw [hl]; exact hz)
          have HPS : Hid (l.Pairwise (· < ·)) := hide (hl ▸ part_sorted f g.length i)
          rw [hl] at hrow
          have HRW := hide hrow
          obtain ⟨B, dv, rfl, hd1, hd2, -⟩ := hrow
          have hd9 : dv ≤ 9223372036854775807 := by unfold maxLen at hd2; omega
          obtain ⟨T, hT⟩ : ∃ T, tot f g.length i = T := ⟨_, rfl⟩
          rw [hT] at HTS htl ⊢
          clear hd2 hv hl e4 e5 hT
          go_wp2_with fail
          clear c1
          go_loopw [7, 48] (fun s z wr => ∃ j : Nat, j ≤ l.length ∧ z = .int .i64 (j : Nat) ∧ s = .int .i64 ((T + j : Nat) : Int) ∧ Hid (Below wq.heap.size wq wr) ∧ Hid (Ord w wr w.heap.size A c g w.heap.size d F1 F2 cnt (some ⟨D, 0, none⟩) R f)) (fun _ z _ => l.length - (intOf z).toNat)
          case atStart => exact ⟨0, Nat.zero_le _, rfl, by simp, hide (Below.refl _ _), HJ⟩
          case round =>
            clear HJ
            obtain ⟨wp, rfl⟩ : ∃ x, x = wr := ⟨_, rfl⟩
            obtain ⟨j, hj, rfl, rfl, HB, HJ⟩ := hrel
            by_cases hlt2 : j < l.length
            · have hlt2' : (j : Int) < l.length := by omega
              obtain ⟨z, hz⟩ : ∃ z, l[j]? = some z := ⟨_, List.getElem?_eq_getElem hlt2⟩
              obtain ⟨x, rfl, hx, hfx⟩ := HPM.out j z hz
              obtain ⟨b2, off2, rfl, hbl2, cx⟩ := rd_at (HRW.out.below' HB.out) hz
              have ci := HJ.out.index.cellAt (fl_get f hx)
              rw [hfx] at ci
              have hx' : (x : Int) < g.length := by omega
              have t1 : decide ((x : Int) < 0) = false := decide_eq_false (by omega)
              have t2 : decide ((x : Int) ≥ (g.length : Int)) = false := decide_eq_false (by omega)
              have t2' : decide ((g.length : Int) ≤ (x : Int)) = false := decide_eq_false (by omega)
              have t3 : ((i : Int) != (i : Int)) = false := by simp
              have hw1 : IntKind.i64.wrap (((T + j : Nat) : Int) + 1) = ((T + (j + 1) : Nat) : Int) := by rw [show (((T + j : Nat) : Int) + 1) = ((T + (j + 1) : Nat) : Int) by omega]; exact IntWalk.i64_in _ (by omega)
              by_cases h0 : j = 0
              · have t4 : decide ((0 : Int) < (j : Int)) = false := decide_eq_false (by omega)
                have t4' : ¬ (0 : Int) < (j : Int) := by omega
                have t4n : decide (0 < j) = false := decide_eq_false (by omega)
                clear hz hfx hbl2 t2 h0
                go_wp2_with fail
                go_roundw
                case rel => exact ⟨j + 1, by omega, by go_num, rfl, HB, HJ⟩
                case measure => simp [intOf]; omega
              · have t4 : decide ((0 : Int) < (j : Int)) = true := decide_eq_true (by omega)
                have t4' : (0 : Int) < (j : Int) := by omega
                obtain ⟨y, hy⟩ : ∃ y, l[j - 1]? = some y := ⟨_, List.getElem?_eq_getElem (show j - 1 < l.length by omega)⟩
                obtain ⟨b3, off3, e6, -, cy⟩ := rd_at (HRW.out.below' HB.out) hy
                injection e6 with e6
                injection e6 with e6 e7
                subst e6 e7
                have hxy : y < (x : Int) := by
                  have := List.pairwise_iff_getElem.1 HPS.out (j - 1) j (by omega) hlt2 (by omega)
                  rw [List.getElem?_eq_getElem (by omega)] at hy hz
                  injection hy with hy
                  injection hz with hz
                  omega
                have t5 : decide ((x : Int) ≤ y) = false := decide_eq_false (by omega)
                have t6 : ¬ (x : Int) ≤ y := by omega
                have hw2 : IntKind.i64.wrap ((j : Int) - 1) = ((j - 1 : Nat) : Int) := by rw [show ((j : Int) - 1) = ((j - 1 : Nat) : Int) by omega]; exact IntWalk.i64_in _ (by omega)
                have hj1 : ((j - 1 : Nat) : Int) < l.length := by omega
                clear hz hy hfx hbl2 t2 hxy
                go_wp2_with fail
                go_roundw
                case rel => exact ⟨j + 1, by omega, by go_num, rfl, HB, HJ⟩
                case measure => simp [intOf]; omega
            · obtain rfl : j = l.length := by omega
              go_wp2_with fail
              go_roundw
              case rel => exact ⟨i + 1, by omega, by go_num, by rw [HTS.out], HJ⟩
              case measure => simp [intOf]; omega
        · obtain rfl : i = cnt := by omega
          rw [tot_all f i g.length HFC.out]
          have cx := HJ.out.cell
          go_wp2_with fail
          clear cx
          go_loopw [91] (fun z wr => ∃ a : Nat, a ≤ g.length ∧ z = .int .i64 (a : Nat) ∧ Hid (Ord w wr w.heap.size A c g w.heap.size d F1 F2 i A3 R f)) (fun z _ => g.length - (intOf z).toNat)
          case atStart => exact ⟨0, Nat.zero_le _, rfl, HJ⟩
          case round =>
            clear HJ
            obtain ⟨wq, rfl⟩ : ∃ x, x = wr := ⟨_, rfl⟩
            obtain ⟨a, ha, rfl, HJ⟩ := hrel
            by_cases hlt3 : a < g.length
            · have hlt3' : (a : Int) < g.length := by omega
              obtain ⟨l, hl⟩ : ∃ l, g[a]? = some l := ⟨_, List.getElem?_eq_getElem hlt3⟩
              obtain ⟨b, off, B, dv, rfl, hbl2, hcell, hrow⟩ := HJ.out.gr.at hl
              have HRW := hide hrow
              obtain ⟨_, _, e3, hd1, hd2, -⟩ := hrow
              injection e3 with e3 e4 e5
              subst e3 e5
              have hd9 : dv ≤ 9223372036854775807 := by unfold maxLen at hd2; omega
              have HL := hide hl
              clear hbl2 hd2 e4 hl
              go_wp2_with fail
              clear hcell
              go_loopw [14, 98] (fun s z wr => ∃ j : Nat, j ≤ l.length ∧ z = .int .i64 (j : Nat) ∧ s = .bool (decide ((a : Int) ∈ l.take j)) ∧ Hid (Below wq.heap.size wq wr) ∧ Hid (Ord w wr w.heap.size (some ⟨b, off, none⟩) c g w.heap.size d F1 F2 i A3 R f)) (fun _ z _ => l.length - (intOf z).toNat)
              case atStart => exact ⟨0, Nat.zero_le _, rfl, by simp, hide (Below.refl _ _), HJ⟩
              case round =>
                clear HJ
                obtain ⟨wp, rfl⟩ : ∃ x, x = wr := ⟨_, rfl⟩
                obtain ⟨j, hj, rfl, rfl, HB, HJ⟩ := hrel
                by_cases hlt4 : j < l.length
                · have hlt4' : (j : Int) < l.length := by omega
                  obtain ⟨m, hm⟩ : ∃ z, l[j]? = some z := ⟨_, List.getElem?_eq_getElem hlt4⟩
                  obtain ⟨b2, off2, rfl, hbl3, cx⟩ := rd_at (HRW.out.below' HB.out) hm
                  have HMT := hide (mem_take hm (a : Int))
                  have HLM := hide (List.mem_of_getElem? hm)
                  obtain ⟨P, hP⟩ : ∃ P, decide ((a : Int) ∈ l.take j) = P := ⟨_, rfl⟩
                  rw [hP] at HMT ⊢
                  clear hP hm hbl3
                  by_cases h0 : 0 ≤ m
                  · obtain ⟨y, rfl⟩ := Int.eq_ofNat_of_zero_le h0
                    have t1 : decide ((y : Int) < 0) = false := decide_eq_false (by omega)
                    by_cases h1 : y < g.length
                    · have h1' : (y : Int) < g.length := by omega
                      have t2 : decide ((y : Int) ≥ (g.length : Int)) = false := decide_eq_false (by omega)
                      have t2' : decide ((g.length : Int) ≤ (y : Int)) = false := decide_eq_false (by omega)
                      have hle := HED.out a y hlt3 ((succs_stray g a y).2 ⟨h1, by rw [getD_of HL.out]; exact HLM.out⟩)
                      have t3 : decide ((f a : Int) < (f y : Int)) = false := decide_eq_false (by omega)
                      have t4 : decide (f a < f y) = false := decide_eq_false (by omega)
                      have t5 : ¬ f a < f y := by omega
                      have c1 := HJ.out.index.cellAt (fl_get f hlt3)
                      have c2 := HJ.out.index.cellAt (fl_get f h1)
                      have HN2 : Hid (decide ((a : Int) ∈ l.take (j + 1)) = (P || ((y : Int) == (a : Int)))) := hide (by
                        rw [HMT.out]
                        congr 1
                        rw [Bool.eq_iff_iff]; simp; omega)
                      clear hle t2
                      cases P
                      all_goals
                        go_wp2_with fail
                        go_quiet (fail)
                        go_wp2_with fail
                        go_roundw
                        case rel => exact ⟨j + 1, by omega, by go_num, by rw [HN2.out]; simp, hide (by repeat (first | exact HB.out | refine Below.drewN' ?_ _ | refine Below.drew ?_)), hide (HJ.out.next (by repeat (first | exact Below.refl _ _ | refine Below.drewN' ?_ _ | refine Below.drew ?_)))⟩
                        case measure => simp [intOf]; omega
                    · have t2 : decide ((y : Int) ≥ (g.length : Int)) = true := decide_eq_true (by omega)
                      have t2' : decide ((g.length : Int) ≤ (y : Int)) = true := decide_eq_true (by omega)
                      have HN2 : Hid (decide ((a : Int) ∈ l.take (j + 1)) = P) := hide (by
                        rw [HMT.out, decide_eq_false (by omega), Bool.or_false])
                      clear t2
                      go_wp2_with fail
                      go_roundw
                      case rel => exact ⟨j + 1, by omega, by go_num, by rw [HN2.out], HB, HJ⟩
                      case measure => simp [intOf]; omega
                  · have t1 : decide (m < 0) = true := decide_eq_true (by omega)
                    have t1' : m < 0 := by omega
                    have HN2 : Hid (decide ((a : Int) ∈ l.take (j + 1)) = P) := hide (by
                      rw [HMT.out, decide_eq_false (by omega), Bool.or_false])
                    go_wp2_with fail
                    go_roundw
                    case rel => exact ⟨j + 1, by omega, by go_num, by rw [HN2.out], HB, HJ⟩
                    case measure => simp [intOf]; omega
                · obtain rfl : j = l.length := by omega
                  rw [List.take_length]
                  have hon := HON.out a l HL.out
                  have co := HJ.out.on.cellAt (bl_get (fun x => path1B (stray g) x x) hlt3)
                  have ci := HJ.out.index.cellAt (fl_get f hlt3)
                  have hfa := HFC.out a hlt3
                  have hfa' : (f a : Int) < i := by omega
                  obtain ⟨v, hv⟩ : ∃ v, R[f a]? = some v := ⟨_, List.getElem?_eq_getElem (by rw [HJ.out.parts.len, partsTo_len]; exact hfa)⟩
                  obtain ⟨D, d3, e3, -, -, -, -⟩ := HJ.out.parts.own.form (by rw [HJ.out.parts.len, partsTo_len]; omega)
                  injection e3 with e3 e4 e5
                  subst e3
                  have c1 := HJ.out.parts.own.cellAt hv
                  have hrow := (HJ.out.parts.row (f a) v _ hv (partsTo_get f g.length hfa)).rd
                  obtain ⟨Bp, dp, rfl, hd3, -, -⟩ := hrow
                  rw [show (part g.length f (f a)).length = cntTo f g.length (f a) from rfl] at c1 hd3
                  cases hP : decide ((a : Int) ∈ l) with
                  | true =>
                    rw [hon, hP, Bool.or_true] at co
                    clear hon hP hv e4 e5 c1 hd3
                    go_wp2_with fail
                    go_quiet (fail)
                    go_wp2_with fail
                    go_roundw
                    case rel => exact ⟨a + 1, by omega, by go_num, hide (HJ.out.next (by repeat (first | exact Below.refl _ _ | refine Below.drewN' ?_ _ | refine Below.drew ?_)))⟩
                    case measure => simp [intOf]; omega
                  | false =>
                    rw [hon, hP, Bool.or_false] at co
                    by_cases h1 : 1 < cntTo f g.length (f a)
                    · rw [decide_eq_true h1] at co
                      have t1 : decide ((1 : Int) < (cntTo f g.length (f a) : Int)) = true := decide_eq_true (by omega)
                      clear hon hP hv e4 e5 hd3
                      go_wp2_with fail
                      go_quiet (fail)
                      go_wp2_with fail
                      go_roundw
                      case rel => exact ⟨a + 1, by omega, by go_num, hide (HJ.out.next (by repeat (first | exact Below.refl _ _ | refine Below.drewN' ?_ _ | refine Below.drew ?_)))⟩
                      case measure => simp [intOf]; omega
                    · rw [decide_eq_false h1] at co
                      have t1 : decide ((1 : Int) < (cntTo f g.length (f a) : Int)) = false := decide_eq_false (by omega)
                      clear hon hP hv e4 e5 hd3
                      go_wp2_with fail
                      go_quiet (fail)
                      go_wp2_with fail
                      go_roundw
                      case rel => exact ⟨a + 1, by omega, by go_num, hide (HJ.out.next (by repeat (first | exact Below.refl _ _ | refine Below.drewN' ?_ _ | refine Below.drew ?_)))⟩
                      case measure => simp [intOf]; omega
            · obtain rfl : a = g.length := by omega
              go_wp2_with fail
              refine (awake_any _).mono ?_
              rintro en w7 ⟨rfl, hb7⟩
              have HZ := hide (HJ.out.next hb7).below
              clear hb7
              go_wp2_with fail
              go_ret
              exact ⟨rfl, HZ.out⟩
end Go.Proofs.Ytakojoedifhcnaa

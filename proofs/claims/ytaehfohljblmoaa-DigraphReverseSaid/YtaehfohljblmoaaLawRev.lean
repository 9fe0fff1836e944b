/-
  DigraphReverse, layer 6 (digraph).
-/
import Derived.Deep.RegionHeld3
import Derived.Test.YtaehfohljblmoaaAwake2
import Derived.Test.YtaehfohljblmoaaSmall
import Derived.Test.YtaehfohljblmoaaRevMath
import Derived.Test.YtaehfohljblmoaaPreds
namespace Go.Proofs.Ytaehfohljblmoaa
open Go.RowKit

/-- What the law holds: the graph, the reversed one and that reversed again. -/
structure Rvd (w0 w : World) (tb hb kb : Nat) (A : Option Addr) (c : Nat) (g : List (List Int)) (base D1 D2 : Nat) (R1 R2 : List Value) : Prop where
  gr : RdL w A c g
  cell : w.cell? ⟨tb, 0, none⟩ = some (.slice A g.length c)
  hcell : w.cell? ⟨hb, 0, none⟩ = some (.slice (some ⟨D1, 0, none⟩) g.length g.length)
  kcell : w.cell? ⟨kb, 0, none⟩ = some (.slice (some ⟨D2, 0, none⟩) g.length g.length)
  h : OwnL w base D1 R1 (rev g)
  k : OwnL w base D2 R2 (rev (rev g))
  below : Below w0.heap.size w0 w
theorem Rvd.next {w0 w w' : World} {tb hb kb : Nat} {A : Option Addr} {c : Nat} {g : List (List Int)} {base D1 D2 : Nat} {R1 R2 : List Value} (h : Rvd w0 w tb hb kb A c g base D1 D2 R1 R2) (hb' : Below w.heap.size w w') : Rvd w0 w' tb hb kb A c g base D1 D2 R1 R2 :=
  ⟨h.gr.below' hb', (hb'.cell (p := ⟨tb, 0, none⟩) (lt_of_cell h.cell)).trans h.cell, (hb'.cell (p := ⟨hb, 0, none⟩) (lt_of_cell h.hcell)).trans h.hcell, (hb'.cell (p := ⟨kb, 0, none⟩) (lt_of_cell h.kcell)).trans h.kcell, h.h.frm (Frm.below hb'), h.k.frm (Frm.below hb'), h.below.trans (hb'.mono h.below.size)⟩

theorem times_pos (m : Int) (l : List Int) : 0 < times m l ↔ m ∈ l := by unfold times; rw [List.length_pos_iff_exists_mem]; simp
theorem times_le (m : Int) (l : List Int) : times m l ≤ l.length := List.length_filter_le _ _
theorem revTo_le {g : List (List Int)} {b : Nat} (h : edges g ≤ 1000000) (hb : b < g.length) : (revTo g g.length b).length ≤ 1000000 := by
  have h2 := revTo_edges g b g.length (Nat.le_refl _)
  have h3 := sum_take (g.map List.length) g.length
  unfold edges at h
  omega

theorem reach_here {A : Option Addr} {c : Nat} {g : List (List Int)} {v : Nat} {W : World} (hg : RdL W A c g) (hok : codeG g = 0) (hv : v < g.length) (args : Array Value) (w : World) (e : args = #[.agg #[.slice A g.length c], .int .i64 (v : Nat)]) (hw : w = W) :
    Calls Try.prog 17 args w fun en w' => (∃ D, en = .returned (.slice (some ⟨D, 0, none⟩) g.length g.length) ∧ OwnV w' W.heap.size 4 (.slice (some ⟨D, 0, none⟩) g.length g.length) (bl g.length (fun i => decide (i ∈ post g v)))) ∧ Below W.heap.size W w' := by
  subst e hw
  exact reach_any A c g v _ hg hok hv
theorem reach_turned {g : List (List Int)} {v D base : Nat} {R : List Value} {W : World} (hg : OwnL W base D R (rev g)) (hR : R.length = g.length) (hok : codeG g = 0) (hv : v < g.length) (args : Array Value) (w : World) (e : args = #[.agg #[.slice (some ⟨D, 0, none⟩) g.length g.length], .int .i64 (v : Nat)]) (hw : w = W) :
    Calls Try.prog 17 args w fun en w' => (∃ D, en = .returned (.slice (some ⟨D, 0, none⟩) g.length g.length) ∧ OwnV w' W.heap.size 4 (.slice (some ⟨D, 0, none⟩) g.length g.length) (bl g.length (fun i => decide (i ∈ post (rev g) v)))) ∧ Below W.heap.size W w' := by
  subst e hw
  have h := hg.rd
  rw [hR] at h
  have k := reach_any (some ⟨D, 0, none⟩) g.length (rev g) v _ h (rev_code (code_ok hok).2) (by rw [rev_len]; exact hv)
  rw [rev_len] at k
  exact k

set_option maxRecDepth 200000 in
set_option maxHeartbeats 8000000 in
theorem lawReverse (A : Option Addr) (c : Nat) (g : List (List Int)) (a b : Int) (w : World) (hg : RdL w A c g) (hbig : ∀ l ∈ g, l.length ≤ 17592186044416) :
    Calls Try.prog 6 #[.agg #[.slice A g.length c], .int .i64 a, .int .i64 b] w (LawDone w) := by
  have hfld := run_field
  have HA : Hid (Below w.heap.size w (w.alloc (.cells #[.slice A g.length c] 24))) := hide ((Below.refl _ _).alloc (Nat.le_refl _) _)
  have HG : Hid (RdL (w.alloc (.cells #[.slice A g.length c] 24)) A c g) := hide (hg.below' HA.out)
  have HBIG := hide hbig
  clear hg hbig
  go_enter Try.func6, Try.ntmps6
  go_wp2_with fail
  refine (awake_any _).mono ?_
  rintro en w1 ⟨rfl, hb⟩
  have HB1 : Hid (Below w.heap.size w w1) := hide (HA.out.trans (hb.mono HA.out.size))
  have HG1 : Hid (RdL w1 A c g) := hide (HG.out.below' hb)
  have hx : w1.cell? ⟨w.heap.size, 0, none⟩ = some (.slice A g.length c) := (hb.cell (p := ⟨w.heap.size, 0, none⟩) (by simp)).trans (by simp [go_sem])
  clear hb HA HG
  go_wp2_with fail
  refine (small_any A c g _ HG1.out HBIG.out).mono ?_
  rintro en w2 ⟨rfl, hb⟩
  have HB2 : Hid (Below w.heap.size w w2) := hide (HB1.out.trans (hb.mono HB1.out.size))
  have HG2 : Hid (RdL w2 A c g) := hide (HG1.out.below' hb)
  have hx2 : w2.cell? ⟨w.heap.size, 0, none⟩ = some (.slice A g.length c) := (hb.cell (p := ⟨w.heap.size, 0, none⟩) (lt_of_cell hx)).trans hx
  clear hb HB1 HG1 hx
  by_cases hs : g.length ≤ 60 ∧ edges g ≤ 300
  · rw [decide_eq_true hs]
    go_wp2_with fail
    refine (check_any A c g _ HG2.out).mono ?_
    rintro en w3 ⟨rfl, hb⟩
    have HB3 : Hid (Below w.heap.size w w3) := hide (HB2.out.trans (hb.mono HB2.out.size))
    have HG3 : Hid (RdL w3 A c g) := hide (HG2.out.below' hb)
    have hx3 : w3.cell? ⟨w.heap.size, 0, none⟩ = some (.slice A g.length c) := (hb.cell (p := ⟨w.heap.size, 0, none⟩) (lt_of_cell hx2)).trans hx2
    clear hb HB2 HG2 hx2
    by_cases hok : codeG g = 0
    · rw [hok]
      by_cases ha : 0 ≤ a ∧ a < g.length ∧ 0 ≤ b ∧ b < g.length
      · obtain ⟨a, rfl⟩ : ∃ n : Nat, a = n := ⟨a.toNat, by omega⟩
        obtain ⟨b, rfl⟩ : ∃ n : Nat, b = n := ⟨b.toNat, by omega⟩
        have han : a < g.length := by omega
        have hbn : b < g.length := by omega
        have a0 : ¬ ((a : Int) < 0) := by omega
        have a1 : ¬ ((a : Int) ≥ g.length) := by omega
        have b0 : ¬ ((b : Int) < 0) := by omega
        have b1 : ¬ ((b : Int) ≥ g.length) := by omega
        clear ha
        go_wp2_with fail
        have HK := hide hok
        have hN : g.length ≤ 65536 := by omega
        refine (reverse_any A c g _ HG3.out hok (by omega)).mono ?_
        rintro en w4 ⟨D1, rfl, ⟨R1, hL⟩, hb⟩
        have hR1 : R1.length = g.length := by rw [hL.len, rev_len]
        obtain ⟨w5, hw5⟩ : ∃ x, w4.alloc (.cells #[.slice (some ⟨D1, 0, none⟩) g.length g.length] 24) = x := ⟨_, rfl⟩
        have hb5 : Below w4.heap.size w4 w5 := by rw [← hw5]; exact (Below.refl _ _).alloc (Nat.le_refl _) _
        have hh : w5.cell? ⟨w4.heap.size, 0, none⟩ = some (.slice (some ⟨D1, 0, none⟩) g.length g.length) := by rw [← hw5]; simp [go_sem]
        have HL := hide ((hL.low HB3.out.size).frm (Frm.below hb5))
        have HB5 : Hid (Below w.heap.size w w5) := hide ((HB3.out.trans (hb.mono HB3.out.size)).trans (hb5.mono (Nat.le_trans HB3.out.size hb.size)))
        have HG5 : Hid (RdL w5 A c g) := hide ((HG3.out.below' hb).below' hb5)
        have hx5 : w5.cell? ⟨w.heap.size, 0, none⟩ = some (.slice A g.length c) := (hb5.cell (p := ⟨w.heap.size, 0, none⟩) (Nat.lt_of_lt_of_le (lt_of_cell hx3) hb.size)).trans ((hb.cell (p := ⟨w.heap.size, 0, none⟩) (lt_of_cell hx3)).trans hx3)
        have HRR := HL.out.rd
        rw [hR1] at HRR
        have HRG := hide HRR
        have hR := hide hR1
        clear hb hb5 HB3 HG3 hx3 hL hR1 HRR hok
        go_wp2_with fail
        clear hw5
        have K2 := reverse_any (some ⟨D1, 0, none⟩) (rev g).length (rev g) w5 (by rw [rev_len]; exact HRG.out) (rev_code hN) (rev_edges hs.1 hs.2)
        rw [rev_len] at K2
        refine K2.mono ?_
        rintro en w6 ⟨D2, rfl, ⟨R2, hL⟩, hb⟩
        obtain ⟨w7, hw7⟩ : ∃ x, w6.alloc (.cells #[.slice (some ⟨D2, 0, none⟩) g.length g.length] 24) = x := ⟨_, rfl⟩
        have hb7 : Below w6.heap.size w6 w7 := by rw [← hw7]; exact (Below.refl _ _).alloc (Nat.le_refl _) _
        have hk : w7.cell? ⟨w6.heap.size, 0, none⟩ = some (.slice (some ⟨D2, 0, none⟩) g.length g.length) := by rw [← hw7]; simp [go_sem]
        have hb57 : Below w5.heap.size w5 w7 := hb.trans (hb7.mono hb.size)
        have HV : Hid (Rvd w w7 w.heap.size w4.heap.size w6.heap.size A c g w.heap.size D1 D2 R1 R2) := hide ⟨HG5.out.below' hb57, (hb57.cell (p := ⟨w.heap.size, 0, none⟩) (lt_of_cell hx5)).trans hx5, (hb57.cell (p := ⟨w4.heap.size, 0, none⟩) (lt_of_cell hh)).trans hh, hk, HL.out.frm (Frm.below hb57), (hL.low HB5.out.size).frm (Frm.below hb7), HB5.out.trans (hb57.mono HB5.out.size)⟩
        have hR2 := hide (show R2.length = g.length by rw [hL.len, rev_len, rev_len])
        obtain ⟨l, hl⟩ : ∃ l, g[a]? = some l := ⟨_, List.getElem?_eq_getElem han⟩
        obtain ⟨Ab, Ao, B, d, rfl, hAb, hcell, hrow⟩ := HV.out.gr.at hl
        have HL1 := hide hl
        have HROW := hide hrow
        have c1 := HV.out.cell
        have c2 := HV.out.hcell
        have c3 := HV.out.kcell
        have hlen1 := HBIG.out l (List.mem_of_getElem? hl)
        obtain ⟨_, _, e3, hd, hm, -⟩ := hrow
        injection e3 with e3 e4 e5
        subst e3 e5
        have hd9 : d ≤ 9223372036854775807 := by unfold maxLen at hm; omega
        have HE := hide (show edges g ≤ 1000000 by omega)
        clear hb hb7 hb57 hk hL HB5 HG5 hx5 hh HL HRG K2 hl hm hs hN e4
        go_wp2_with fail
        clear hw7
        go_loopw [81, 9] (fun z n wr => ∃ i : Nat, i ≤ l.length ∧ z = .int .i64 i ∧ n = .int .i64 (times (b : Int) (l.take i) : Nat) ∧ Below w7.heap.size w7 wr) (fun z _ _ => l.length - (intOf z).toNat)
        case atStart => exact ⟨0, Nat.zero_le _, rfl, rfl, Below.refl _ _⟩
        case round =>
          clear c1 c2 c3 hcell
          obtain ⟨wq, rfl⟩ : ∃ x, x = wr := ⟨_, rfl⟩
          obtain ⟨i, hi, rfl, rfl, hb⟩ := hrel
          by_cases hlt : i < l.length
          · obtain ⟨x, hx⟩ : ∃ x, l[i]? = some x := ⟨_, List.getElem?_eq_getElem hlt⟩
            have hlt' : (i : Int) < l.length := by omega
            obtain ⟨b2, off2, rfl, hbl, cx⟩ := rd_at (HROW.out.below' hb) hx
            have ht := times_take (m := (b : Int)) hx
            have htl := times_le (b : Int) (l.take i)
            rw [List.length_take] at htl
            have HB := hide hb
            have hw1 : IntKind.i64.wrap ((times (b : Int) (l.take i) : Int) + 1) = (times (b : Int) (l.take i) : Int) + 1 := IntWalk.i64_in _ (by omega)
            clear hb hx
            by_cases hxb : x = (b : Int)
            · subst hxb
              rw [if_pos rfl] at ht
              have HT := hide ht
              clear ht htl
              go_wp2_with fail
              go_roundw
              case rel => exact ⟨i + 1, by omega, by go_num, by rw [HT.out]; rfl, HB.out⟩
              case measure => simp [intOf]; omega
            · rw [if_neg hxb] at ht
              have HT := hide ht
              have e1 : (x == (b : Int)) = false := by simpa using hxb
              clear ht htl hxb
              go_wp2_with fail
              go_roundw
              case rel => exact ⟨i + 1, by omega, by go_num, by rw [HT.out]; rfl, HB.out⟩
              case measure => simp [intOf]; omega
          · obtain rfl : i = l.length := by omega
            rw [List.take_length]
            have HV2 := hide (HV.out.next hb)
            clear hb HROW hlt hi HV hlen1 hd hd9
            obtain ⟨v1, hv1⟩ : ∃ v, R1[b]? = some v := ⟨_, List.getElem?_eq_getElem (by rw [hR.out]; exact hbn)⟩
            have hr1 := HV2.out.h.row b v1 _ hv1 (rev_get hbn)
            have cv1 := HV2.out.h.own.cellAt hv1
            have c1 := HV2.out.cell
            have c2 := HV2.out.hcell
            have c3 := HV2.out.kcell
            have HR1 := hide hr1.rd
            have hll := revTo_le HE.out hbn
            obtain ⟨B1, d1, rfl, hd, hm, -⟩ := hr1.rd
            have hd9 : d1 ≤ 9223372036854775807 := by unfold maxLen at hm; omega
            clear hr1 hv1 hm
            go_wp2_with fail
            have HT1 := hide (show times (a : Int) (revTo g g.length b) = times (b : Int) l by rw [times_rev han, getD_of HL1.out])
            go_loopw [97, 10] (fun z n wr => ∃ i : Nat, i ≤ (revTo g g.length b).length ∧ z = .int .i64 i ∧ n = .int .i64 (times (a : Int) ((revTo g g.length b).take i) : Nat) ∧ Below wq.heap.size wq wr) (fun z _ _ => (revTo g g.length b).length - (intOf z).toNat)
            case atStart => exact ⟨0, Nat.zero_le _, rfl, rfl, Below.refl _ _⟩
            case round =>
              clear c1 c2 c3 cv1
              obtain ⟨wp, rfl⟩ : ∃ x, x = wr := ⟨_, rfl⟩
              obtain ⟨i, hi, rfl, rfl, hb⟩ := hrel
              by_cases hlt : i < (revTo g g.length b).length
              · obtain ⟨x, hx⟩ : ∃ x, (revTo g g.length b)[i]? = some x := ⟨_, List.getElem?_eq_getElem hlt⟩
                have hlt' : (i : Int) < (revTo g g.length b).length := by omega
                obtain ⟨b2, off2, rfl, hbl, cx⟩ := rd_at (HR1.out.below' hb) hx
                have ht := times_take (m := (a : Int)) hx
                have htl := times_le (a : Int) ((revTo g g.length b).take i)
                rw [List.length_take] at htl
                have HB := hide hb
                have hw1 : IntKind.i64.wrap ((times (a : Int) ((revTo g g.length b).take i) : Int) + 1) = (times (a : Int) ((revTo g g.length b).take i) : Int) + 1 := IntWalk.i64_in _ (by omega)
                clear hb hx
                by_cases hxb : x = (a : Int)
                · subst hxb
                  rw [if_pos rfl] at ht
                  have HT := hide ht
                  clear ht htl
                  go_wp2_with fail
                  go_roundw
                  case rel => exact ⟨i + 1, by omega, by go_num, by rw [HT.out]; rfl, HB.out⟩
                  case measure => simp [intOf]; omega
                · rw [if_neg hxb] at ht
                  have HT := hide ht
                  have e1 : (x == (a : Int)) = false := by simpa using hxb
                  clear ht htl hxb
                  go_wp2_with fail
                  go_roundw
                  case rel => exact ⟨i + 1, by omega, by go_num, by rw [HT.out]; rfl, HB.out⟩
                  case measure => simp [intOf]; omega
              · obtain rfl : i = (revTo g g.length b).length := by omega
                rw [List.take_length, HT1.out]
                have HV3 := hide (HV2.out.next hb)
                clear hb HR1 hlt hi HV2 hll hd hd9 HT1
                go_upto_region 22 with fail
                have HV4 := hide (HV3.out.next (Below.refl wp.heap.size wp).drew)
                clear HV3
                have c1 := HV4.out.cell
                have c2 := HV4.out.hcell
                go_region_held3 (fun w' => w'.cell? ⟨w.heap.size, 0, none⟩ = some (.slice (some ⟨Ab, Ao, none⟩) g.length c) ∧ w'.cell? ⟨w4.heap.size, 0, none⟩ = some (.slice (some ⟨D1, 0, none⟩) g.length g.length)) (first | exact ⟨c1, c2⟩ | exact ⟨f1, f2⟩ | exact ⟨k1, k2⟩) (first | (go_at_call 17; refine (reach_here HV4.out.gr HK.out han _ _ (by rfl) (by rfl)).mono ?_; rintro en w8 ⟨⟨D3, rfl, hr3⟩, hb8⟩; have f1 := (hb8.cell (p := ⟨w.heap.size, 0, none⟩) (lt_of_cell c1)).trans c1; have f2 := (hb8.cell (p := ⟨w4.heap.size, 0, none⟩) (lt_of_cell c2)).trans c2) | (go_at_call 17; refine (reach_turned (HV4.out.h.frm (Frm.below hb8)) hR.out HK.out hbn _ _ (by rfl) (by rfl)).mono ?_; rintro en w9 ⟨⟨D4, rfl, hr4⟩, hb9⟩; have k1 := (hb9.cell (p := ⟨w.heap.size, 0, none⟩) (lt_of_cell f1)).trans f1; have k2 := (hb9.cell (p := ⟨w4.heap.size, 0, none⟩) (lt_of_cell f2)).trans f2))
                have HV5 := hide ((HV4.out.next hb8).next hb9)
                have d3 := (hr3.below' hb9).cellAt (bl_get (fun i => decide (i ∈ post g a)) hbn)
                have d4 := hr4.cellAt (bl_get (fun i => decide (i ∈ post (rev g) b)) han)
                have e34 := post_rev (code_ok HK.out).1 han hbn
                rw [← e34] at d4
                clear hb8 hb9 hr3 hr4 HV4 c1 c2 f1 f2 k1 k2 e34
                have c1 := HV5.out.cell
                have c2 := HV5.out.hcell
                have c3 := HV5.out.kcell
                obtain ⟨v2, hv2⟩ : ∃ v, R2[a]? = some v := ⟨_, List.getElem?_eq_getElem (by rw [hR2.out]; exact han)⟩
                have hget2 : (rev (rev g))[a]? = some (revTo (rev g) g.length a) := by
                  have := rev_get (g := rev g) (b := a) (by rw [rev_len]; exact han)
                  rw [rev_len] at this; exact this
                have hr2 := HV5.out.k.row a v2 _ hv2 hget2
                have cv2 := HV5.out.k.own.cellAt hv2
                have HR2 := hide hr2.rd
                obtain ⟨L, hL⟩ : ∃ L, revTo (rev g) g.length a = L := ⟨_, rfl⟩
                have hll : L.length = l.length := by rw [← hL, rev_rev_length (code_ok HK.out).1 han, getD_of HL1.out]
                have HSO : Hid (L.Pairwise (· ≤ ·)) := hide (hL ▸ revTo_sorted (rev g) a g.length)
                rw [hL] at HR2 hr2
                obtain ⟨B2, d2, rfl, hd, hm, -⟩ := hr2.rd
                have hd9 : d2 ≤ 9223372036854775807 := by unfold maxLen at hm; omega
                clear hr2 hv2 hm hget2 hL
                generalize hP : decide (b ∈ post g a) = P at d3 d4
                clear hP
                go_wp2_with fail
                go_quiet (fail)
                go_wp2_with fail
                clear d3 d4 c1 c2 c3 cv2
                go_loopw [150] (fun z wr => ∃ i : Nat, i ≤ L.length ∧ z = .int .i64 i ∧ Below w9.heap.size w9 wr) (fun z _ => L.length - (intOf z).toNat)
                case atStart => exact ⟨0, Nat.zero_le _, rfl, by repeat (first | exact Below.refl _ _ | refine Below.drewN' ?_ _ | refine Below.drew ?_)⟩
                case round =>
                  obtain ⟨wm, rfl⟩ : ∃ x, x = wr := ⟨_, rfl⟩
                  obtain ⟨i, hi, rfl, hb⟩ := hrel
                  by_cases hlt : i < L.length
                  · have hlt' : (i : Int) < L.length := by omega
                    obtain ⟨x, hx⟩ : ∃ x, L[i]? = some x := ⟨_, List.getElem?_eq_getElem hlt⟩
                    obtain ⟨_, _, e6, _, _, hcl⟩ := HR2.out.below' hb
                    injection e6 with e6 e7 e8
                    subst e6 e8
                    obtain ⟨b2, off2, rfl, hbl2, hcl⟩ := hcl (by omega)
                    have cx := hcl i x hx
                    have HB := hide hb
                    by_cases hz : i = 0
                    · have hg0 : decide ((0 : Int) < (i : Int)) = false := decide_eq_false (by omega)
                      have hg1 : decide (0 < i) = false := decide_eq_false (by omega)
                      clear hb hx hcl hz
                      go_wp2_with fail
                      go_quiet (fail)
                      go_wp2_with fail
                      go_roundw
                      case rel => exact ⟨i + 1, by omega, by go_num, by repeat (first | exact HB.out | refine Below.drewN' ?_ _ | refine Below.drew ?_)⟩
                      case measure => simp [intOf]; omega
                    · have hg0 : (0 : Int) < (i : Int) := by omega
                      have hg1 : 0 < i := by omega
                      obtain ⟨y, hy⟩ : ∃ y, L[i - 1]? = some y := ⟨_, List.getElem?_eq_getElem (show i - 1 < L.length by omega)⟩
                      have cy := hcl (i - 1) y hy
                      have hk1' : 0 ≤ (i : Int) - 1 := by omega
                      have hk2' : (i : Int) - 1 < L.length := by omega
                      have hw1 : IntKind.i64.wrap ((i : Int) - 1) = (i : Int) - 1 := IntWalk.i64_in _ (by omega)
                      have ht1 : ((i : Int) - 1).toNat = i - 1 := by omega
                      have hxy : ¬ (x < y) := by
                        have := List.pairwise_iff_getElem.1 HSO.out (i - 1) i (by omega) hlt (by omega)
                        rw [List.getElem?_eq_getElem (by omega)] at hy hx
                        injection hy with hy
                        injection hx with hx
                        omega
                      have hxy' : decide (x < y) = false := decide_eq_false hxy
                      clear hb hx hcl hz hy hxy
                      go_wp2_with fail
                      go_quiet (fail)
                      go_wp2_with fail
                      go_roundw
                      case rel => exact ⟨i + 1, by omega, by go_num, by repeat (first | exact HB.out | refine Below.drewN' ?_ _ | refine Below.drew ?_)⟩
                      case measure => simp [intOf]; omega
                  · obtain rfl : i = L.length := by omega
                    have HV6 := hide (HV5.out.next hb)
                    clear hb HV5 HR2 hlt hi hd hd9 HSO
                    have c1 := HV6.out.cell
                    go_wp2_with fail
                    refine (preds_any _ c g _ HV6.out.gr HK.out HE.out).mono ?_
                    rintro en w10 ⟨D5, rfl, ⟨R5, hP⟩, hb⟩
                    have HV7 := hide (HV6.out.next hb)
                    have HP := hide hP
                    have hR5 : R5.length = g.length := by rw [hP.len]; simp [preds]
                    clear hb hP HV6 c1
                    have c1 := HV7.out.cell
                    obtain ⟨v5, hv5⟩ : ∃ v, R5[b]? = some v := ⟨_, List.getElem?_eq_getElem (by rw [hR5]; exact hbn)⟩
                    have hget5 : (preds g)[b]? = some (dd (revTo g g.length b)) := by simp [preds, hbn]
                    obtain ⟨M, hM⟩ : ∃ M, dd (revTo g g.length b) = M := ⟨_, rfl⟩
                    have HMS : Hid (M.Pairwise (· < ·)) := hide (hM ▸ dd_sorted (revTo_sorted g b g.length))
                    have HMM : Hid (decide ((a : Int) ∈ M) = decide (0 < times (b : Int) l)) := hide (by
                      rw [← hM, decide_eq_decide, mem_dd, times_pos, mem_revTo]
                      constructor
                      · rintro ⟨y, hy, e, h2⟩
                        obtain rfl : a = y := by omega
                        rw [getD_of HL1.out] at h2; exact h2
                      · intro h2
                        exact ⟨a, han, rfl, by rw [getD_of HL1.out]; exact h2⟩)
                    rw [hM] at hget5
                    have hr5 := HP.out.row b v5 _ hv5 hget5
                    have HR5 := hide hr5.rd
                    obtain ⟨B5, d5, rfl, hd, hm, -⟩ := hr5.rd
                    have hd9 : d5 ≤ 9223372036854775807 := by unfold maxLen at hm; omega
                    have HC5 := hide (show w10.cell? ⟨D5, b, none⟩ = some (.slice B5 M.length d5) from HP.out.own.cellAt hv5)
                    have hc5 := HC5.out
                    obtain ⟨Ab', Ao', B', d', e7, hAb', hcell, -⟩ := HV7.out.gr.at HL1.out
                    injection e7 with e7
                    injection e7 with e7 e8
                    subst e7 e8
                    clear hr5 hv5 hget5 hM hm
                    go_wp2_with fail
                    clear c1 hcell hc5
                    go_loopw [192, 19] (fun z q wr => ∃ i : Nat, i ≤ M.length ∧ z = .int .i64 i ∧ q = .bool (decide ((a : Int) ∈ M.take i)) ∧ Below w10.heap.size w10 wr) (fun z _ _ => M.length - (intOf z).toNat)
                    case atStart => exact ⟨0, Nat.zero_le _, rfl, by simp, by repeat (first | exact Below.refl _ _ | refine Below.drewN' ?_ _ | refine Below.drew ?_)⟩
                    case round =>
                      obtain ⟨wn, rfl⟩ : ∃ x, x = wr := ⟨_, rfl⟩
                      obtain ⟨i, hi, rfl, rfl, hb⟩ := hrel
                      by_cases hlt : i < M.length
                      · have hlt' : (i : Int) < M.length := by omega
                        obtain ⟨x, hx⟩ : ∃ x, M[i]? = some x := ⟨_, List.getElem?_eq_getElem hlt⟩
                        obtain ⟨_, _, e6, _, _, hcl⟩ := HR5.out.below' hb
                        injection e6 with e6 e7 e8
                        subst e6 e8
                        obtain ⟨b2, off2, rfl, hbl2, hcl⟩ := hcl (by omega)
                        have cx := hcl i x hx
                        have cp := (hb.cell (p := ⟨D5, b, none⟩) (lt_of_cell HC5.out)).trans HC5.out
                        have HB := hide hb
                        obtain ⟨P, hP⟩ : ∃ P, decide ((a : Int) ∈ M.take i) = P := ⟨_, rfl⟩
                        have HN : Hid (decide ((a : Int) ∈ M.take (i + 1)) = (P || (x == (a : Int)))) := hide (by
                          rw [← hP, List.take_add_one, hx]
                          by_cases h1 : (a : Int) ∈ M.take i
                          · simp [h1]
                          · by_cases h2 : x = (a : Int)
                            · simp [h2]
                            · have h3 : ¬ ((a : Int) = x) := fun h => h2 h.symm
                              simp [h1, h2, h3])
                        rw [hP]
                        by_cases hz : i = 0
                        · have hg0 : decide ((0 : Int) < (i : Int)) = false := decide_eq_false (by omega)
                          have hg1 : decide (0 < i) = false := decide_eq_false (by omega)
                          clear hb hx hcl hz hP
                          cases P
                          all_goals
                            go_wp2_with fail
                            go_roundw
                            case rel => exact ⟨i + 1, by omega, by go_num, by rw [HN.out]; simp, by repeat (first | exact HB.out | refine Below.drewN' ?_ _ | refine Below.drew ?_)⟩
                            case measure => simp [intOf]; omega
                        · have hg0 : (0 : Int) < (i : Int) := by omega
                          have hg1 : 0 < i := by omega
                          obtain ⟨y, hy⟩ : ∃ y, M[i - 1]? = some y := ⟨_, List.getElem?_eq_getElem (show i - 1 < M.length by omega)⟩
                          have cy := hcl (i - 1) y hy
                          have hk1' : 0 ≤ (i : Int) - 1 := by omega
                          have hk2' : (i : Int) - 1 < M.length := by omega
                          have hw1 : IntKind.i64.wrap ((i : Int) - 1) = (i : Int) - 1 := IntWalk.i64_in _ (by omega)
                          have ht1 : ((i : Int) - 1).toNat = i - 1 := by omega
                          have hxy : ¬ (x ≤ y) := by
                            have := List.pairwise_iff_getElem.1 HMS.out (i - 1) i (by omega) hlt (by omega)
                            rw [List.getElem?_eq_getElem (by omega)] at hy hx
                            injection hy with hy
                            injection hx with hx
                            omega
                          have hxy' : decide (x ≤ y) = false := decide_eq_false hxy
                          clear hb hx hcl hz hy hP hxy
                          cases P
                          all_goals
                            go_wp2_with fail
                            go_roundw
                            case rel => exact ⟨i + 1, by omega, by go_num, by rw [HN.out]; simp, by repeat (first | exact HB.out | refine Below.drewN' ?_ _ | refine Below.drew ?_)⟩
                            case measure => simp [intOf]; omega
                      · obtain rfl : i = M.length := by omega
                        rw [List.take_length, HMM.out]
                        have HZ := hide (HV7.out.below.trans (hb.mono HV7.out.below.size))
                        clear hb
                        go_wp2_with fail
                        go_ret
                        exact ⟨by simp, HZ.out⟩
      · by_cases a0 : a < 0
        · go_wp2_with fail
          go_ret
          exact ⟨rfl, HB3.out⟩
        · by_cases a1 : a ≥ (g.length : Int)
          · go_wp2_with fail
            go_ret
            exact ⟨rfl, HB3.out⟩
          · by_cases b0 : b < 0
            · clear ha
              go_wp2_with fail
              go_ret
              exact ⟨rfl, HB3.out⟩
            · have b1 : b ≥ (g.length : Int) := by omega
              clear ha
              go_wp2_with fail
              go_ret
              exact ⟨rfl, HB3.out⟩
    · have hcode : (codeG g == 0) = false := by simpa using hok
      have hcode' : (codeG g != 0) = true := by simpa using hok
      clear hok
      go_wp2_with fail
      go_ret
      exact ⟨rfl, HB3.out⟩
  · rw [decide_eq_false hs]
    go_wp2_with fail
    go_ret
    exact ⟨rfl, HB2.out⟩
end Go.Proofs.Ytaehfohljblmoaa

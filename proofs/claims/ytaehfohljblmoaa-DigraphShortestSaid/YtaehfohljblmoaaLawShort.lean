/-
  DigraphShortest, layer 6 (digraph).
-/
import Derived.Deep.RegionHeld3
import Derived.Test.YtaehfohljblmoaaAwake2
import Derived.Test.YtaehfohljblmoaaSmall
import Derived.Test.YtaehfohljblmoaaShortMore
namespace Go.Proofs.Ytaehfohljblmoaa
open Go.RowKit

/-- What the law holds: the graph and the path. -/
structure Shd (w0 w : World) (tb : Nat) (A : Option Addr) (c : Nat) (g : List (List Int)) (p : Value) (P : List Nat) : Prop where
  gr : RdL w A c g
  cell : w.cell? ⟨tb, 0, none⟩ = some (.slice A g.length c)
  path : Rd w .i64 p (ints P)
  below : Below w0.heap.size w0 w
theorem Shd.next {w0 w w' : World} {tb : Nat} {A : Option Addr} {c : Nat} {g : List (List Int)} {p : Value} {P : List Nat} (h : Shd w0 w tb A c g p P) (hb : Below w.heap.size w w') : Shd w0 w' tb A c g p P :=
  ⟨h.gr.below' hb, (hb.cell (p := ⟨tb, 0, none⟩) (lt_of_cell h.cell)).trans h.cell, h.path.below' hb, h.below.trans (hb.mono h.below.size)⟩

theorem rd_len {w : World} {A : Option Addr} {n m c : Nat} {l : List Int} (h : Rd w .i64 (.slice A n c) l) (e : n = m) : Rd w .i64 (.slice A m c) l := e ▸ h
theorem rd_tail {w : World} {b o c : Nat} {S : List Nat} (h : Rd w .i64 (.slice (some ⟨b, o, none⟩) (ints S).length c) (ints S)) (h0 : (0 : Int) < S.length) : Rd w .i64 (.slice (some ⟨b, o + 1, none⟩) (S.length - 1) (c - 1)) ((ints S).drop 1) := by
  obtain ⟨A', c', e, h1, h2, h3⟩ := h
  injection e with e1 e2 e3
  subst e1 e3
  obtain ⟨b', o', e4, h4, h5⟩ := h3 (by rw [ints_len]; omega)
  injection e4 with e4
  injection e4 with e4 e5
  subst e4 e5
  rw [ints_len] at h1
  refine ⟨_, _, by rw [List.length_drop, ints_len], by rw [List.length_drop, ints_len]; omega, by omega, fun _ => ⟨_, _, rfl, h4, fun j z hz => ?_⟩⟩
  rw [List.getElem?_drop] at hz
  rw [Nat.add_assoc]
  exact h5 (1 + j) z hz

set_option maxRecDepth 200000 in
set_option maxHeartbeats 8000000 in
theorem lawShortest (A : Option Addr) (c : Nat) (g : List (List Int)) (a b : Int) (w : World) (hg : RdL w A c g) (hbig : ∀ l ∈ g, l.length ≤ 17592186044416) :
    Calls Try.prog 5 #[.agg #[.slice A g.length c], .int .i64 a, .int .i64 b] w (LawDone w) := by
  have hfld := run_field
  have HA : Hid (Below w.heap.size w (w.alloc (.cells #[.slice A g.length c] 24))) := hide ((Below.refl _ _).alloc (Nat.le_refl _) _)
  have HG : Hid (RdL (w.alloc (.cells #[.slice A g.length c] 24)) A c g) := hide (hg.below' HA.out)
  have HBIG := hide hbig
  clear hg hbig
  go_enter Try.func5, Try.ntmps5
  go_wp2_with fail
  refine (awake_any _).mono ?_
  rintro en w1 ⟨rfl, hb⟩
  have HB1 : Hid (Below w.heap.size w w1) := hide (HA.out.trans (hb.mono HA.out.size))
  have HG1 : Hid (RdL w1 A c g) := hide (HG.out.below' hb)
  have hx : w1.cell? ⟨w.heap.size, 0, none⟩ = some (.slice A g.length c) := (hb.cell (p := ⟨w.heap.size, 0, none⟩) (by simp)).trans (by simp [go_sem])
  clear hb HA HG
  go_wp2_with fail
  refine (small_any A c g _ HG1.out HBIG.out).mono ?_
  rintro en w2 ⟨rfl, hb⟩
  have HB2 : Hid (Below w.heap.size w w2) := hide (HB1.out.trans (hb.mono HB1.out.size))
  have HG2 : Hid (RdL w2 A c g) := hide (HG1.out.below' hb)
  have hx2 : w2.cell? ⟨w.heap.size, 0, none⟩ = some (.slice A g.length c) := (hb.cell (p := ⟨w.heap.size, 0, none⟩) (lt_of_cell hx)).trans hx
  clear hb HB1 HG1 hx
  by_cases hs : g.length ≤ 60 ∧ edges g ≤ 300
  · rw [decide_eq_true hs]
    go_wp2_with fail
    refine (check_any A c g _ HG2.out).mono ?_
    rintro en w3 ⟨rfl, hb⟩
    have HB3 : Hid (Below w.heap.size w w3) := hide (HB2.out.trans (hb.mono HB2.out.size))
    have HG3 : Hid (RdL w3 A c g) := hide (HG2.out.below' hb)
    have hx3 : w3.cell? ⟨w.heap.size, 0, none⟩ = some (.slice A g.length c) := (hb.cell (p := ⟨w.heap.size, 0, none⟩) (lt_of_cell hx2)).trans hx2
    clear hb HB2 HG2 hx2
    by_cases hok : codeG g = 0
    · rw [hok]
      by_cases ha : 0 ≤ a ∧ a < g.length ∧ 0 ≤ b ∧ b < g.length
      · obtain ⟨a, rfl⟩ : ∃ n : Nat, a = n := ⟨a.toNat, by omega⟩
        obtain ⟨b, rfl⟩ : ∃ n : Nat, b = n := ⟨b.toNat, by omega⟩
        have han : a < g.length := by omega
        have hbn : b < g.length := by omega
        have a0 : ¬ ((a : Int) < 0) := by omega
        have a1 : ¬ ((a : Int) ≥ g.length) := by omega
        have b0 : ¬ ((b : Int) < 0) := by omega
        have b1 : ¬ ((b : Int) ≥ g.length) := by omega
        have ad : decide ((a : Int) < 0) = false := decide_eq_false a0
        have bd : decide ((b : Int) < 0) = false := decide_eq_false b0
        clear ha
        go_wp2_with fail
        have HK := hide hok
        have HE := hide (show edges g ≤ 1000000 by omega)
        clear hs hok
        go_upto_region 5 with fail
        have HB4 := hide (HB3.out.trans ((Below.refl w3.heap.size w3).drew.mono HB3.out.size))
        have HG4 := hide (HG3.out.below' (Below.refl w3.heap.size w3).drew)
        have c1 : w3.drew.cell? ⟨w.heap.size, 0, none⟩ = some (.slice A g.length c) := hx3
        clear HB3 HG3 hx3
        go_region_held3 (fun w' => w'.cell? ⟨w.heap.size, 0, none⟩ = some (.slice A g.length c)) (first | exact c1 | exact f1 | exact k1) (first | (go_at_call 24; refine (short_any A c g a b _ HG4.out HK.out HE.out han hbn).mono ?_; rintro en w4 ⟨⟨ov, rfl, ho⟩, hb4⟩; have f1 := (hb4.cell (p := ⟨w.heap.size, 0, none⟩) (lt_of_cell c1)).trans c1) | (go_at_call 17; refine (reach_any A c g a _ (HG4.out.below' hb4) HK.out han).mono ?_; rintro en w5 ⟨⟨D3, rfl, hr3⟩, hb5⟩; have k1 := (hb5.cell (p := ⟨w.heap.size, 0, none⟩) (lt_of_cell f1)).trans f1))
        have d3 := hr3.cellAt (bl_get (fun i => decide (i ∈ post g a)) hbn)
        rw [short_mem (code_ok HK.out).1 han hbn] at d3
        have HS : Hid (Shd w w5 w.heap.size A c g ov (short g a b)) := hide ⟨(HG4.out.below' hb4).below' hb5, k1, (ho.below' hb5).rd, (HB4.out.trans (hb4.mono HB4.out.size)).trans (hb5.mono (Nat.le_trans HB4.out.size hb4.size))⟩
        obtain ⟨Bp, cp, rfl, hcp, hmp, -⟩ := ho.rd
        have hc9 : cp ≤ 9223372036854775807 := by unfold maxLen at hmp; omega
        clear HB4 HG4 c1 f1 ho hb4 hb5 hr3 hmp
        rw [ints_len] at hcp
        rw [ints_len]
        by_cases hne : short g a b = []
        · rw [hne]
          rw [hne] at d3
          go_wp2_with fail
          go_ret
          exact ⟨rfl, HS.out.below⟩
        · by_cases hab : a = b
          · subst hab
            have e := short_self (g := g) han
            rw [e] at hne d3 HS
            rw [e] at hcp ⊢
            clear e hne
            obtain ⟨pb, po, rfl, -, cp0⟩ := rd_at (k := 0) (x := (a : Int)) HS.out.path rfl
            have cp0' : w5.cell? ⟨pb, po, none⟩ = some (.int .i64 (a : Nat)) := cp0
            have hnil : (([a] : List Nat) != []) = true := rfl
            simp only [List.length_singleton] at hcp ⊢
            go_wp2_with fail
            clear d3 cp0 cp0'
            go_loopw [9] (fun z wr => z = .int .i64 0 ∧ Below w5.heap.size w5 wr) (fun _ _ => 0)
            case atStart => exact ⟨rfl, by repeat (first | exact Below.refl _ _ | refine Below.drewN' ?_ _ | refine Below.drew ?_)⟩
            case round =>
              obtain ⟨wq, rfl⟩ : ∃ x, x = wr := ⟨_, rfl⟩
              obtain ⟨rfl, hb⟩ := hrel
              have HS2 := hide (HS.out.next hb)
              clear HS hb
              obtain ⟨l, hl⟩ : ∃ l, g[a]? = some l := ⟨_, List.getElem?_eq_getElem han⟩
              obtain ⟨Ab, Ao, B, d, rfl, hAb, hcell, hrow⟩ := HS2.out.gr.at hl
              have c1 := HS2.out.cell
              have HL := hide hl
              have HR := hide hrow
              obtain ⟨_, _, e3, hd, hm, -⟩ := hrow
              injection e3 with e3 e4 e5
              subst e3 e5
              have hd9 : d ≤ 9223372036854775807 := by unfold maxLen at hm; omega
              clear hl hm e4
              go_wp2_with fail
              clear hcell c1
              go_loopw [138] (fun z wr => ∃ i : Nat, i ≤ l.length ∧ z = .int .i64 i ∧ Below wq.heap.size wq wr) (fun z _ => l.length - (intOf z).toNat)
              case atStart => exact ⟨0, Nat.zero_le _, rfl, by repeat (first | exact Below.refl _ _ | refine Below.drewN' ?_ _ | refine Below.drew ?_)⟩
              case round =>
                obtain ⟨wp, rfl⟩ : ∃ x, x = wr := ⟨_, rfl⟩
                obtain ⟨i, hi, rfl, hb⟩ := hrel
                by_cases hlt : i < l.length
                · have hlt' : (i : Int) < l.length := by omega
                  obtain ⟨m, hm⟩ : ∃ x, l[i]? = some x := ⟨_, List.getElem?_eq_getElem hlt⟩
                  obtain ⟨m, rfl, hmn⟩ := ok_node (code_ok HK.out).1 HL.out hm
                  obtain ⟨b2, off2, rfl, hbl, cx⟩ := rd_at (HR.out.below' hb) hm
                  have HS3 := hide (HS2.out.next hb)
                  have HB3 := hide hb
                  have c1 := HS3.out.cell
                  clear hb hm
                  go_wp2_with fail
                  refine (short_any _ c g m a _ HS3.out.gr HK.out HE.out hmn han).mono ?_
                  rintro en w6 ⟨⟨ov, rfl, ho⟩, hb6⟩
                  obtain ⟨Bq, cq, rfl, -, -, -⟩ := ho.rd
                  have HB6 := hide (HB3.out.trans (hb6.mono HB3.out.size))
                  clear ho hb6 HB3 HS3 c1 cx
                  go_wp2_with fail
                  go_roundw
                  case rel => exact ⟨i + 1, by omega, by go_num, HB6.out⟩
                  case measure => simp [intOf]; omega
                · obtain rfl : i = l.length := by omega
                  have HZ := hide (HS2.out.below.trans (hb.mono HS2.out.below.size))
                  clear hb
                  go_wp2_with fail
                  go_ret
                  exact ⟨rfl, HZ.out⟩
          · obtain ⟨S, hS, hS2, hSn, hS0, hSl, hSx, hSe, hSm⟩ := short_path (code_ok HK.out).1 han hbn hab hne
            rw [hS] at hne d3 HS hcp ⊢
            have HSX := hide hSx
            have HSE := hide hSe
            have HSM := hide hSm
            clear hSx hSe hSm
            have hnil : (S != []) = true := by simpa using hne
            obtain ⟨pb, po, rfl, -, cp0⟩ := rd_at (k := 0) (x := (a : Int)) HS.out.path (by rw [ints_get, hS0]; rfl)
            obtain ⟨pb', po', e1, -, cp1⟩ := rd_at (k := S.length - 1) (x := (b : Int)) HS.out.path (by rw [ints_get, hSl]; rfl)
            injection e1 with e1
            injection e1 with e1 e2
            subst e1 e2
            have cp0' : w5.cell? ⟨pb, po, none⟩ = some (.int .i64 (a : Nat)) := cp0
            have hk1' : 0 ≤ (S.length : Int) - 1 := by omega
            have hk2' : (S.length : Int) - 1 < S.length := by omega
            have hw1 : IntKind.i64.wrap ((S.length : Int) - 1) = (S.length : Int) - 1 := IntWalk.i64_in _ (by omega)
            have ht1 : ((S.length : Int) - 1).toNat = S.length - 1 := by omega
            have hS0' : 0 < S.length := by omega
            have hS0i : (0 : Int) < S.length := by omega
            have hSz : ((S.length : Int) == 0) = false := by simp; omega
            have hab1 : ((a : Int) == (b : Int)) = false := by simp; omega
            have hab2 : (a == b) = false := by simpa using hab
            have HS0 := hide (And.intro hS0 hSl)
            clear hS0 hSl hS
            go_wp2_with fail
            clear cp0 cp0' cp1 hk1' hk2' hw1 ht1 hSz d3 hnil
            go_loopw [9] (fun z wr => ∃ i : Nat, i + 1 ≤ S.length ∧ z = .int .i64 i ∧ Below w5.heap.size w5 wr) (fun z _ => S.length - (intOf z).toNat)
            case atStart => exact ⟨0, by omega, rfl, by repeat (first | exact Below.refl _ _ | refine Below.drewN' ?_ _ | refine Below.drew ?_)⟩
            case round =>
              obtain ⟨wq, rfl⟩ : ∃ x, x = wr := ⟨_, rfl⟩
              obtain ⟨i, hi, rfl, hb⟩ := hrel
              have HS2 := hide (HS.out.next hb)
              have HB2 := hide hb
              have hwi : IntKind.i64.wrap ((i : Int) + 1) = (i : Int) + 1 := IntWalk.i64_in _ (by omega)
              clear hb
              by_cases hlt : i + 1 < S.length
              · have hlt' : (i : Int) + 1 < S.length := by omega
                have hlt2 : (i : Int) < S.length := by omega
                have hti : ((i : Int) + 1).toNat = i + 1 := by omega
                have hi0 : 0 ≤ (i : Int) + 1 := by omega
                obtain ⟨x, hx⟩ : ∃ x, S[i]? = some x := ⟨_, List.getElem?_eq_getElem (by omega)⟩
                obtain ⟨y, hy⟩ : ∃ y, S[i + 1]? = some y := ⟨_, List.getElem?_eq_getElem hlt⟩
                have hxn := HSX.out x (List.mem_of_getElem? hx)
                have hxy := HSE.out i x y hx hy
                rw [mem_succs (code_ok HK.out).1] at hxy
                obtain ⟨pb1, po1, e1, -, cpx⟩ := rd_at (k := i) (x := (x : Int)) HS2.out.path (by rw [ints_get, hx]; rfl)
                injection e1 with e1
                injection e1 with e1 e2
                subst e1 e2
                obtain ⟨pb1, po1, e1, -, cpy⟩ := rd_at (k := i + 1) (x := (y : Int)) HS2.out.path (by rw [ints_get, hy]; rfl)
                injection e1 with e1
                injection e1 with e1 e2
                subst e1 e2
                obtain ⟨l, hl⟩ : ∃ l, g[x]? = some l := ⟨_, List.getElem?_eq_getElem hxn⟩
                rw [getD_of hl] at hxy
                obtain ⟨Ab, Ao, B, d, rfl, hAb, hcell, hrow⟩ := HS2.out.gr.at hl
                have c1 := HS2.out.cell
                have HR := hide hrow
                have hxn' : (x : Int) < g.length := by omega
                obtain ⟨_, _, e3, hd, hm, -⟩ := hrow
                injection e3 with e3 e4 e5
                subst e3 e5
                have hd9 : d ≤ 9223372036854775807 := by unfold maxLen at hm; omega
                have HXY := hide hxy
                clear hl hm e4 hx hy hxy
                go_wp2_with fail
                go_quiet (fail)
                go_wp2_with fail
                clear hcell cpx c1
                go_loopw [115, 10] (fun z q wr => ∃ j : Nat, j ≤ l.length ∧ z = .int .i64 j ∧ q = .bool (decide ((y : Int) ∈ l.take j)) ∧ Below wq.heap.size wq wr) (fun z _ _ => l.length - (intOf z).toNat)
                case atStart => exact ⟨0, Nat.zero_le _, rfl, by simp, by repeat (first | exact Below.refl _ _ | refine Below.drewN' ?_ _ | refine Below.drew ?_)⟩
                case round =>
                  obtain ⟨wp, rfl⟩ : ∃ x, x = wr := ⟨_, rfl⟩
                  obtain ⟨j, hj, rfl, rfl, hb⟩ := hrel
                  have HB := hide hb
                  by_cases hjl : j < l.length
                  · have hjl' : (j : Int) < l.length := by omega
                    obtain ⟨m, hm⟩ : ∃ x, l[j]? = some x := ⟨_, List.getElem?_eq_getElem hjl⟩
                    obtain ⟨b2, off2, rfl, hbl, cx⟩ := rd_at (HR.out.below' hb) hm
                    have cpy' := (hb.cell (lt_of_cell cpy)).trans cpy
                    obtain ⟨P, hP⟩ : ∃ P, decide ((y : Int) ∈ l.take j) = P := ⟨_, rfl⟩
                    have HN : Hid (decide ((y : Int) ∈ l.take (j + 1)) = (P || (m == (y : Int)))) := hide (by
                      rw [← hP, List.take_add_one, hm]
                      by_cases h1 : (y : Int) ∈ l.take j
                      · simp [h1]
                      · by_cases h2 : m = (y : Int)
                        · simp [h2]
                        · have h3 : ¬ ((y : Int) = m) := fun h => h2 h.symm
                          simp [h1, h2, h3])
                    rw [hP]
                    clear hb hm hP cpy
                    cases P
                    all_goals
                      go_wp2_with fail
                      go_roundw
                      case rel => exact ⟨j + 1, by omega, by go_num, by rw [HN.out]; simp, HB.out⟩
                      case measure => simp [intOf]; omega
                  · obtain rfl : j = l.length := by omega
                    rw [List.take_length, decide_eq_true HXY.out]
                    have HB5 := hide (HB2.out.trans (hb.mono HB2.out.size))
                    clear hb cpy
                    go_wp2_with fail
                    go_roundw
                    case rel => exact ⟨i + 1, by omega, by go_num, HB5.out⟩
                    case measure => simp [intOf]; omega
              · have hlt' : ¬ ((i : Int) + 1 < S.length) := by omega
                clear hi hlt HB2
                obtain ⟨l, hl⟩ : ∃ l, g[a]? = some l := ⟨_, List.getElem?_eq_getElem han⟩
                obtain ⟨Ab, Ao, B, d, rfl, hAb, hcell, hrow⟩ := HS2.out.gr.at hl
                have c1 := HS2.out.cell
                have HL := hide hl
                have HR := hide hrow
                obtain ⟨_, _, e3, hd, hm, -⟩ := hrow
                injection e3 with e3 e4 e5
                subst e3 e5
                have hd9 : d ≤ 9223372036854775807 := by unfold maxLen at hm; omega
                clear hl hm e4
                go_wp2_with fail
                clear hcell c1
                go_loopw [138] (fun z wr => ∃ i : Nat, i ≤ l.length ∧ z = .int .i64 i ∧ Below wq.heap.size wq wr) (fun z _ => l.length - (intOf z).toNat)
                case atStart => exact ⟨0, Nat.zero_le _, rfl, by repeat (first | exact Below.refl _ _ | refine Below.drewN' ?_ _ | refine Below.drew ?_)⟩
                case round =>
                  obtain ⟨wp, rfl⟩ : ∃ x, x = wr := ⟨_, rfl⟩
                  obtain ⟨j, hj, rfl, hb⟩ := hrel
                  by_cases hlt : j < l.length
                  · have hlt' : (j : Int) < l.length := by omega
                    obtain ⟨m, hm⟩ : ∃ x, l[j]? = some x := ⟨_, List.getElem?_eq_getElem hlt⟩
                    obtain ⟨m, rfl, hmn⟩ := ok_node (code_ok HK.out).1 HL.out hm
                    have hms : m ∈ succs g a := by rw [mem_succs (code_ok HK.out).1, getD_of HL.out]; exact List.mem_of_getElem? hm
                    obtain ⟨b2, off2, rfl, hbl, cx⟩ := rd_at (HR.out.below' hb) hm
                    have HS3 := hide (HS2.out.next hb)
                    have HB3 := hide hb
                    have c1 := HS3.out.cell
                    have HMS := hide hms
                    clear hb hm hms
                    go_wp2_with fail
                    refine (short_any _ c g m b _ HS3.out.gr HK.out HE.out hmn hbn).mono ?_
                    rintro en w6 ⟨⟨ov, rfl, ho⟩, hb6⟩
                    have HQ := hide ho.rd
                    have HB6 := hide (HB3.out.trans (hb6.mono HB3.out.size))
                    have HS6 := hide (HS3.out.next hb6)
                    obtain ⟨Bq, cq, rfl, hcq, hmq, -⟩ := ho.rd
                    have hcq9 : cq ≤ 9223372036854775807 := by unfold maxLen at hmq; omega
                    rw [ints_len] at hcq ⊢
                    clear ho hb6 HB3 HS3 c1 cx hmq
                    by_cases hq : short g m b = []
                    · rw [hq]
                      go_wp2_with fail
                      go_roundw
                      case rel => exact ⟨j + 1, by omega, by go_num, HB6.out⟩
                      case measure => simp [intOf]; omega
                    · obtain ⟨hq1, hq2⟩ := HSM.out m HMS.out hq
                      have HQ2 := hide hq2
                      clear hq2
                      obtain ⟨Q, hQ⟩ : ∃ Q, short g m b = Q := ⟨_, rfl⟩
                      have hQl := short_len (code_ok HK.out).1 hmn hbn
                      have hN := (code_ok HK.out).2
                      rw [hQ] at hQl
                      rw [hQ] at HQ HQ2 hcq hq hq1 ⊢
                      clear hQ
                      have hql1 : ¬ ((Q.length : Int) + 1 < S.length) := by omega
                      have hql2 : decide ((Q.length : Int) + 1 < S.length) = false := decide_eq_false hql1
                      have hwq : IntKind.i64.wrap ((Q.length : Int) + 1) = (Q.length : Int) + 1 := IntWalk.i64_in _ (by omega)
                      by_cases hqe : Q.length + 1 = S.length
                      · obtain ⟨x, hx, hxm, hxq⟩ := HQ2.out hqe
                        have hqe1 : ((Q.length : Int) + 1 == S.length) = true := by simp; omega
                        obtain ⟨pb1, po1, e1, -, cpx⟩ := rd_at (k := 1) (x := (x : Int)) HS6.out.path (by rw [ints_get, hx]; rfl)
                        injection e1 with e1
                        injection e1 with e1 e2
                        subst e1 e2
                        have h1i : (1 : Int) < S.length := by omega
                        have h1n : 1 < S.length := by omega
                        have hmx : decide ((m : Int) < (x : Int)) = false := decide_eq_false (by omega)
                        have hmx2 : decide (m < x) = false := decide_eq_false (by omega)
                        by_cases hme : m = x
                        · subst hme
                          have HXQ := hide (hxq rfl)
                          have hcp1 : ¬ (cp - 1 = 0) := by omega
                          have HP1 := hide (rd_tail HS6.out.path hS0i)
                          clear hx hxq HQ2
                          go_wp2_with fail
                          refine (same_any _ _ _ _ _ (rd_len HQ.out (ints_len Q)) HP1.out).mono ?_
                          rintro en w7 ⟨rfl, hb7⟩
                          have HB7 := hide (HB6.out.trans (hb7.mono HB6.out.size))
                          rw [decide_eq_true (show ints Q = (ints S).drop 1 by rw [HXQ.out]; simp [ints, List.map_drop])]
                          clear hb7 HP1
                          go_wp2_with fail
                          go_roundw
                          case rel => exact ⟨j + 1, by omega, by go_num, HB7.out⟩
                          case measure => simp [intOf]; omega
                        · have hm1 : ((m : Int) == (x : Int)) = false := by simp; omega
                          have hm2 : (m == x) = false := by simpa using hme
                          have HX := hide hx
                          clear hx hxq HQ2 hqe
                          go_wp2_with fail
                          go_roundw
                          case rel => exact ⟨j + 1, by omega, by go_num, HB6.out⟩
                          case measure => simp [intOf]; omega
                      · have hqe1 : ((Q.length : Int) + 1 == S.length) = false := by simp; omega
                        go_wp2_with fail
                        go_roundw
                        case rel => exact ⟨j + 1, by omega, by go_num, HB6.out⟩
                        case measure => simp [intOf]; omega
                  · obtain rfl : j = l.length := by omega
                    have HZ := hide (HS2.out.below.trans (hb.mono HS2.out.below.size))
                    clear hb
                    go_wp2_with fail
                    go_ret
                    exact ⟨rfl, HZ.out⟩
      · by_cases a0 : a < 0
        · go_wp2_with fail
          go_ret
          exact ⟨rfl, HB3.out⟩
        · by_cases a1 : a ≥ (g.length : Int)
          · go_wp2_with fail
            go_ret
            exact ⟨rfl, HB3.out⟩
          · by_cases b0 : b < 0
            · clear ha
              go_wp2_with fail
              go_ret
              exact ⟨rfl, HB3.out⟩
            · have b1 : b ≥ (g.length : Int) := by omega
              clear ha
              go_wp2_with fail
              go_ret
              exact ⟨rfl, HB3.out⟩
    · have hcode : (codeG g == 0) = false := by simpa using hok
      have hcode' : (codeG g != 0) = true := by simpa using hok
      clear hok
      go_wp2_with fail
      go_ret
      exact ⟨rfl, HB3.out⟩
  · rw [decide_eq_false hs]
    go_wp2_with fail
    go_ret
    exact ⟨rfl, HB2.out⟩
end Go.Proofs.Ytaehfohljblmoaa

/-
  Layer 8 (domtree): the law DomtreeCommon.
-/
import Derived.Test.YtlgnmlhgghabkaaDomAt
import Derived.Test.YtlgnmlhgghabkaaWorks
import Derived.Test.YtlgnmlhgghabkaaLarge8
import Derived.Test.YtlgnmlhgghabkaaTReach
namespace Go.Proofs.Ytlgnmlhgghabkaa
open Go.RowKit

/-- What the law holds: the graph, who is reached, the list. -/
structure Ch (w0 w : World) (q : Nat) (A : Option Addr) (c D D2 : Nat) (g : List (List Int)) (L : List Nat) (dm : Nat → Nat) : Prop where
  all : RdV w (.slice (some ⟨D, 0, none⟩) g.length g.length) (bl g.length (fun i => decide (i ∈ L)))
  idm : Rd w .i64 (.slice (some ⟨D2, 0, none⟩) g.length g.length) (fz g.length (bf L dm))
  below : Below w0.heap.size w0 w
theorem Ch.next {w0 w w' : World} {q : Nat} {A : Option Addr} {c D D2 : Nat} {g : List (List Int)} {L : List Nat} {dm : Nat → Nat} (h : Ch w0 w q A c D D2 g L dm) (hb : Below w.heap.size w w') : Ch w0 w' q A c D D2 g L dm :=
  ⟨h.all.below' hb, h.idm.below' hb, h.below.trans (hb.mono h.below.size)⟩

set_option maxRecDepth 100000 in
set_option maxHeartbeats 8000000 in
theorem lawCommon (A : Option Addr) (c : Nat) (g : List (List Int)) (w : World) (hg : RdL w A c g) (e : Int) (a b : Nat) (ha : a < 256) (hb : b < 256) :
    Calls Try.prog 8 #[.agg #[.slice A g.length c], .int .i64 e, .int .u8 (a : Nat), .int .u8 (b : Nat)] w (LawDone w) := by
  have hc := hg.cap
  have hc9 : c ≤ 9223372036854775807 := by unfold maxLen at hc; omega
  obtain ⟨w1, hw1⟩ : ∃ x, w.alloc (.cells #[.slice A g.length c] 24) = x := ⟨_, rfl⟩
  have hb1 : Below w.heap.size w w1 := by rw [← hw1]; exact (Below.refl _ _).alloc (Nat.le_refl _) _
  have HB1 := hide hb1
  have HG1 := hide (hg.below' hb1)
  have hx1 : w1.cell? ⟨w.heap.size, 0, none⟩ = some (.slice A g.length c) := by rw [← hw1]; simp [go_sem]
  have HK := hide (large_any A c g w1 HG1.out)
  clear hg hb1 hc
  go_enter Try.func8, Try.ntmps8
  go_wp2_with fail
  refine HK.out.mono ?_
  rintro en w2 ⟨rfl, hb2⟩
  have HB2 : Hid (Below w.heap.size w w2) := hide (HB1.out.trans (hb2.mono HB1.out.size))
  have HG2 := hide (HG1.out.below' hb2)
  have hx2 := (hb2.cell (p := ⟨w.heap.size, 0, none⟩) (lt_of_cell hx1)).trans hx1
  clear hb2 hw1 hx1 HK HG1 HB1
  cases hbg : bigC g with
  | true =>
    clear hbg
    go_wp2_with fail
    refine (works_any _).mono ?_
    rintro en w3 ⟨rfl, hb3⟩
    have HZ := hide (HB2.out.trans (hb3.mono HB2.out.size))
    clear hb3
    go_wp2_with fail
    go_ret
    exact ⟨rfl, HZ.out⟩
  | false =>
    have HSM := hide (bigC_small hbg)
    clear hbg
    go_wp2_with fail
    refine (rcheck_any A c g _ HG2.out).mono ?_
    rintro en w3 ⟨rfl, hb3⟩
    have HB3 : Hid (Below w.heap.size w w3) := hide (HB2.out.trans (hb3.mono HB2.out.size))
    have HG3 := hide (HG2.out.below' hb3)
    have hx3 := (hb3.cell (p := ⟨w.heap.size, 0, none⟩) (lt_of_cell hx2)).trans hx2
    clear hb3 hx2 HG2 HB2
    by_cases hok : codeG g = 0
    · rw [hok]
      by_cases he : 0 ≤ e ∧ e < g.length
      · obtain ⟨e, rfl⟩ : ∃ n : Nat, e = n := ⟨e.toNat, by omega⟩
        have hen : e < g.length := by omega
        have e0 : ¬ ((e : Int) < 0) := by omega
        have e1 : ¬ ((e : Int) ≥ g.length) := by omega
        have e2 : decide ((e : Int) < 0) = false := decide_eq_false e0
        have e3 : decide ((e : Int) ≥ (g.length : Int)) = false := decide_eq_false e1
        have e4 : decide ((g.length : Int) ≤ (e : Int)) = false := decide_eq_false (by omega)
        have e5 : decide (g.length ≤ e) = false := decide_eq_false (by omega)
        have HOK := hide (And.intro hok (And.intro (show edges g ≤ 1000000 by have := HSM.out; omega) (show g.length ≤ 65536 by have := HSM.out; omega)))
        clear he hok
        have hn0 : 0 < g.length := by omega
        have hN9 : g.length ≤ 65536 := HOK.out.2.2
        have n1 : ¬ ((g.length : Int) = 0) := by omega
        have n2 : ((g.length : Int) == 0) = false := beq_eq_false_iff_ne.2 n1
        have n3 : ((g.length : Int) != 0) = true := bne_iff_ne.2 n1
        obtain ⟨x, hx⟩ : ∃ x, a % g.length = x := ⟨_, rfl⟩
        obtain ⟨y, hy⟩ : ∃ y, b % g.length = y := ⟨_, rfl⟩
        have hxn : x < g.length := by rw [← hx]; exact Nat.mod_lt _ hn0
        have hyn : y < g.length := by rw [← hy]; exact Nat.mod_lt _ hn0
        have m1 : ((a : Nat) : Int).tmod (g.length : Int) = (x : Int) := by rw [← hx]; rfl
        have m2 : ((b : Nat) : Int).tmod (g.length : Int) = (y : Int) := by rw [← hy]; rfl
        have k1 : IntKind.i64.wrap ((a : Nat) : Int) = (a : Int) := IntWalk.i64_in _ (by omega)
        have k2 : IntKind.i64.wrap ((b : Nat) : Int) = (b : Int) := IntWalk.i64_in _ (by omega)
        have k3 : IntKind.i64.wrap ((x : Nat) : Int) = (x : Int) := IntWalk.i64_in _ (by omega)
        have k4 : IntKind.i64.wrap ((y : Nat) : Int) = (y : Int) := IntWalk.i64_in _ (by omega)
        clear hx hy
        go_wp2_with fail
        go_quiet (fail)
        obtain ⟨wd, hwd⟩ : ∃ x, w3.drewN nq = x := ⟨_, rfl⟩
        have hbd : Below w3.heap.size w3 wd := by rw [← hwd]; exact ((Frm.refl w3 []).drewN nq).toBelow (by simp) (Nat.le_refl _)
        rw [hwd]
        have HB4 := hide (HB3.out.trans (hbd.mono HB3.out.size))
        have HG4 := hide (HG3.out.below' hbd)
        have hx4 := (hbd.cell (p := ⟨w.heap.size, 0, none⟩) (lt_of_cell hx3)).trans hx3
        clear hwd hbd
        clear HB3 HG3 hx3 m1 m2 k1 k2 k3 k4 e0 e1 e2 e3 e4 e5 n1 n2 n3
        go_wp2_with fail
        refine (rreach_any A c g e _ HG4.out HOK.out.1 hen).mono ?_
        rintro en w5 ⟨⟨D, rfl, hD⟩, hb5⟩
        have HB5 := hide (HB4.out.trans (hb5.mono HB4.out.size))
        have HG5 := hide (HG4.out.below' hb5)
        have hx5 := (hb5.cell (p := ⟨w.heap.size, 0, none⟩) (lt_of_cell hx4)).trans hx4
        have HD := hide hD
        clear hD hb5 HB4 HG4 hx4
        go_wp2_with fail
        refine (build_any A c g e _ HG5.out HOK.out.1 hen HOK.out.2.1).mono ?_
        rintro en w6 ⟨D2, L, P, dm, rfl, g1, g2, g3, g4, hb6⟩
        have HBT : Hid (Bt g e L P dm) := hide ⟨g1, g2, g3⟩
        have HS6 : Hid (Ch w w6 w.heap.size A c D D2 g L dm) := hide ⟨by
          have h := (HD.out.below' hb6).rd
          rw [bl_congr (h := fun i => decide (i ∈ L)) (fun i _ => by rw [decide_eq_decide]; exact (post_way (code_ok HOK.out.1).1 hen i).trans (g1.reach i).symm)] at h
          exact h, g4.rd, HB5.out.trans (hb6.mono HB5.out.size)⟩
        clear g1 g2 g3 g4 hb6 HB5 HG5 hx5 HD
        go_wp2_with fail
        refine (common_at HBT.out HOK.out.2.2 _ _ x y hxn hyn _ HS6.out.idm).mono ?_
        rintro en w7 ⟨rfl, hb7⟩
        have HS := hide (HS6.out.next hb7)
        clear hb7 HS6
        have hx' : (x : Int) < g.length := by omega
        have hy' : (y : Int) < g.length := by omega
        obtain ⟨b1, o1, q1, -, cx⟩ := HS.out.all.at x _ (bl_get (fun i => decide (i ∈ L)) hxn)
        injection q1 with q1
        injection q1 with q1 q2
        subst q1 q2
        obtain ⟨b2, o2, q3, -, cy⟩ := HS.out.all.at y _ (bl_get (fun i => decide (i ∈ L)) hyn)
        injection q3 with q3
        injection q3 with q3 q4
        subst q3 q4
        rw [Nat.zero_add] at cx cy
        by_cases hxL : x ∈ L
        · by_cases hyL : y ∈ L
          · rw [decide_eq_true hxL] at cx
            rw [decide_eq_true hyL] at cy
            obtain ⟨z, hz, hzL, hza, hzb, hzd⟩ := cd_spec HBT.out hxL hyL
            have ec : comB L dm x y = (z : Int) := by unfold comB; rw [if_pos ⟨hxL, hyL⟩, hz]
            rw [ec]
            have hzn : z < g.length := HBT.out.sp.tail.bnd z hzL
            have HX := hide (And.intro hxL (And.intro hyL (And.intro hzL (And.intro hza (And.intro hzb hzd)))))
            clear hxL hyL hz hzL hza hzb hzd ec
            go_wp2_with fail
            refine (dominates_at HBT.out HOK.out.2.2 _ _ z x hzn hxn _ HS.out.idm).mono ?_
            rintro en w8 ⟨rfl, hb8⟩
            rw [domB_in HBT.out HX.out.1, decide_eq_true HX.out.2.2.2.1]
            have HS8 := hide (HS.out.next hb8)
            clear hb8 HS cx cy
            go_wp2_with fail
            refine (dominates_at HBT.out HOK.out.2.2 _ _ z y hzn hyn _ HS8.out.idm).mono ?_
            rintro en w9 ⟨rfl, hb9⟩
            rw [domB_in HBT.out HX.out.2.1, decide_eq_true HX.out.2.2.2.2.1]
            have HS9 := hide (HS8.out.next hb9)
            clear hb9 HS8
            go_wp2_with fail
            go_loopw [87] (fun v wr => ∃ i : Nat, i ≤ g.length ∧ v = .int .i64 (i : Nat) ∧ Hid (Ch w wr w.heap.size A c D D2 g L dm)) (fun v _ => g.length - (intOf v).toNat)
            case atStart => exact ⟨0, Nat.zero_le _, rfl, HS9⟩
            case round =>
              clear HS9
              obtain ⟨wq, rfl⟩ : ∃ x, x = wr := ⟨_, rfl⟩
              obtain ⟨i, hi, rfl, HC⟩ := hrel
              by_cases hlt : i < g.length
              · have hlt' : (i : Int) < g.length := by omega
                go_wp2_with fail
                refine (dominates_at HBT.out HOK.out.2.2 _ _ i x hlt hxn _ HC.out.idm).mono ?_
                rintro en u1 ⟨rfl, hb⟩
                have HC1 := hide (HC.out.next hb)
                clear hb HC
                rw [domB_in HBT.out HX.out.1]
                by_cases d1 : i ∈ pth (bf L dm) (bd L dm) x
                · rw [decide_eq_true d1]
                  have HD1 := hide d1
                  clear d1
                  go_wp2_with fail
                  refine (dominates_at HBT.out HOK.out.2.2 _ _ i y hlt hyn _ HC1.out.idm).mono ?_
                  rintro en u2 ⟨rfl, hb⟩
                  have HC2 := hide (HC1.out.next hb)
                  clear hb HC1
                  rw [domB_in HBT.out HX.out.2.1]
                  by_cases d2 : i ∈ pth (bf L dm) (bd L dm) y
                  · rw [decide_eq_true d2]
                    have d3 := HX.out.2.2.2.2.2 i HD1.out d2
                    have HD3 := hide d3
                    clear d2 d3
                    go_wp2_with fail
                    refine (dominates_at HBT.out HOK.out.2.2 _ _ i z hlt hzn _ HC2.out.idm).mono ?_
                    rintro en u3 ⟨rfl, hb⟩
                    have HC3 := hide (HC2.out.next hb)
                    clear hb HC2
                    rw [domB_in HBT.out HX.out.2.2.1, decide_eq_true HD3.out]
                    go_wp2_with fail
                    go_roundw
                    case rel => exact ⟨i + 1, by omega, by go_num, HC3⟩
                    case measure => simp [intOf]; omega
                  · rw [decide_eq_false d2]
                    clear d2
                    go_wp2_with fail
                    go_roundw
                    case rel => exact ⟨i + 1, by omega, by go_num, HC2⟩
                    case measure => simp [intOf]; omega
                · rw [decide_eq_false d1]
                  clear d1
                  go_wp2_with fail
                  go_roundw
                  case rel => exact ⟨i + 1, by omega, by go_num, HC1⟩
                  case measure => simp [intOf]; omega
              · obtain rfl : i = g.length := by omega
                go_wp2_with fail
                refine (works_any _).mono ?_
                rintro en u4 ⟨rfl, hb⟩
                have HZ := hide (HC.out.below.trans (hb.mono HC.out.below.size))
                clear hb
                go_wp2_with fail
                go_ret
                exact ⟨rfl, HZ.out⟩
          · rw [decide_eq_true hxL] at cx
            rw [decide_eq_false hyL] at cy
            have ec : comB L dm x y = -1 := by unfold comB; rw [if_neg (fun h => hyL h.2)]
            rw [ec]
            clear hxL hyL ec
            go_wp2_with fail
            refine (works_any _).mono ?_
            rintro en u4 ⟨rfl, hb⟩
            have HZ := hide (HS.out.below.trans (hb.mono HS.out.below.size))
            clear hb
            go_wp2_with fail
            go_ret
            exact ⟨rfl, HZ.out⟩
        · rw [decide_eq_false hxL] at cx
          have ec : comB L dm x y = -1 := by unfold comB; rw [if_neg (fun h => hxL h.1)]
          rw [ec]
          clear hxL ec
          go_wp2_with fail
          refine (works_any _).mono ?_
          rintro en u4 ⟨rfl, hb⟩
          have HZ := hide (HS.out.below.trans (hb.mono HS.out.below.size))
          clear hb
          go_wp2_with fail
          go_ret
          exact ⟨rfl, HZ.out⟩
      · have e1 : ¬ (0 ≤ e ∧ e < g.length) := he
        by_cases h0 : e < 0
        · have e2 : decide (e < 0) = true := decide_eq_true h0
          clear he e1 hok
          go_wp2_with fail
          refine (works_any _).mono ?_
          rintro en w4 ⟨rfl, hb4⟩
          have HZ := hide (HB3.out.trans (hb4.mono HB3.out.size))
          clear hb4
          go_wp2_with fail
          go_ret
          exact ⟨rfl, HZ.out⟩
        · have e2 : decide (e < 0) = false := decide_eq_false h0
          have e3 : decide (e ≥ (g.length : Int)) = true := decide_eq_true (by omega)
          have e4 : decide ((g.length : Int) ≤ e) = true := decide_eq_true (by omega)
          have e5 : (g.length : Int) ≤ e := by omega
          clear he e1 hok
          go_wp2_with fail
          refine (works_any _).mono ?_
          rintro en w4 ⟨rfl, hb4⟩
          have HZ := hide (HB3.out.trans (hb4.mono HB3.out.size))
          clear hb4
          go_wp2_with fail
          go_ret
          exact ⟨rfl, HZ.out⟩
    · have t1 : (codeG g != 0) = true := by simpa using hok
      clear hx3
      go_wp2_with fail
      refine (works_any _).mono ?_
      rintro en w4 ⟨rfl, hb4⟩
      have HZ := hide (HB3.out.trans (hb4.mono HB3.out.size))
      clear hb4
      go_wp2_with fail
      go_ret
      exact ⟨rfl, HZ.out⟩
end Go.Proofs.Ytlgnmlhgghabkaa

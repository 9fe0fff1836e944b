/-
  Layer 8 (domtree): the law DomtreeRemoval.
-/
import Derived.Test.YtmopnceglnoncaaDomAt
import Derived.Test.YtmopnceglnoncaaWorks
import Derived.Test.YtmopnceglnoncaaLarge8
import Derived.Test.YtmopnceglnoncaaReached
import Derived.Deep.RegionHeld3
namespace Go.Proofs.Ytmopnceglnoncaa
open Go.RowKit

theorem AvG.ne {g : List (List Int)} {e a x : Nat} (h : AvG g e a x) : x ≠ a := by
  cases h with
  | root h => exact h
  | step _ _ h => exact h
/-- A node dominates exactly those that are not reached without it. -/
theorem removal_eq {g : List (List Int)} {e : Nat} {L P : List Nat} {dm : Nat → Nat} (B : Bt g e L P dm) (hok : okG g = true) (he : e < g.length) (a b : Nat) :
    domB L dm a b = ((decide (b ∈ L) && (decide (b = a) || !(decide (e ≠ a) && decide (b ∈ post (cutG g a) e)))) && decide (a ∈ L)) := by
  by_cases hb : b ∈ L
  · have hav : AvG g e a b ↔ e ≠ a ∧ b ∈ post (cutG g a) e := by
      rw [av_cut hok, post_way (cut_ok hok a) (by rw [cutG_len]; exact he)]
    have hd := B.dom hb a
    unfold domB
    rw [decide_eq_true hb, Bool.true_and, Bool.and_true, Bool.and_comm]
    congr 1
    rw [Bool.eq_iff_iff]
    simp only [decide_eq_true_eq, Bool.or_eq_true, Bool.not_eq_true', Bool.and_eq_false_iff, decide_eq_false_iff_not]
    rw [hd, hav]
    by_cases hba : b = a
    · subst hba
      constructor
      · intro _; exact .inl rfl
      · intro _ h
        exact (hav.2 h).ne rfl
    · constructor
      · intro h
        refine .inr ?_
        by_cases h1 : e ≠ a
        · exact .inr (fun h2 => h ⟨h1, h2⟩)
        · exact .inl h1
      · rintro (h | h | h) ⟨h1, h2⟩
        · exact hba h
        · exact h h1
        · exact h h2
  · unfold domB
    rw [decide_eq_false hb]; simp

/-- What the law holds. -/
structure Rm (w0 w : World) (D D2 D3 a : Nat) (e : Nat) (g : List (List Int)) (L : List Nat) (dm : Nat → Nat) : Prop where
  all : RdV w (.slice (some ⟨D, 0, none⟩) g.length g.length) (bl g.length (fun i => decide (i ∈ L)))
  rest : RdV w (.slice (some ⟨D3, 0, none⟩) g.length g.length) (bl g.length (fun i => decide (e ≠ a) && decide (i ∈ post (cutG g a) e)))
  idm : Rd w .i64 (.slice (some ⟨D2, 0, none⟩) g.length g.length) (fz g.length (bf L dm))
  below : Below w0.heap.size w0 w
theorem Rm.next {w0 w w' : World} {D D2 D3 a e : Nat} {g : List (List Int)} {L : List Nat} {dm : Nat → Nat} (h : Rm w0 w D D2 D3 a e g L dm) (hb : Below w.heap.size w w') : Rm w0 w' D D2 D3 a e g L dm :=
  ⟨h.all.below' hb, h.rest.below' hb, h.idm.below' hb, h.below.trans (hb.mono h.below.size)⟩

theorem Rm.start {w0 w5 w6 : World} {D D2 D3 a e : Nat} {g : List (List Int)} {L P : List Nat} {dm : Nat → Nat} {b : Nat} (B : Bt g e L P dm) (hok : codeG g = 0) (he : e < g.length)
    (hD : RdV w5 (.slice (some ⟨D, 0, none⟩) g.length g.length) (bl g.length (fun i => decide (i ∈ post g e)))) (hb : Below w5.heap.size w5 w6)
    (hR : OwnV w6 b 4 (.slice (some ⟨D3, 0, none⟩) g.length g.length) (bl g.length (fun i => decide (e ≠ a) && decide (i ∈ post (cutG g a) e))))
    (hI : Rd w5 .i64 (.slice (some ⟨D2, 0, none⟩) g.length g.length) (fz g.length (bf L dm))) (hB : Below w0.heap.size w0 w5) : Rm w0 w6 D D2 D3 a e g L dm := by
  refine ⟨?_, hR.rd, hI.below' hb, hB.trans (hb.mono hB.size)⟩
  have h := hD.below' hb
  rw [bl_congr (h := fun i => decide (i ∈ L)) (fun i _ => by rw [decide_eq_decide]; exact (post_way (code_ok hok).1 he i).trans (B.sp.reach i).symm)] at h
  exact h

set_option maxRecDepth 100000 in
set_option maxHeartbeats 8000000 in
theorem lawRemoval (A : Option Addr) (c : Nat) (g : List (List Int)) (w : World) (hg : RdL w A c g) (e a : Int) :
    Calls Try.prog 6 #[.agg #[.slice A g.length c], .int .i64 e, .int .i64 a] w (LawDone w) := by
  have hc := hg.cap
  have hc9 : c ≤ 9223372036854775807 := by unfold maxLen at hc; omega
  obtain ⟨w1, hw1⟩ : ∃ x, w.alloc (.cells #[.slice A g.length c] 24) = x := ⟨_, rfl⟩
  have hb1 : Below w.heap.size w w1 := by rw [← hw1]; exact (Below.refl _ _).alloc (Nat.le_refl _) _
  have HB1 := hide hb1
  have HG1 := hide (hg.below' hb1)
  have hx1 : w1.cell? ⟨w.heap.size, 0, none⟩ = some (.slice A g.length c) := by rw [← hw1]; simp [go_sem]
  have HK := hide (large_any A c g w1 HG1.out)
  clear hg hb1 hc
  go_enter Try.func6, Try.ntmps6
  go_wp2_with fail
  refine HK.out.mono ?_
  rintro en w2 ⟨rfl, hb2⟩
  have HB2 : Hid (Below w.heap.size w w2) := hide (HB1.out.trans (hb2.mono HB1.out.size))
  have HG2 := hide (HG1.out.below' hb2)
  have hx2 := (hb2.cell (p := ⟨w.heap.size, 0, none⟩) (lt_of_cell hx1)).trans hx1
  clear hb2 hw1 hx1 HK HG1 HB1
  cases hbg : bigC g with
  | true =>
    clear hbg
    go_wp2_with fail
    refine (works_any _).mono ?_
    rintro en w3 ⟨rfl, hb3⟩
    have HZ := hide (HB2.out.trans (hb3.mono HB2.out.size))
    clear hb3
    go_wp2_with fail
    go_ret
    exact ⟨rfl, HZ.out⟩
  | false =>
    have HSM := hide (bigC_small hbg)
    clear hbg
    go_wp2_with fail
    refine (rcheck_any A c g _ HG2.out).mono ?_
    rintro en w3 ⟨rfl, hb3⟩
    have HB3 : Hid (Below w.heap.size w w3) := hide (HB2.out.trans (hb3.mono HB2.out.size))
    have HG3 := hide (HG2.out.below' hb3)
    have hx3 := (hb3.cell (p := ⟨w.heap.size, 0, none⟩) (lt_of_cell hx2)).trans hx2
    clear hb3 hx2 HG2 HB2
    by_cases hok : codeG g = 0
    · rw [hok]
      by_cases he : 0 ≤ e ∧ e < g.length
      · obtain ⟨e, rfl⟩ : ∃ n : Nat, e = n := ⟨e.toNat, by omega⟩
        have hen : e < g.length := by omega
        have e0 : ¬ ((e : Int) < 0) := by omega
        have e1 : ¬ ((e : Int) ≥ g.length) := by omega
        have e2 : decide ((e : Int) < 0) = false := decide_eq_false e0
        have e3 : decide ((e : Int) ≥ (g.length : Int)) = false := decide_eq_false e1
        have e4 : decide ((g.length : Int) ≤ (e : Int)) = false := decide_eq_false (by omega)
        have e5 : decide (g.length ≤ e) = false := decide_eq_false (by omega)
        have HOK := hide (And.intro hok (And.intro (show edges g ≤ 1000000 by have := HSM.out; omega) (And.intro (show g.length ≤ 65536 by have := HSM.out; omega) hen)))
        clear he hok
        by_cases ha : 0 ≤ a ∧ a < g.length
        · obtain ⟨a, rfl⟩ : ∃ n : Nat, a = n := ⟨a.toNat, by omega⟩
          have han : a < g.length := by omega
          have a2 : decide ((a : Int) < 0) = false := decide_eq_false (by omega)
          have a3 : decide ((a : Int) ≥ (g.length : Int)) = false := decide_eq_false (by omega)
          have a4 : decide ((g.length : Int) ≤ (a : Int)) = false := decide_eq_false (by omega)
          have a5 : decide (g.length ≤ a) = false := decide_eq_false (by omega)
          clear ha
          go_wp2_with fail
          refine (build_any A c g e _ HG3.out HOK.out.1 hen HOK.out.2.1).mono ?_
          rintro en w4 ⟨D2, L, P, dm, rfl, g1, g2, g3, g4, hb4⟩
          have HBT : Hid (Bt g e L P dm) := hide ⟨g1, g2, g3⟩
          have HI4 := hide g4.rd
          have HB4 := hide (HB3.out.trans (hb4.mono HB3.out.size))
          have HG4 := hide (HG3.out.below' hb4)
          have hx4 := (hb4.cell (p := ⟨w.heap.size, 0, none⟩) (lt_of_cell hx3)).trans hx3
          clear g1 g2 g3 g4 hb4 HB3 HG3 hx3 e0 e1 e2 e3 e4 e5 a2 a3 a4 a5
          go_wp2_with fail
          have cc := hx4
          go_region_held3 (fun w' => w'.cell? ⟨w.heap.size, 0, none⟩ = some (.slice A g.length c)) (exact cc) (first | (go_at_call 28; refine (rreach_any A c g e _ (by exact HG4.out) HOK.out.1 HOK.out.2.2.2).mono ?_; rintro en w5 ⟨⟨D, rfl, hD⟩, hb5⟩; replace hb5 : Below w4.heap.size w4 w5 := ⟨hb5.os, hb5.tape, hb5.output, hb5.size, hb5.block⟩; have HD5 := hide hD.rd; have HB5 := hide (HB4.out.trans (hb5.mono HB4.out.size)); have HG5 := hide (RdL.below' HG4.out hb5); have HI5 := hide (Rd.below' HI4.out hb5); replace cc := (hb5.cell (p := ⟨w.heap.size, 0, none⟩) (lt_of_cell hx4)).trans hx4; clear hD hb5) | (go_at_call 29; refine (reached_any A c g e a _ (by exact HG5.out) HOK.out.1 HOK.out.2.2.2 HOK.out.2.1).mono ?_; rintro en w6 ⟨⟨D3, rfl, hD⟩, hb6⟩; replace hb6 : Below w5.heap.size w5 w6 := ⟨hb6.os, hb6.tape, hb6.output, hb6.size, hb6.block⟩; have HS6 := hide (Rm.start HBT.out HOK.out.1 HOK.out.2.2.2 HD5.out hb6 hD HI5.out HB5.out); replace cc := (hb6.cell (p := ⟨w.heap.size, 0, none⟩) (lt_of_cell cc)).trans cc; clear hD hb6))
          all_goals
            clear cc HB4 HG4 HI4 HD5 HB5 HG5 HI5 hx4
            go_wp2_with fail
            go_loopw [54] (fun v wr => ∃ i : Nat, i ≤ g.length ∧ v = .int .i64 (i : Nat) ∧ Hid (Rm w wr D D2 D3 a e g L dm)) (fun v _ => g.length - (intOf v).toNat)
            case atStart => exact ⟨0, Nat.zero_le _, rfl, HS6⟩
            case round =>
              clear HS6
              obtain ⟨wq, rfl⟩ : ∃ x, x = wr := ⟨_, rfl⟩
              obtain ⟨i, hi, rfl, HC⟩ := hrel
              by_cases hlt : i < g.length
              · have hlt' : (i : Int) < g.length := by omega
                have han' : (a : Int) < g.length := by omega
                have hN9 : g.length ≤ 65536 := HOK.out.2.2.1
                obtain ⟨b1, o1, q1, -, c1⟩ := HC.out.all.at i _ (bl_get (fun i => decide (i ∈ L)) hlt)
                injection q1 with q1
                injection q1 with q1 q2
                subst q1 q2
                obtain ⟨b2, o2, q3, -, c2⟩ := HC.out.rest.at i _ (bl_get (fun i => decide (e ≠ a) && decide (i ∈ post (cutG g a) e)) hlt)
                injection q3 with q3
                injection q3 with q3 q4
                subst q3 q4
                have HDM := hide (dominates_at HBT.out HOK.out.2.2.1 _ _ a i han hlt _ HC.out.idm)
                rw [removal_eq HBT.out (code_ok HOK.out.1).1 HOK.out.2.2.2] at HDM
                rw [Nat.zero_add] at c1 c2
                obtain ⟨pb, hpb⟩ : ∃ p, decide (i ∈ L) = p := ⟨_, rfl⟩
                obtain ⟨pr, hpr⟩ : ∃ p, (decide (e ≠ a) && decide (i ∈ post (cutG g a) e)) = p := ⟨_, rfl⟩
                obtain ⟨pa, hpa⟩ : ∃ p, decide (a ∈ L) = p := ⟨_, rfl⟩
                rw [hpb] at c1 HDM
                rw [hpr] at c2 HDM
                rw [hpa] at HDM
                have HPA := hide hpa
                obtain ⟨pq, hpq⟩ : ∃ p, decide (i = a) = p := ⟨_, rfl⟩
                rw [hpq] at HDM
                have hq1 : ((i : Int) == (a : Int)) = pq := by
                  rw [← hpq]
                  by_cases h : i = a
                  · rw [decide_eq_true h, beq_iff_eq]; omega
                  · rw [decide_eq_false h]; exact beq_eq_false_iff_ne.2 (by omega)
                have hq2 : (i == a) = pq := by rw [← hpq]; rfl
                have HAA := hide (HC.out.all.at a _ (bl_get (fun i => decide (i ∈ L)) han))
                clear hpb hpr hpa hpq
                cases pb <;> cases pq <;> cases pr <;> cases pa
                all_goals
                  go_wp2_with fail
                  refine HDM.out.mono ?_
                  rintro en u1 ⟨rfl, hb⟩
                  have HC1 := hide (HC.out.next hb)
                  obtain ⟨b3, o3, q5, -, c3⟩ := HC1.out.all.at a _ (bl_get (fun i => decide (i ∈ L)) han)
                  injection q5 with q5
                  injection q5 with q5 q6
                  subst q5 q6
                  rw [Nat.zero_add, HPA.out] at c3
                  clear hb HC HDM c1 c2 HAA
                  go_wp2_with fail
                  go_roundw
                  case rel => exact ⟨i + 1, by omega, by go_num, HC1⟩
                  case measure => simp [intOf]; omega
              · obtain rfl : i = g.length := by omega
                go_wp2_with fail
                refine (works_any _).mono ?_
                rintro en u4 ⟨rfl, hb⟩
                have HZ := hide (HC.out.below.trans (hb.mono HC.out.below.size))
                clear hb
                go_wp2_with fail
                go_ret
                exact ⟨rfl, HZ.out⟩
        · by_cases h0 : a < 0
          · have a2 : decide (a < 0) = true := decide_eq_true h0
            clear ha
            go_wp2_with fail
            refine (works_any _).mono ?_
            rintro en w4 ⟨rfl, hb4⟩
            have HZ := hide (HB3.out.trans (hb4.mono HB3.out.size))
            clear hb4
            go_wp2_with fail
            go_ret
            exact ⟨rfl, HZ.out⟩
          · have a2 : decide (a < 0) = false := decide_eq_false h0
            have a3 : decide (a ≥ (g.length : Int)) = true := decide_eq_true (by omega)
            have a4 : decide ((g.length : Int) ≤ a) = true := decide_eq_true (by omega)
            have a5 : (g.length : Int) ≤ a := by omega
            clear ha
            go_wp2_with fail
            refine (works_any _).mono ?_
            rintro en w4 ⟨rfl, hb4⟩
            have HZ := hide (HB3.out.trans (hb4.mono HB3.out.size))
            clear hb4
            go_wp2_with fail
            go_ret
            exact ⟨rfl, HZ.out⟩
      · have e1 : ¬ (0 ≤ e ∧ e < g.length) := he
        by_cases h0 : e < 0
        · have e2 : decide (e < 0) = true := decide_eq_true h0
          clear he e1 hok
          go_wp2_with fail
          refine (works_any _).mono ?_
          rintro en w4 ⟨rfl, hb4⟩
          have HZ := hide (HB3.out.trans (hb4.mono HB3.out.size))
          clear hb4
          go_wp2_with fail
          go_ret
          exact ⟨rfl, HZ.out⟩
        · have e2 : decide (e < 0) = false := decide_eq_false h0
          have e3 : decide (e ≥ (g.length : Int)) = true := decide_eq_true (by omega)
          have e4 : decide ((g.length : Int) ≤ e) = true := decide_eq_true (by omega)
          have e5 : (g.length : Int) ≤ e := by omega
          clear he e1 hok
          go_wp2_with fail
          refine (works_any _).mono ?_
          rintro en w4 ⟨rfl, hb4⟩
          have HZ := hide (HB3.out.trans (hb4.mono HB3.out.size))
          clear hb4
          go_wp2_with fail
          go_ret
          exact ⟨rfl, HZ.out⟩
    · have t1 : (codeG g != 0) = true := by simpa using hok
      clear hx3
      go_wp2_with fail
      refine (works_any _).mono ?_
      rintro en w4 ⟨rfl, hb4⟩
      have HZ := hide (HB3.out.trans (hb4.mono HB3.out.size))
      clear hb4
      go_wp2_with fail
      go_ret
      exact ⟨rfl, HZ.out⟩
end Go.Proofs.Ytmopnceglnoncaa

/-
  Layer 8 (domtree): the law DomtreeBuild.
-/
import Derived.Test.YtmopnceglnoncaaRefB
import Derived.Test.YtmopnceglnoncaaWorks
import Derived.Test.YtmopnceglnoncaaLarge8
import Derived.Deep.RegionHeld3
namespace Go.Proofs.Ytmopnceglnoncaa
open Go.RowKit

theorem eqi_true (u v : Value) (l : List Int) (w : World) (hu : Rd w .i64 u l) (hv : Rd w .i64 v l) :
    Calls Try.prog 11 #[u, v] w fun e w' => e = .returned (.bool true) ∧ Below w.heap.size w w' := by
  have h := eqi_any u v l l w hu hv
  rw [decide_eq_true rfl] at h
  exact h
theorem nil_rd (w : World) : Rd w .i64 (.slice none 0 0) [] := (Own.nil (w := w) (base := 0) (e := 3) (k := .i64)).rd

set_option maxRecDepth 100000 in
set_option maxHeartbeats 8000000 in
theorem rbuild_bad (A : Option Addr) (c : Nat) (g : List (List Int)) (e : Int) (w : World) (hg : RdL w A c g) (hbad : codeG g ≠ 0 ∨ ¬ (0 ≤ e ∧ e < g.length)) :
    Calls Try.prog 13 #[.agg #[.slice A g.length c], .int .i64 e] w fun en w' => en = .returned (.slice none 0 0) ∧ Below w.heap.size w w' := by
  obtain ⟨w1, hw1⟩ : ∃ x, w.alloc (.cells #[.slice A g.length c] 24) = x := ⟨_, rfl⟩
  have hx1 : w1.cell? ⟨w.heap.size, 0, none⟩ = some (.slice A g.length c) := by rw [← hw1]; simp [go_sem]
  have hb1 : Below w.heap.size w w1 := by rw [← hw1]; exact (Below.refl _ _).alloc (Nat.le_refl _) _
  have HB1 := hide hb1
  have HK := hide (rcheck_any A c g w1 (hg.below' hb1))
  clear hg hb1
  go_enter Try.func13, Try.ntmps13
  go_wp2_with fail
  refine HK.out.mono ?_
  rintro en w2 ⟨rfl, hb2⟩
  have HB2 : Hid (Below w.heap.size w w2) := hide (HB1.out.trans (hb2.mono HB1.out.size))
  have hx2 := (hb2.cell (p := ⟨w.heap.size, 0, none⟩) (lt_of_cell hx1)).trans hx1
  clear hw1 hx1 hb2 HK HB1
  by_cases hk : codeG g = 0
  · have hbad := hbad.resolve_left (fun h => h hk)
    rw [hk]
    by_cases h0 : e < 0
    · have t1 : decide (e < 0) = true := decide_eq_true h0
      clear hk hbad
      go_wp2_with fail
      go_ret
      exact ⟨rfl, HB2.out⟩
    · have t1 : decide (e < 0) = false := decide_eq_false h0
      have h1 : e ≥ g.length := by omega
      have t2 : decide (e ≥ (g.length : Int)) = true := decide_eq_true h1
      have t3 : (g.length : Int) ≤ e := h1
      clear hk hbad
      go_wp2_with fail
      go_ret
      exact ⟨rfl, HB2.out⟩
  · have t1 : (codeG g != 0) = true := by simpa using hk
    obtain ⟨k, hkk⟩ : ∃ k, codeG g = k := ⟨_, rfl⟩
    rw [hkk] at t1 ⊢
    clear hk hkk hbad
    go_wp2_with fail
    go_ret
    exact ⟨rfl, HB2.out⟩

set_option maxRecDepth 100000 in
set_option maxHeartbeats 8000000 in
theorem lawBuild (A : Option Addr) (c : Nat) (g : List (List Int)) (w : World) (hg : RdL w A c g) (e : Int) :
    Calls Try.prog 3 #[.agg #[.slice A g.length c], .int .i64 e] w (LawDone w) := by
  have hc := hg.cap
  have hc9 : c ≤ 9223372036854775807 := by unfold maxLen at hc; omega
  obtain ⟨w1, hw1⟩ : ∃ x, w.alloc (.cells #[.slice A g.length c] 24) = x := ⟨_, rfl⟩
  have hb1 : Below w.heap.size w w1 := by rw [← hw1]; exact (Below.refl _ _).alloc (Nat.le_refl _) _
  have HB1 := hide hb1
  have HG1 := hide (hg.below' hb1)
  have hx1 : w1.cell? ⟨w.heap.size, 0, none⟩ = some (.slice A g.length c) := by rw [← hw1]; simp [go_sem]
  have HK := hide (large_any A c g w1 HG1.out)
  clear hg hb1 hc
  go_enter Try.func3, Try.ntmps3
  go_wp2_with fail
  refine HK.out.mono ?_
  rintro en w2 ⟨rfl, hb2⟩
  have HB2 : Hid (Below w.heap.size w w2) := hide (HB1.out.trans (hb2.mono HB1.out.size))
  have HG2 := hide (HG1.out.below' hb2)
  have hx2 := (hb2.cell (p := ⟨w.heap.size, 0, none⟩) (lt_of_cell hx1)).trans hx1
  clear hb2 hw1 hx1 HK HG1 HB1
  cases hbg : bigC g with
  | true =>
    clear hbg
    go_wp2_with fail
    refine (works_any _).mono ?_
    rintro en w3 ⟨rfl, hb3⟩
    have HZ := hide (HB2.out.trans (hb3.mono HB2.out.size))
    clear hb3
    go_wp2_with fail
    go_ret
    exact ⟨rfl, HZ.out⟩
  | false =>
    have HSM := hide (bigC_small hbg)
    clear hbg
    go_wp2_with fail
    by_cases hb : codeG g = 0 ∧ 0 ≤ e ∧ e < g.length
    · obtain ⟨hok, h0, h1⟩ := hb
      obtain ⟨e, rfl⟩ : ∃ n : Nat, e = n := ⟨e.toNat, by omega⟩
      have HOK := hide (And.intro hok (And.intro (show edges g ≤ 1000000 by have := HSM.out; omega) (show e < g.length by omega)))
      clear hok h0 h1
      have cc := hx2
      go_region_held3 (fun w' => w'.cell? ⟨w.heap.size, 0, none⟩ = some (.slice A g.length c)) (exact cc) (first | (go_at_call 12; refine (build_any A c g e _ (by exact HG2.out) HOK.out.1 HOK.out.2.2 HOK.out.2.1).mono ?_; rintro en w4 ⟨D2, L, P, dm, rfl, g1, g2, g3, g4, hb4⟩; replace hb4 : Below w2.heap.size w2 w4 := ⟨hb4.os, hb4.tape, hb4.output, hb4.size, hb4.block⟩; have HBT : Hid (Bt g e L P dm) := hide ⟨g1, g2, g3⟩; have HI4 := hide g4.rd; have HB4 := hide (HB2.out.trans (hb4.mono HB2.out.size)); have HG4 := hide (HG2.out.below' hb4); replace cc := (hb4.cell (p := ⟨w.heap.size, 0, none⟩) (lt_of_cell cc)).trans cc; clear g1 g2 g3 g4 hb4) | (go_at_call 13; refine (rbuild_any A c g e _ (by exact HG4.out) HOK.out.1 HOK.out.2.2 HOK.out.2.1 HBT.out).mono ?_; rintro en w5 ⟨⟨D3, rfl, hD⟩, hb5⟩; replace hb5 : Below w4.heap.size w4 w5 := ⟨hb5.os, hb5.tape, hb5.output, hb5.size, hb5.block⟩; have HI5 := hide (Rd.below' HI4.out hb5); have HD5 := hide hD.rd; have HB5 := hide (HB4.out.trans (hb5.mono HB4.out.size)); replace cc := (hb5.cell (p := ⟨w.heap.size, 0, none⟩) (lt_of_cell cc)).trans cc; clear hD hb5) | (go_at_call 11; refine (eqi_true _ _ _ _ (by exact HI5.out) (by exact HD5.out)).mono ?_; rintro en w6 ⟨rfl, hb6⟩; replace hb6 : Below w5.heap.size w5 w6 := ⟨hb6.os, hb6.tape, hb6.output, hb6.size, hb6.block⟩; have HB6 := hide (HB5.out.trans (hb6.mono HB5.out.size)); replace cc := (hb6.cell (p := ⟨w.heap.size, 0, none⟩) (lt_of_cell cc)).trans cc; clear hb6) | (go_at_call 10; refine (works_any _).mono ?_; rintro en w7 ⟨rfl, hb7⟩; replace hb7 : Below w6.heap.size w6 w7 := ⟨hb7.os, hb7.tape, hb7.output, hb7.size, hb7.block⟩; have HZ := hide (HB6.out.trans (hb7.mono HB6.out.size)); replace cc := (hb7.cell (p := ⟨w.heap.size, 0, none⟩) (lt_of_cell cc)).trans cc; clear hb7))
      all_goals
        clear cc hx2 HB2 HG2
        go_wp2_with fail
        go_ret
        exact ⟨rfl, HZ.out⟩
    · have HBAD : Hid (codeG g ≠ 0 ∨ ¬ (0 ≤ e ∧ e < g.length)) := hide (by
        by_cases h : codeG g = 0
        · exact .inr (fun k => hb ⟨h, k⟩)
        · exact .inl h)
      clear hb
      have cc := hx2
      go_region_held3 (fun w' => w'.cell? ⟨w.heap.size, 0, none⟩ = some (.slice A g.length c)) (exact cc) (first | (go_at_call 12; refine (build_bad A c g e _ (by exact HG2.out) HBAD.out).mono ?_; rintro en w4 ⟨rfl, hb4⟩; replace hb4 : Below w2.heap.size w2 w4 := ⟨hb4.os, hb4.tape, hb4.output, hb4.size, hb4.block⟩; have HB4 := hide (HB2.out.trans (hb4.mono HB2.out.size)); have HG4 := hide (HG2.out.below' hb4); replace cc := (hb4.cell (p := ⟨w.heap.size, 0, none⟩) (lt_of_cell cc)).trans cc; clear hb4) | (go_at_call 13; refine (rbuild_bad A c g e _ (by exact HG4.out) HBAD.out).mono ?_; rintro en w5 ⟨rfl, hb5⟩; replace hb5 : Below w4.heap.size w4 w5 := ⟨hb5.os, hb5.tape, hb5.output, hb5.size, hb5.block⟩; have HI5 := hide (nil_rd w5); have HD5 := hide (nil_rd w5); have HB5 := hide (HB4.out.trans (hb5.mono HB4.out.size)); replace cc := (hb5.cell (p := ⟨w.heap.size, 0, none⟩) (lt_of_cell cc)).trans cc; clear hb5) | (go_at_call 11; refine (eqi_true _ _ _ _ (by exact HI5.out) (by exact HD5.out)).mono ?_; rintro en w6 ⟨rfl, hb6⟩; replace hb6 : Below w5.heap.size w5 w6 := ⟨hb6.os, hb6.tape, hb6.output, hb6.size, hb6.block⟩; have HB6 := hide (HB5.out.trans (hb6.mono HB5.out.size)); replace cc := (hb6.cell (p := ⟨w.heap.size, 0, none⟩) (lt_of_cell cc)).trans cc; clear hb6) | (go_at_call 10; refine (works_any _).mono ?_; rintro en w7 ⟨rfl, hb7⟩; replace hb7 : Below w6.heap.size w6 w7 := ⟨hb7.os, hb7.tape, hb7.output, hb7.size, hb7.block⟩; have HZ := hide (HB6.out.trans (hb7.mono HB6.out.size)); replace cc := (hb7.cell (p := ⟨w.heap.size, 0, none⟩) (lt_of_cell cc)).trans cc; clear hb7))
      all_goals
        clear cc hx2 HB2 HG2
        go_wp2_with fail
        go_ret
        exact ⟨rfl, HZ.out⟩
end Go.Proofs.Ytmopnceglnoncaa

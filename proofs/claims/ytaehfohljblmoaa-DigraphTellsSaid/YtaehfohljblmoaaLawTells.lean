/-
  DigraphTells, layer 6 (digraph).
-/
import Derived.Deep.RegionHeld3
import Derived.Test.YtaehfohljblmoaaAwake2
import Derived.Test.YtaehfohljblmoaaTBoth
namespace Go.Proofs.Ytaehfohljblmoaa
open Go.RowKit

theorem u_same {w : World} {u v : Value} {l : List Int} (hu : Rd w .i64 u l) (hv : Rd w .i64 v l) (args : Array Value) (W : World) (e : args = #[u, v]) (hw : W = w) : Calls Try.prog 19 args W fun en w' => en = .returned (.bool true) ∧ Below w.heap.size w w' := by
  subst e hw
  exact (same_any u v l l _ hu hv).mono fun _ _ ⟨a, b⟩ => ⟨by rw [a, decide_eq_true rfl], b⟩
theorem u_samel {w : World} {A B : Option Addr} {c d : Nat} {g : List (List Int)} (hg : RdL w A c g) (hh : RdL w B d g) (args : Array Value) (W : World) (e : args = #[.slice A g.length c, .slice B g.length d]) (hw : W = w) : Calls Try.prog 11 args W fun en w' => en = .returned (.bool true) ∧ Below w.heap.size w w' := by
  subst e hw
  exact samelists_any A B c d g g _ hg hh rfl

set_option maxRecDepth 200000 in
set_option maxHeartbeats 8000000 in
theorem lawTells (A : Option Addr) (c : Nat) (g : List (List Int)) (a b : Int) (w : World) (hg : RdL w A c g) (hbig : ∀ l ∈ g, l.length ≤ 17592186044416) :
    Calls Try.prog 3 #[.agg #[.slice A g.length c], .int .i64 a, .int .i64 b] w (LawDone w) := by
  have hfld := run_field
  obtain ⟨w1, hw1⟩ : ∃ x, w.alloc (.cells #[.slice A g.length c] 24) = x := ⟨_, rfl⟩
  have hb1 : Below w.heap.size w w1 := by rw [← hw1]; exact (Below.refl _ _).alloc (Nat.le_refl _) _
  have HB1 := hide hb1
  have HG1 := hide (hg.below' hb1)
  have hx1 : w1.cell? ⟨w.heap.size, 0, none⟩ = some (.slice A g.length c) := by rw [← hw1]; simp [go_sem]
  have HBIG := hide hbig
  clear hg hbig hb1
  go_enter Try.func3, Try.ntmps3
  go_upto_region 1 with fail
  have c1 : w1.drew.cell? ⟨w.heap.size, 0, none⟩ = some (.slice A g.length c) := hx1
  have HG2 : Hid (RdL w1.drew A c g) := hide (HG1.out.below' (Below.refl _ _).drew)
  have HB2 : Hid (Below w.heap.size w w1.drew) := hide HB1.out.drew
  clear HG1 HB1 hx1 hw1
  go_region_held3 (fun w' => w'.cell? ⟨w.heap.size, 0, none⟩ = some (.slice A g.length c)) (first | exact c1 | exact c2 | exact c3) (first | (go_at_call 7; refine (check_any A c g _ HG2.out).mono ?_; rintro en w2 ⟨rfl, hb2⟩; have c2 := (hb2.cell (p := ⟨w.heap.size, 0, none⟩) (lt_of_cell c1)).trans c1) | (go_at_call 8; refine (rcheck_any A c g _ (HG2.out.below' hb2)).mono ?_; rintro en w3 ⟨rfl, hb3⟩; have c3 := (hb3.cell (p := ⟨w.heap.size, 0, none⟩) (lt_of_cell c2)).trans c2))
  all_goals
    have HB3 := hide ((HB2.out.trans (hb2.mono HB2.out.size)).trans (hb3.mono (Nat.le_trans HB2.out.size hb2.size)))
    have HG3 := hide ((HG2.out.below' hb2).below' hb3)
    clear hb2 hb3 HB2 HG2 c1 c2
    go_wp2_with fail
    refine (small_any A c g _ HG3.out HBIG.out).mono ?_
    rintro en w4 ⟨rfl, hb4⟩
    have HB4 := hide (HB3.out.trans (hb4.mono HB3.out.size))
    have HG4 := hide (HG3.out.below' hb4)
    have hx4 : w4.cell? ⟨w.heap.size, 0, none⟩ = some (.slice A g.length c) := (hb4.cell (p := ⟨w.heap.size, 0, none⟩) (lt_of_cell c3)).trans c3
    clear hb4 HB3 HG3 c3
    by_cases hs : g.length ≤ 60 ∧ edges g ≤ 300
    · rw [decide_eq_true hs]
      have HE := hide (show edges g ≤ 1000000 by omega)
      clear hs
      go_upto_region 5 with fail
      have cc : w4.drew.cell? ⟨w.heap.size, 0, none⟩ = some (.slice A g.length c) := hx4
      have HG : Hid (RdL w4.drew A c g) := hide (HG4.out.below' (Below.refl _ _).drew)
      have HB : Hid (Below w.heap.size w w4.drew) := hide HB4.out.drew
      clear HG4 HB4 hx4
      go_region_held3 (fun w' => w'.cell? ⟨w.heap.size, 0, none⟩ = some (.slice A g.length c)) (first | exact cc) (first | (go_at_call 12; refine (u_preds HG.out HE.out).mono ?_; rintro en w1 ⟨B1, d1, rfl, r1, hb⟩; replace cc := (hb.cell (p := ⟨w.heap.size, 0, none⟩) (lt_of_cell cc)).trans cc; replace HG := hide (HG.out.below' hb); replace HB := hide (HB.out.trans (hb.mono HB.out.size)); clear hb) | (go_at_call 13; refine (ur_preds HG.out HE.out).mono ?_; rintro en w1r ⟨B1r, d1r, rfl, r1r, hb⟩; replace r1 := r1.below' hb; replace cc := (hb.cell (p := ⟨w.heap.size, 0, none⟩) (lt_of_cell cc)).trans cc; replace HG := hide (HG.out.below' hb); replace HB := hide (HB.out.trans (hb.mono HB.out.size)); clear hb) | (go_at_call 11; refine (u_samel r1 r1r _ _ (by rfl) (by rfl)).mono ?_; rintro en w1s ⟨rfl, hb⟩; replace cc := (hb.cell (p := ⟨w.heap.size, 0, none⟩) (lt_of_cell cc)).trans cc; replace HG := hide (HG.out.below' hb); replace HB := hide (HB.out.trans (hb.mono HB.out.size)); clear hb r1 r1r) | (go_at_call 14; refine (u_rev HG.out HE.out).mono ?_; rintro en w2 ⟨B2, d2, rfl, r2, hb⟩; replace cc := (hb.cell (p := ⟨w.heap.size, 0, none⟩) (lt_of_cell cc)).trans cc; replace HG := hide (HG.out.below' hb); replace HB := hide (HB.out.trans (hb.mono HB.out.size)); clear hb) | (go_at_call 15; refine (ur_rev HG.out HE.out).mono ?_; rintro en w2r ⟨B2r, d2r, rfl, r2r, hb⟩; replace r2 := r2.below' hb; replace cc := (hb.cell (p := ⟨w.heap.size, 0, none⟩) (lt_of_cell cc)).trans cc; replace HG := hide (HG.out.below' hb); replace HB := hide (HB.out.trans (hb.mono HB.out.size)); clear hb) | (go_at_call 11; refine (u_samel r2 r2r _ _ (by rfl) (by rfl)).mono ?_; rintro en w2s ⟨rfl, hb⟩; replace cc := (hb.cell (p := ⟨w.heap.size, 0, none⟩) (lt_of_cell cc)).trans cc; replace HG := hide (HG.out.below' hb); replace HB := hide (HB.out.trans (hb.mono HB.out.size)); clear hb r2 r2r) | (go_at_call 17; refine (u_reach HG.out a).mono ?_; rintro en w3 ⟨B3, d3, rfl, r3, hb⟩; replace cc := (hb.cell (p := ⟨w.heap.size, 0, none⟩) (lt_of_cell cc)).trans cc; replace HG := hide (HG.out.below' hb); replace HB := hide (HB.out.trans (hb.mono HB.out.size)); clear hb) | (go_at_call 18; refine (ur_reach HG.out a).mono ?_; rintro en w3r ⟨B3r, d3r, rfl, r3r, hb⟩; replace r3 := r3.below' hb; replace cc := (hb.cell (p := ⟨w.heap.size, 0, none⟩) (lt_of_cell cc)).trans cc; replace HG := hide (HG.out.below' hb); replace HB := hide (HB.out.trans (hb.mono HB.out.size)); clear hb) | (go_at_call 16; refine (samebools_any _ _ _ _ _ _ _ r3 r3r).mono ?_; rintro en w3s ⟨rfl, hb⟩; replace cc := (hb.cell (p := ⟨w.heap.size, 0, none⟩) (lt_of_cell cc)).trans cc; replace HG := hide (HG.out.below' hb); replace HB := hide (HB.out.trans (hb.mono HB.out.size)); clear hb r3 r3r) | (go_at_call 20; refine (u_post HG.out a).mono ?_; rintro en w4 ⟨v4, rfl, r4, hb⟩; replace cc := (hb.cell (p := ⟨w.heap.size, 0, none⟩) (lt_of_cell cc)).trans cc; replace HG := hide (HG.out.below' hb); replace HB := hide (HB.out.trans (hb.mono HB.out.size)); clear hb) | (go_at_call 21; refine (ur_post HG.out a).mono ?_; rintro en w4r ⟨v4r, rfl, r4r, hb⟩; replace r4 := r4.below' hb; replace cc := (hb.cell (p := ⟨w.heap.size, 0, none⟩) (lt_of_cell cc)).trans cc; replace HG := hide (HG.out.below' hb); replace HB := hide (HB.out.trans (hb.mono HB.out.size)); clear hb) | (go_at_call 19; refine (u_same r4 r4r _ _ (by rfl) (by rfl)).mono ?_; rintro en w4s ⟨rfl, hb⟩; replace cc := (hb.cell (p := ⟨w.heap.size, 0, none⟩) (lt_of_cell cc)).trans cc; replace HG := hide (HG.out.below' hb); replace HB := hide (HB.out.trans (hb.mono HB.out.size)); clear hb r4 r4r) | (go_at_call 22; refine (u_rpost HG.out a).mono ?_; rintro en w5 ⟨v5, rfl, r5, hb⟩; replace cc := (hb.cell (p := ⟨w.heap.size, 0, none⟩) (lt_of_cell cc)).trans cc; replace HG := hide (HG.out.below' hb); replace HB := hide (HB.out.trans (hb.mono HB.out.size)); clear hb) | (go_at_call 23; refine (ur_rpost HG.out a).mono ?_; rintro en w5r ⟨v5r, rfl, r5r, hb⟩; replace r5 := r5.below' hb; replace cc := (hb.cell (p := ⟨w.heap.size, 0, none⟩) (lt_of_cell cc)).trans cc; replace HG := hide (HG.out.below' hb); replace HB := hide (HB.out.trans (hb.mono HB.out.size)); clear hb) | (go_at_call 19; refine (u_same r5 r5r _ _ (by rfl) (by rfl)).mono ?_; rintro en w5s ⟨rfl, hb⟩; replace cc := (hb.cell (p := ⟨w.heap.size, 0, none⟩) (lt_of_cell cc)).trans cc; replace HG := hide (HG.out.below' hb); replace HB := hide (HB.out.trans (hb.mono HB.out.size)); clear hb r5 r5r) | (go_at_call 24; refine (u_short HG.out HE.out a b).mono ?_; rintro en w6 ⟨v6, rfl, r6, hb⟩; replace cc := (hb.cell (p := ⟨w.heap.size, 0, none⟩) (lt_of_cell cc)).trans cc; replace HG := hide (HG.out.below' hb); replace HB := hide (HB.out.trans (hb.mono HB.out.size)); clear hb) | (go_at_call 25; refine (ur_short HG.out a b).mono ?_; rintro en w6r ⟨v6r, rfl, r6r, hb⟩; replace r6 := r6.below' hb; replace cc := (hb.cell (p := ⟨w.heap.size, 0, none⟩) (lt_of_cell cc)).trans cc; replace HG := hide (HG.out.below' hb); replace HB := hide (HB.out.trans (hb.mono HB.out.size)); clear hb) | (go_at_call 19; refine (u_same r6 r6r _ _ (by rfl) (by rfl)).mono ?_; rintro en w6s ⟨rfl, hb⟩; replace cc := (hb.cell (p := ⟨w.heap.size, 0, none⟩) (lt_of_cell cc)).trans cc; replace HG := hide (HG.out.below' hb); replace HB := hide (HB.out.trans (hb.mono HB.out.size)); clear hb r6 r6r) | (go_at_call 10; refine (awake_any _).mono ?_; rintro en w7 ⟨rfl, hb⟩; replace cc := (hb.cell (p := ⟨w.heap.size, 0, none⟩) (lt_of_cell cc)).trans cc; replace HG := hide (HG.out.below' hb); replace HB := hide (HB.out.trans (hb.mono HB.out.size)); clear hb))
      all_goals
        clear cc HG
        go_wp2_with fail
        go_ret
        exact ⟨rfl, HB.out⟩
    · rw [decide_eq_false hs]
      go_wp2_with fail
      refine (awake_any _).mono ?_
      rintro en w5 ⟨rfl, hb5⟩
      have HZ := hide (HB4.out.trans (hb5.mono HB4.out.size))
      clear hb5
      go_wp2_with fail
      go_ret
      exact ⟨rfl, HZ.out⟩
end Go.Proofs.Ytaehfohljblmoaa

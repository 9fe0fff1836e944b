/-
  SccOnCycle, layer 7 (scc).
-/
import Derived.Test.YtakojoedifhcnaaTri
import Derived.Test.YtakojoedifhcnaaLarge
namespace Go.Proofs.Ytakojoedifhcnaa
open Go.RowKit

set_option maxRecDepth 100000 in
set_option maxHeartbeats 4000000 in
theorem lawOn (A : Option Addr) (c : Nat) (g : List (List Int)) (w : World) (hg : RdL w A c g) (hbig : g.length ≤ 5864062014806) :
    Calls Try.prog 4 #[.agg #[.slice A g.length c]] w (LawDone w) := by
  obtain ⟨w1, hw1⟩ : ∃ x, w.alloc (.cells #[.slice A g.length c] 24) = x := ⟨_, rfl⟩
  have hb1 : Below w.heap.size w w1 := by rw [← hw1]; exact (Below.refl _ _).alloc (Nat.le_refl _) _
  have HB1 := hide hb1
  have HG1 := hide (hg.below' hb1)
  have hx1 : w1.cell? ⟨w.heap.size, 0, none⟩ = some (.slice A g.length c) := by rw [← hw1]; simp [go_sem]
  have HK := hide (large_any A c g w1 HG1.out hbig)
  clear hg hbig hb1
  go_enter Try.func4, Try.ntmps4
  go_wp2_with fail
  refine HK.out.mono ?_
  rintro en w2 ⟨rfl, hb2⟩
  have HB2 : Hid (Below w.heap.size w w2) := hide (HB1.out.trans (hb2.mono HB1.out.size))
  have HG2 := hide (HG1.out.below' hb2)
  have hx2 := (hb2.cell (p := ⟨w.heap.size, 0, none⟩) (lt_of_cell hx1)).trans hx1
  clear hb2 hw1 hx1 HK HG1 HB1
  cases hbg : bigB g with
  | true =>
    clear hbg
    go_wp2_with fail
    refine (awake_any _).mono ?_
    rintro en w3 ⟨rfl, hb3⟩
    have HZ := hide (HB2.out.trans (hb3.mono HB2.out.size))
    clear hb3
    go_wp2_with fail
    go_ret
    exact ⟨rfl, HZ.out⟩
  | false =>
    obtain ⟨h50, hE⟩ := bigB_small hbg
    have HN := hide h50
    have HE := hide hE
    clear hbg h50 hE
    go_upto_region 3 with fail
    have cc : w2.drew.cell? ⟨w.heap.size, 0, none⟩ = some (.slice A g.length c) := hx2
    have HG : Hid (RdL w2.drew A c g) := hide (HG2.out.below' (Below.refl _ _).drew)
    have HB : Hid (Below w.heap.size w w2.drew) := hide HB2.out.drew
    clear HG2 HB2 hx2
    go_region_held3 (fun w' => w'.cell? ⟨w.heap.size, 0, none⟩ = some (.slice A g.length c)) (first | exact cc) (first | (go_at_call 8; refine (awake_any _).mono ?_; rintro en w3 ⟨rfl, hb⟩; replace cc := (hb.cell (p := ⟨w.heap.size, 0, none⟩) (lt_of_cell cc)).trans cc; replace HG := hide (HG.out.below' hb); replace HB := hide (HB.out.trans (hb.mono HB.out.size)); clear hb) | (go_at_call 15; refine (on_any A c g _ HG.out (Nat.le_trans HN.out (by decide)) (Nat.le_trans HE.out (by decide))).mono ?_; rintro en w4 ⟨⟨F, rfl, hF⟩, hb⟩; have HF := hide hF.rd; replace cc := (hb.cell (p := ⟨w.heap.size, 0, none⟩) (lt_of_cell cc)).trans cc; replace HG := hide (HG.out.below' hb); replace HB := hide (HB.out.trans (hb.mono HB.out.size)); clear hb hF) | (go_at_call 16; refine (ron_any A c g _ HG.out (Nat.le_trans HN.out (by decide))).mono ?_; rintro en w5 ⟨⟨sv, rfl, hS⟩, hb⟩; have HS := hide hS.rd; replace HF := hide (HF.out.below' hb); replace cc := (hb.cell (p := ⟨w.heap.size, 0, none⟩) (lt_of_cell cc)).trans cc; replace HG := hide (HG.out.below' hb); replace HB := hide (HB.out.trans (hb.mono HB.out.size)); clear hb hS) | (go_at_call 14; refine (eqb_any _ _ _ _ _ HF.out HS.out).mono ?_; rintro en w6 ⟨rfl, hb⟩; replace cc := (hb.cell (p := ⟨w.heap.size, 0, none⟩) (lt_of_cell cc)).trans cc; replace HB := hide (HB.out.trans (hb.mono HB.out.size)); clear hb HF HS))
    all_goals
      clear cc HG
      go_wp2_with fail
      go_ret
      exact ⟨rfl, HB.out⟩
end Go.Proofs.Ytakojoedifhcnaa

/-
  Layer 11 (value): combine of sums, differences and products of two numbers.
-/
import Derived.Test.YtjeinmccahbpgaaDoorEvB
namespace Go.Proofs.YtjeinmccahbpgaaDoor
open Go.RowKit

/-- The number that a lane holds. -/
def combN (nw over : Bool) (n : Int) : Int := if nw && over then 0 else n
theorem _root_.Go.RowKit.Below.size' {q : Nat} {a b : World} (h : Below q a b) (hq : a.heap.size = q) : q ≤ b.heap.size := by have := h.size; omega

set_option maxRecDepth 100000 in
set_option maxHeartbeats 2000000 in
theorem combine_5 (t dst imm sym el x y : Int) (ia : Option Addr) (il ic : Nat) (nw : Bool) (w : World) (hT : Tab w) : Calls Tryd.prog 98 #[.agg #[.int .i64 5, .int .i64 t, .int .i64 dst, .slice ia il ic, .int .i64 imm, .int .i64 sym, .int .i64 el, .bool nw], .agg #[.int .i64 x, .bool false, .bool false], .agg #[.int .i64 y, .bool false, .bool false]] w fun e w' =>
    e = .returned (.agg #[.int .i64 (combN nw (addO (laneT t) x y) (addS (laneT t) x y)), .bool (nw && addO (laneT t) x y), .bool false]) ∧ Below w.heap.size w w' := by
  have HT := hide hT
  have HCM := hide (compute_5 (laneT t) x y)
  obtain ⟨ov, hov⟩ : ∃ b, addO (laneT t) x y = b := ⟨_, rfl⟩
  obtain ⟨sm, hsm⟩ : ∃ b, addS (laneT t) x y = b := ⟨_, rfl⟩
  rw [hov, hsm] at HCM ⊢
  clear hT hov hsm
  obtain ⟨q, hq⟩ : ∃ q, w.heap.size = q := ⟨_, rfl⟩
  obtain ⟨wa, hwa⟩ : ∃ z, w.alloc (.cells #[.int .i64 5, .int .i64 t, .int .i64 dst, .slice ia il ic, .int .i64 imm, .int .i64 sym, .int .i64 el, .bool nw] 38) = z := ⟨_, rfl⟩
  obtain ⟨wb, hwb⟩ : ∃ z, wa.alloc (.cells #[.int .i64 x, .bool false, .bool false] 24) = z := ⟨_, rfl⟩
  obtain ⟨wc, hwc⟩ : ∃ z, wb.alloc (.cells #[.int .i64 y, .bool false, .bool false] 24) = z := ⟨_, rfl⟩
  obtain ⟨w1, hw1⟩ : ∃ z, wc.alloc (.cells #[.int .i64 0, .bool false, .bool false] 24) = z := ⟨_, rfl⟩
  obtain ⟨w2, hw2⟩ : ∃ z, w1.alloc (.cells #[.int .i64 x, .bool false, .bool false, .int .i64 y, .bool false, .bool false] 24) = z := ⟨_, rfl⟩
  have sa : wa.heap.size = q + 1 := by rw [← hwa, World.size_alloc, hq]
  have sb : wb.heap.size = q + 1 + 1 := by rw [← hwb, World.size_alloc, sa]
  have sc : wc.heap.size = q + 1 + 1 + 1 := by rw [← hwc, World.size_alloc, sb]
  have s1 : w1.heap.size = q + 1 + 1 + 1 + 1 := by rw [← hw1, World.size_alloc, sc]
  have HI : Hid (Whole w2 q 38 #[.int .i64 5, .int .i64 t, .int .i64 dst, .slice ia il ic, .int .i64 imm, .int .i64 sym, .int .i64 el, .bool nw]) := by show Whole _ _ _ _; rw [← hw2, ← hw1, ← hwc, ← hwb, ← hwa, ← hq]; exact ((((Whole.new w _ _).alloc _).alloc _).alloc _).alloc _
  have HX : Hid (Whole w2 (q + 1) 24 #[.int .i64 x, .bool false, .bool false]) := by show Whole _ _ _ _; rw [← hw2, ← hw1, ← hwc, ← hwb, ← sa]; exact (((Whole.new wa _ _).alloc _).alloc _).alloc _
  have HY : Hid (Whole w2 (q + 1 + 1) 24 #[.int .i64 y, .bool false, .bool false]) := by show Whole _ _ _ _; rw [← hw2, ← hw1, ← hwc, ← sb]; exact ((Whole.new wb _ _).alloc _).alloc _
  have HR : Hid (Whole w2 (q + 1 + 1 + 1) 24 #[.int .i64 0, .bool false, .bool false]) := by show Whole _ _ _ _; rw [← hw2, ← hw1, ← sc]; exact (Whole.new wc _ _).alloc _
  have HS : Whole w2 w1.heap.size 24 #[.int .i64 x, .bool false, .bool false, .int .i64 y, .bool false, .bool false] := by rw [← hw2]; exact Whole.new w1 _ _
  have HB : Hid (Below q w w2) := by
    show Below _ _ _
    have h0 := (Below.refl q w).alloc (Nat.le_of_eq hq.symm) (.cells #[.int .i64 5, .int .i64 t, .int .i64 dst, .slice ia il ic, .int .i64 imm, .int .i64 sym, .int .i64 el, .bool nw] 38)
    rw [hwa] at h0
    have h1 := h0.alloc (by omega) (.cells #[.int .i64 x, .bool false, .bool false] 24)
    rw [hwb] at h1
    have h2 := h1.alloc (by omega) (.cells #[.int .i64 y, .bool false, .bool false] 24)
    rw [hwc] at h2
    have h3 := h2.alloc (by omega) (.cells #[.int .i64 0, .bool false, .bool false] 24)
    rw [hw1] at h3
    have h4 := h3.alloc (by omega) (.cells #[.int .i64 x, .bool false, .bool false, .int .i64 y, .bool false, .bool false] 24)
    rw [hw2] at h4
    exact h4
  have HQ := hide hq
  have a0 : w1.cell? ⟨q + 1, 0, none⟩ = some (.int .i64 x) := by rw [← hw1, ← hwc, ← hwb, ← sa]; exact (((Whole.new wa 24 #[.int .i64 x, .bool false, .bool false]).alloc _).alloc _).cell 0
  have a1 : w1.cell? ⟨q + 1, 1, none⟩ = some (.bool false) := by rw [← hw1, ← hwc, ← hwb, ← sa]; exact (((Whole.new wa 24 #[.int .i64 x, .bool false, .bool false]).alloc _).alloc _).cell 1
  have a2 : w1.cell? ⟨q + 1, 2, none⟩ = some (.bool false) := by rw [← hw1, ← hwc, ← hwb, ← sa]; exact (((Whole.new wa 24 #[.int .i64 x, .bool false, .bool false]).alloc _).alloc _).cell 2
  have a3 : w1.cell? ⟨q + 1 + 1, 0, none⟩ = some (.int .i64 y) := by rw [← hw1, ← hwc, ← sb]; exact ((Whole.new wb 24 #[.int .i64 y, .bool false, .bool false]).alloc _).cell 0
  have a4 : w1.cell? ⟨q + 1 + 1, 1, none⟩ = some (.bool false) := by rw [← hw1, ← hwc, ← sb]; exact ((Whole.new wb 24 #[.int .i64 y, .bool false, .bool false]).alloc _).cell 1
  have a5 : w1.cell? ⟨q + 1 + 1, 2, none⟩ = some (.bool false) := by rw [← hw1, ← hwc, ← sb]; exact ((Whole.new wb 24 #[.int .i64 y, .bool false, .bool false]).alloc _).cell 2
  have HS1 := hide s1
  clear s1
  go_enter Tryd.func98, Tryd.ntmps98
  go_wp2_with fail
  refine (blend_num x y _ _ HS).mono ?_
  rintro en w3 ⟨rfl, hb⟩
  obtain ⟨w4, hw4⟩ : ∃ z, w3.alloc (.cells #[.int .i64 0, .bool false, .bool false] 24) = z := ⟨_, rfl⟩
  have hZ : Whole w4 w3.heap.size 24 #[.int .i64 0, .bool false, .bool false] := by rw [← hw4]; exact Whole.new w3 _ _
  obtain ⟨z0, z1, z2, j0, j1, j2⟩ := cells3 hZ
  have e0 : w4.setCell ⟨w3.heap.size, 0, none⟩ (.int .i64 0) = w4 := by rw [← hw4]; simp [go_sem]
  have e1 : w4.setCell ⟨w3.heap.size, 1, none⟩ (.bool false) = w4 := by rw [← hw4]; simp [go_sem]
  have e2 : w4.setCell ⟨w3.heap.size, 2, none⟩ (.bool false) = w4 := by rw [← hw4]; simp [go_sem]
  have hb4 : Below w3.heap.size w3 w4 := by rw [← hw4]; exact (Below.refl _ _).alloc (Nat.le_refl _) _
  have hq3 : q + 1 + 1 + 1 < w3.heap.size := (HR.out.below' hb).lt
  replace HI := hide ((HI.out.below' hb).below' hb4); replace HX := hide ((HX.out.below' hb).below' hb4); replace HY := hide ((HY.out.below' hb).below' hb4); replace HR := hide ((HR.out.below' hb).below' hb4)
  replace HB : Hid (Below w.heap.size w w4) := by show Below _ _ _; rw [HQ.out]; exact (HB.out.trans (hb.mono (HB.out.size' HQ.out))).trans (hb4.mono (by omega))
  have HZ := hide hZ
  have HS3 := hide hq3
  clear a0 a1 a2 a3 a4 a5 HS hb hb4 hZ hwa hwb hwc hw1 hw2 sa sb sc HS1 hq3
  go_upto_region 2 with fail
  clear z0 z1 z2 j0 j1 j2 e0 e1 e2 hw4
  replace HB : Hid (Below w.heap.size w w4.drew) := hide HB.out.drew
  replace HI := hide (HI.out.drewN 1); replace HX := hide (HX.out.drewN 1); replace HY := hide (HY.out.drewN 1); replace HR := hide (HR.out.drewN 1); replace HZ := hide (HZ.out.drewN 1)
  go_region_held3 (fun w' => w'.cell? ⟨q, 0, none⟩ = some (.int .i64 5) ∧ w'.cell? ⟨q, 1, none⟩ = some (.int .i64 t) ∧ w'.cell? ⟨q + 1, 0, none⟩ = some (.int .i64 x) ∧ w'.cell? ⟨q + 1 + 1, 0, none⟩ = some (.int .i64 y)) (exact ⟨HI.out.cell 0, HI.out.cell 1, HX.out.cell 0, HY.out.cell 0⟩) (first | (go_at_call 52; refine (lanet_any t _).mono ?_; rintro en wn ⟨rfl, rfl⟩) | (go_at_call 112; refine (HCM.out _ (by exact HT.out.below HB.out)).mono ?_; rintro en wn ⟨rfl, hb⟩; replace HI := hide (HI.out.below' hb); replace HX := hide (HX.out.below' hb); replace HY := hide (HY.out.below' hb); replace HR := hide (HR.out.below' hb); replace HZ := hide (HZ.out.below' hb); replace HB := hide (HB.out.trans (hb.mono HB.out.size)); clear hb))
  all_goals
    obtain ⟨i0, i7⟩ : wn.cell? ⟨q, 0, none⟩ = some (.int .i64 5) ∧ wn.cell? ⟨q, 7, none⟩ = some (.bool nw) := ⟨HI.out.cell 0, HI.out.cell 7⟩
    obtain ⟨z0, z1, z2, -, -, -⟩ := cells3 HZ.out
    obtain ⟨r0, r1, r2, k0, k1, k2⟩ := cells3 HR.out
    cases nw with
    | false =>
      go_wp2_with fail
      refine bodyPost_ret (v := .agg #[.int .i64 sm, .bool false, .bool false]) ?_ rfl ⟨rfl, ((HB.out.setCell (p := ⟨q + 1 + 1 + 1, 0, none⟩) (by rw [HQ.out]; show q ≤ q + 1 + 1 + 1; omega) _).setCell (p := ⟨q + 1 + 1 + 1, 1, none⟩) (by rw [HQ.out]; show q ≤ q + 1 + 1 + 1; omega) _).setCell (p := ⟨q + 1 + 1 + 1, 2, none⟩) (by rw [HQ.out]; show q ≤ q + 1 + 1 + 1; omega) _⟩
      simp [results, Tryd.f98, go_sem, r0, r1, r2]
    | true =>
      cases ov with
      | false =>
        go_wp2_with fail
        refine bodyPost_ret (v := .agg #[.int .i64 sm, .bool false, .bool false]) ?_ rfl ⟨rfl, ((HB.out.setCell (p := ⟨q + 1 + 1 + 1, 0, none⟩) (by rw [HQ.out]; show q ≤ q + 1 + 1 + 1; omega) _).setCell (p := ⟨q + 1 + 1 + 1, 1, none⟩) (by rw [HQ.out]; show q ≤ q + 1 + 1 + 1; omega) _).setCell (p := ⟨q + 1 + 1 + 1, 2, none⟩) (by rw [HQ.out]; show q ≤ q + 1 + 1 + 1; omega) _⟩
        simp [results, Tryd.f98, go_sem, r0, r1, r2]
      | true =>
        go_wp2_with fail
        refine bodyPost_ret (v := .agg #[.int .i64 0, .bool true, .bool false]) ?_ rfl ⟨rfl, ((HB.out.setCell (p := ⟨q + 1 + 1 + 1, 0, none⟩) (by rw [HQ.out]; show q ≤ q + 1 + 1 + 1; omega) _).setCell (p := ⟨q + 1 + 1 + 1, 1, none⟩) (by rw [HQ.out]; show q ≤ q + 1 + 1 + 1; omega) _).setCell (p := ⟨q + 1 + 1 + 1, 2, none⟩) (by rw [HQ.out]; show q ≤ q + 1 + 1 + 1; omega) _⟩
        simp [results, Tryd.f98, go_sem, r0, r1, r2]
end Go.Proofs.YtjeinmccahbpgaaDoor

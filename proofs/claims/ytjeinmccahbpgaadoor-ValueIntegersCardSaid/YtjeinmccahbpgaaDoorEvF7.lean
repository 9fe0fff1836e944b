/-
  Layer 11 (value): result of mul of two numbers.
-/
import Derived.Test.YtjeinmccahbpgaaDoorEvC5
import Derived.Test.YtjeinmccahbpgaaDoorEvE
namespace Go.Proofs.YtjeinmccahbpgaaDoor
open Go.RowKit

set_option maxRecDepth 100000 in
set_option maxHeartbeats 2000000 in
theorem combine_7 (t dst imm sym el x y : Int) (ia : Option Addr) (il ic : Nat) (nw : Bool) (w : World) (hT : Tab w) : Calls Tryd.prog 98 #[.agg #[.int .i64 7, .int .i64 t, .int .i64 dst, .slice ia il ic, .int .i64 imm, .int .i64 sym, .int .i64 el, .bool nw], .agg #[.int .i64 x, .bool false, .bool false], .agg #[.int .i64 y, .bool false, .bool false]] w fun e w' =>
    e = .returned (.agg #[.int .i64 (combN nw (mulO (laneT t) x y) (mulS (laneT t) x y)), .bool (nw && mulO (laneT t) x y), .bool false]) ∧ Below w.heap.size w w' := by
  have HT := hide hT
  have HCM := hide (compute_7 (laneT t) x y)
  obtain ⟨ov, hov⟩ : ∃ b, mulO (laneT t) x y = b := ⟨_, rfl⟩
  obtain ⟨sm, hsm⟩ : ∃ b, mulS (laneT t) x y = b := ⟨_, rfl⟩
  rw [hov, hsm] at HCM ⊢
  clear hT hov hsm
  obtain ⟨q, hq⟩ : ∃ q, w.heap.size = q := ⟨_, rfl⟩
  obtain ⟨wa, hwa⟩ : ∃ z, w.alloc (.cells #[.int .i64 7, .int .i64 t, .int .i64 dst, .slice ia il ic, .int .i64 imm, .int .i64 sym, .int .i64 el, .bool nw] 38) = z := ⟨_, rfl⟩
  obtain ⟨wb, hwb⟩ : ∃ z, wa.alloc (.cells #[.int .i64 x, .bool false, .bool false] 24) = z := ⟨_, rfl⟩
  obtain ⟨wc, hwc⟩ : ∃ z, wb.alloc (.cells #[.int .i64 y, .bool false, .bool false] 24) = z := ⟨_, rfl⟩
  obtain ⟨w1, hw1⟩ : ∃ z, wc.alloc (.cells #[.int .i64 0, .bool false, .bool false] 24) = z := ⟨_, rfl⟩
  obtain ⟨w2, hw2⟩ : ∃ z, w1.alloc (.cells #[.int .i64 x, .bool false, .bool false, .int .i64 y, .bool false, .bool false] 24) = z := ⟨_, rfl⟩
  have sa : wa.heap.size = q + 1 := by rw [← hwa, World.size_alloc, hq]
  have sb : wb.heap.size = q + 1 + 1 := by rw [← hwb, World.size_alloc, sa]
  have sc : wc.heap.size = q + 1 + 1 + 1 := by rw [← hwc, World.size_alloc, sb]
  have s1 : w1.heap.size = q + 1 + 1 + 1 + 1 := by rw [← hw1, World.size_alloc, sc]
  have HI : Hid (Whole w2 q 38 #[.int .i64 7, .int .i64 t, .int .i64 dst, .slice ia il ic, .int .i64 imm, .int .i64 sym, .int .i64 el, .bool nw]) := by show Whole _ _ _ _; rw [← hw2, ← hw1, ← hwc, ← hwb, ← hwa, ← hq]; exact ((((Whole.new w _ _).alloc _).alloc _).alloc _).alloc _
  have HX : Hid (Whole w2 (q + 1) 24 #[.int .i64 x, .bool false, .bool false]) := by show Whole _ _ _ _; rw [← hw2, ← hw1, ← hwc, ← hwb, ← sa]; exact (((Whole.new wa _ _).alloc _).alloc _).alloc _
  have HY : Hid (Whole w2 (q + 1 + 1) 24 #[.int .i64 y, .bool false, .bool false]) := by show Whole _ _ _ _; rw [← hw2, ← hw1, ← hwc, ← sb]; exact ((Whole.new wb _ _).alloc _).alloc _
  have HR : Hid (Whole w2 (q + 1 + 1 + 1) 24 #[.int .i64 0, .bool false, .bool false]) := by show Whole _ _ _ _; rw [← hw2, ← hw1, ← sc]; exact (Whole.new wc _ _).alloc _
  have HS : Whole w2 w1.heap.size 24 #[.int .i64 x, .bool false, .bool false, .int .i64 y, .bool false, .bool false] := by rw [← hw2]; exact Whole.new w1 _ _
  have HB : Hid (Below q w w2) := by
    show Below _ _ _
    have h0 := (Below.refl q w).alloc (Nat.le_of_eq hq.symm) (.cells #[.int .i64 7, .int .i64 t, .int .i64 dst, .slice ia il ic, .int .i64 imm, .int .i64 sym, .int .i64 el, .bool nw] 38)
    rw [hwa] at h0
    have h1 := h0.alloc (by omega) (.cells #[.int .i64 x, .bool false, .bool false] 24)
    rw [hwb] at h1
    have h2 := h1.alloc (by omega) (.cells #[.int .i64 y, .bool false, .bool false] 24)
    rw [hwc] at h2
    have h3 := h2.alloc (by omega) (.cells #[.int .i64 0, .bool false, .bool false] 24)
    rw [hw1] at h3
    have h4 := h3.alloc (by omega) (.cells #[.int .i64 x, .bool false, .bool false, .int .i64 y, .bool false, .bool false] 24)
    rw [hw2] at h4
    exact h4
  have HQ := hide hq
  have a0 : w1.cell? ⟨q + 1, 0, none⟩ = some (.int .i64 x) := by rw [← hw1, ← hwc, ← hwb, ← sa]; exact (((Whole.new wa 24 #[.int .i64 x, .bool false, .bool false]).alloc _).alloc _).cell 0
  have a1 : w1.cell? ⟨q + 1, 1, none⟩ = some (.bool false) := by rw [← hw1, ← hwc, ← hwb, ← sa]; exact (((Whole.new wa 24 #[.int .i64 x, .bool false, .bool false]).alloc _).alloc _).cell 1
  have a2 : w1.cell? ⟨q + 1, 2, none⟩ = some (.bool false) := by rw [← hw1, ← hwc, ← hwb, ← sa]; exact (((Whole.new wa 24 #[.int .i64 x, .bool false, .bool false]).alloc _).alloc _).cell 2
  have a3 : w1.cell? ⟨q + 1 + 1, 0, none⟩ = some (.int .i64 y) := by rw [← hw1, ← hwc, ← sb]; exact ((Whole.new wb 24 #[.int .i64 y, .bool false, .bool false]).alloc _).cell 0
  have a4 : w1.cell? ⟨q + 1 + 1, 1, none⟩ = some (.bool false) := by rw [← hw1, ← hwc, ← sb]; exact ((Whole.new wb 24 #[.int .i64 y, .bool false, .bool false]).alloc _).cell 1
  have a5 : w1.cell? ⟨q + 1 + 1, 2, none⟩ = some (.bool false) := by rw [← hw1, ← hwc, ← sb]; exact ((Whole.new wb 24 #[.int .i64 y, .bool false, .bool false]).alloc _).cell 2
  have HS1 := hide s1
  clear s1
  go_enter Tryd.func98, Tryd.ntmps98
  go_wp2_with fail
  refine (blend_num x y _ _ HS).mono ?_
  rintro en w3 ⟨rfl, hb⟩
  obtain ⟨w4, hw4⟩ : ∃ z, w3.alloc (.cells #[.int .i64 0, .bool false, .bool false] 24) = z := ⟨_, rfl⟩
  have hZ : Whole w4 w3.heap.size 24 #[.int .i64 0, .bool false, .bool false] := by rw [← hw4]; exact Whole.new w3 _ _
  obtain ⟨z0, z1, z2, j0, j1, j2⟩ := cells3 hZ
  have e0 : w4.setCell ⟨w3.heap.size, 0, none⟩ (.int .i64 0) = w4 := by rw [← hw4]; simp [go_sem]
  have e1 : w4.setCell ⟨w3.heap.size, 1, none⟩ (.bool false) = w4 := by rw [← hw4]; simp [go_sem]
  have e2 : w4.setCell ⟨w3.heap.size, 2, none⟩ (.bool false) = w4 := by rw [← hw4]; simp [go_sem]
  have hb4 : Below w3.heap.size w3 w4 := by rw [← hw4]; exact (Below.refl _ _).alloc (Nat.le_refl _) _
  have hq3 : q + 1 + 1 + 1 < w3.heap.size := (HR.out.below' hb).lt
  replace HI := hide ((HI.out.below' hb).below' hb4); replace HX := hide ((HX.out.below' hb).below' hb4); replace HY := hide ((HY.out.below' hb).below' hb4); replace HR := hide ((HR.out.below' hb).below' hb4)
  replace HB : Hid (Below w.heap.size w w4) := by show Below _ _ _; rw [HQ.out]; exact (HB.out.trans (hb.mono (HB.out.size' HQ.out))).trans (hb4.mono (by omega))
  have HZ := hide hZ
  have HS3 := hide hq3
  clear a0 a1 a2 a3 a4 a5 HS hb hb4 hZ hwa hwb hwc hw1 hw2 sa sb sc HS1 hq3
  go_upto_region 2 with fail
  clear z0 z1 z2 j0 j1 j2 e0 e1 e2 hw4
  replace HB : Hid (Below w.heap.size w w4.drew) := hide HB.out.drew
  replace HI := hide (HI.out.drewN 1); replace HX := hide (HX.out.drewN 1); replace HY := hide (HY.out.drewN 1); replace HR := hide (HR.out.drewN 1); replace HZ := hide (HZ.out.drewN 1)
  go_region_held3 (fun w' => w'.cell? ⟨q, 0, none⟩ = some (.int .i64 7) ∧ w'.cell? ⟨q, 1, none⟩ = some (.int .i64 t) ∧ w'.cell? ⟨q + 1, 0, none⟩ = some (.int .i64 x) ∧ w'.cell? ⟨q + 1 + 1, 0, none⟩ = some (.int .i64 y)) (exact ⟨HI.out.cell 0, HI.out.cell 1, HX.out.cell 0, HY.out.cell 0⟩) (first | (go_at_call 52; refine (lanet_any t _).mono ?_; rintro en wn ⟨rfl, rfl⟩) | (go_at_call 112; refine (HCM.out _ (by exact HT.out.below HB.out)).mono ?_; rintro en wn ⟨rfl, hb⟩; replace HI := hide (HI.out.below' hb); replace HX := hide (HX.out.below' hb); replace HY := hide (HY.out.below' hb); replace HR := hide (HR.out.below' hb); replace HZ := hide (HZ.out.below' hb); replace HB := hide (HB.out.trans (hb.mono HB.out.size)); clear hb))
  all_goals
    obtain ⟨i0, i7⟩ : wn.cell? ⟨q, 0, none⟩ = some (.int .i64 7) ∧ wn.cell? ⟨q, 7, none⟩ = some (.bool nw) := ⟨HI.out.cell 0, HI.out.cell 7⟩
    obtain ⟨z0, z1, z2, -, -, -⟩ := cells3 HZ.out
    obtain ⟨r0, r1, r2, k0, k1, k2⟩ := cells3 HR.out
    cases nw with
    | false =>
      go_wp2_with fail
      refine bodyPost_ret (v := .agg #[.int .i64 sm, .bool false, .bool false]) ?_ rfl ⟨rfl, ((HB.out.setCell (p := ⟨q + 1 + 1 + 1, 0, none⟩) (by rw [HQ.out]; show q ≤ q + 1 + 1 + 1; omega) _).setCell (p := ⟨q + 1 + 1 + 1, 1, none⟩) (by rw [HQ.out]; show q ≤ q + 1 + 1 + 1; omega) _).setCell (p := ⟨q + 1 + 1 + 1, 2, none⟩) (by rw [HQ.out]; show q ≤ q + 1 + 1 + 1; omega) _⟩
      simp [results, Tryd.f98, go_sem, r0, r1, r2]
    | true =>
      cases ov with
      | false =>
        go_wp2_with fail
        refine bodyPost_ret (v := .agg #[.int .i64 sm, .bool false, .bool false]) ?_ rfl ⟨rfl, ((HB.out.setCell (p := ⟨q + 1 + 1 + 1, 0, none⟩) (by rw [HQ.out]; show q ≤ q + 1 + 1 + 1; omega) _).setCell (p := ⟨q + 1 + 1 + 1, 1, none⟩) (by rw [HQ.out]; show q ≤ q + 1 + 1 + 1; omega) _).setCell (p := ⟨q + 1 + 1 + 1, 2, none⟩) (by rw [HQ.out]; show q ≤ q + 1 + 1 + 1; omega) _⟩
        simp [results, Tryd.f98, go_sem, r0, r1, r2]
      | true =>
        go_wp2_with fail
        refine bodyPost_ret (v := .agg #[.int .i64 0, .bool true, .bool false]) ?_ rfl ⟨rfl, ((HB.out.setCell (p := ⟨q + 1 + 1 + 1, 0, none⟩) (by rw [HQ.out]; show q ≤ q + 1 + 1 + 1; omega) _).setCell (p := ⟨q + 1 + 1 + 1, 1, none⟩) (by rw [HQ.out]; show q ≤ q + 1 + 1 + 1; omega) _).setCell (p := ⟨q + 1 + 1 + 1, 2, none⟩) (by rw [HQ.out]; show q ≤ q + 1 + 1 + 1; omega) _⟩
        simp [results, Tryd.f98, go_sem, r0, r1, r2]
end Go.Proofs.YtjeinmccahbpgaaDoor
namespace Go.Proofs.YtjeinmccahbpgaaDoor
open Go.RowKit

set_option maxRecDepth 100000 in
set_option maxHeartbeats 4000000 in
theorem res1_7 (t dst imm sym el x y : Int) (ia : Option Addr) (il ic gi ga gs : Nat) (nw : Bool) (w : World) (hT : Tab w) (hI : Whole w gi 38 #[.int .i64 7, .int .i64 t, .int .i64 dst, .slice ia il ic, .int .i64 imm, .int .i64 sym, .int .i64 el, .bool nw]) (hA : ∃ T, Whole w ga T #[.slice (some ⟨gs, 0, none⟩) 2 2]) (hV : ∃ T, Whole w gs T #[.int .i64 t, .int .i64 0, .int .i64 x, .bool false, .bool false, .int .i64 0, .bool false, .bool false, .int .i64 0, .bool false, .bool false, .int .i64 0, .bool false, .bool false, .int .i64 t, .int .i64 0, .int .i64 y, .bool false, .bool false, .int .i64 0, .bool false, .bool false, .int .i64 0, .bool false, .bool false, .int .i64 0, .bool false, .bool false]) :
    Calls Tryd.prog 94 #[.int .i64 0, .pointer (some ⟨gi, 0, none⟩), .pointer (some ⟨ga, 0, none⟩)] w fun e w' =>
    e = .returned (.agg #[.int .i64 (combN nw (mulO (laneT t) x y) (mulS (laneT t) x y)), .bool (nw && mulO (laneT t) x y), .bool false]) ∧ Below w.heap.size w w' := by
  obtain ⟨TA, hA⟩ := hA
  obtain ⟨TV, hV⟩ := hV
  have HT := hide hT
  have HCM := hide (combine_7 t dst imm sym el x y ia il ic nw)
  obtain ⟨rn, hrn⟩ : ∃ b, combN nw (mulO (laneT t) x y) (mulS (laneT t) x y) = b := ⟨_, rfl⟩
  obtain ⟨rp, hrp⟩ : ∃ b, (nw && mulO (laneT t) x y) = b := ⟨_, rfl⟩
  rw [hrn, hrp] at HCM ⊢
  clear hT hrn hrp
  obtain ⟨q, hq⟩ : ∃ q, w.heap.size = q := ⟨_, rfl⟩
  obtain ⟨w1, hw1⟩ : ∃ z, w.alloc (.cells #[.int .i64 0, .bool false, .bool false] 24) = z := ⟨_, rfl⟩
  have HI : Hid (Whole w1 gi 38 #[.int .i64 7, .int .i64 t, .int .i64 dst, .slice ia il ic, .int .i64 imm, .int .i64 sym, .int .i64 el, .bool nw]) := by show Whole _ _ _ _; rw [← hw1]; exact hI.alloc _
  have HA : Hid (Whole w1 ga TA #[.slice (some ⟨gs, 0, none⟩) 2 2]) := by show Whole _ _ _ _; rw [← hw1]; exact hA.alloc _
  have HV : Hid (Whole w1 gs TV #[.int .i64 t, .int .i64 0, .int .i64 x, .bool false, .bool false, .int .i64 0, .bool false, .bool false, .int .i64 0, .bool false, .bool false, .int .i64 0, .bool false, .bool false, .int .i64 t, .int .i64 0, .int .i64 y, .bool false, .bool false, .int .i64 0, .bool false, .bool false, .int .i64 0, .bool false, .bool false, .int .i64 0, .bool false, .bool false]) := by show Whole _ _ _ _; rw [← hw1]; exact hV.alloc _
  have HR : Hid (Whole w1 q 24 #[.int .i64 0, .bool false, .bool false]) := by show Whole _ _ _ _; rw [← hw1, ← hq]; exact Whole.new w _ _
  have HB : Hid (Below w.heap.size w w1) := by show Below _ _ _; rw [← hw1]; exact (Below.refl _ _).alloc (Nat.le_refl _) _
  have HQ := hide hq
  have o0 : w1.cell? ⟨gi, 0, none⟩ = some (.int .i64 7) := HI.out.cell 0
  have NI : Hid (gi ≠ q) := by have := hI.lt; show _ ≠ _; omega
  have NA : Hid (ga ≠ q) := by have := hA.lt; show _ ≠ _; omega
  have NV : Hid (gs ≠ q) := by have := hV.lt; show _ ≠ _; omega
  clear hI hA hV
  go_enter Tryd.func94, Tryd.ntmps94
  go_upto_region 18 with fail
  clear o0 hw1
  replace HB : Hid (Below w.heap.size w w1.drew) := hide HB.out.drew
  replace HI := hide (HI.out.drewN 1); replace HA := hide (HA.out.drewN 1); replace HV := hide (HV.out.drewN 1); replace HR := hide (HR.out.drewN 1)
  refine wp_region_held_drew (S := (fun w' => w'.cell? ⟨gi, 0, none⟩ = some (.int .i64 7) ∧ w'.cell? ⟨gi, 1, none⟩ = some (.int .i64 t) ∧ w'.cell? ⟨gi, 2, none⟩ = some (.int .i64 dst) ∧ w'.cell? ⟨gi, 3, none⟩ = some (.slice ia il ic) ∧ w'.cell? ⟨gi, 4, none⟩ = some (.int .i64 imm) ∧ w'.cell? ⟨gi, 5, none⟩ = some (.int .i64 sym) ∧ w'.cell? ⟨gi, 6, none⟩ = some (.int .i64 el) ∧ w'.cell? ⟨gi, 7, none⟩ = some (.bool nw) ∧ w'.cell? ⟨ga, 0, none⟩ = some (.slice (some ⟨gs, 0, none⟩) 2 2) ∧ w'.cell? ⟨gs, 2, none⟩ = some (.int .i64 x) ∧ w'.cell? ⟨gs, 3, none⟩ = some (.bool false) ∧ w'.cell? ⟨gs, 4, none⟩ = some (.bool false) ∧ w'.cell? ⟨gs, 16, none⟩ = some (.int .i64 y) ∧ w'.cell? ⟨gs, 17, none⟩ = some (.bool false) ∧ w'.cell? ⟨gs, 18, none⟩ = some (.bool false))) (by kernel_rfl) ?_ (fun hHeld => ?_)
  · first | exact ⟨HI.out.cell 0, HI.out.cell 1, HI.out.cell 2, HI.out.cell 3, HI.out.cell 4, HI.out.cell 5, HI.out.cell 6, HI.out.cell 7, HA.out.cell 0, HV.out.cell 2, HV.out.cell 3, HV.out.cell 4, HV.out.cell 16, HV.out.cell 17, HV.out.cell 18⟩ | exact ⟨(far3 rfl HI.out NI.out).cell 0, (far3 rfl HI.out NI.out).cell 1, (far3 rfl HI.out NI.out).cell 2, (far3 rfl HI.out NI.out).cell 3, (far3 rfl HI.out NI.out).cell 4, (far3 rfl HI.out NI.out).cell 5, (far3 rfl HI.out NI.out).cell 6, (far3 rfl HI.out NI.out).cell 7, (far3 rfl HA.out NA.out).cell 0, (far3 rfl HV.out NV.out).cell 2, (far3 rfl HV.out NV.out).cell 3, (far3 rfl HV.out NV.out).cell 4, (far3 rfl HV.out NV.out).cell 16, (far3 rfl HV.out NV.out).cell 17, (far3 rfl HV.out NV.out).cell 18⟩
  refine wpAnyH_take (i := 0) (oi := { dst := some 57, op := Op.load 38 (Operand.tmp 1), type := 38, pos := "eval.go:78", after := #[], guard := none }) (v := ?v1x0) rfl (by kernel_rfl) (by kernel_rfl) (by kernel_rfl) (fun _ _ _ h => h) (Or.inl ⟨by rfl, ?hy1x0⟩) (by assumption) ?rest1x0
  case hy1x0 => (intro w hSw; (try dsimp only at hSw); (first | (go_simp; done) | (go_simp; with_reducible rfl)))
  (try simp only [Act.put, List.setIfInBounds_toArray, List.set_cons_zero, List.set_cons_succ])
  refine wpAnyH_take (i := 1) (oi := { dst := some 58, op := Op.load 39 (Operand.tmp 2), type := 39, pos := "eval.go:78", after := #[], guard := none }) (v := ?v1x1) rfl (by kernel_rfl) (by kernel_rfl) (by kernel_rfl) (fun _ _ _ h => h) (Or.inl ⟨by rfl, ?hy1x1⟩) (by assumption) ?rest1x1
  case hy1x1 => (intro w hSw; (try dsimp only at hSw); (first | (go_simp; done) | (go_simp; with_reducible rfl)))
  (try simp only [Act.put, List.setIfInBounds_toArray, List.set_cons_zero, List.set_cons_succ])
  refine wpAnyH_take (i := 2) (oi := { dst := some 59, op := Op.move (Operand.tmp 0), type := 3, pos := "eval.go:78", after := #[], guard := none }) (v := ?v1x2) rfl (by kernel_rfl) (by kernel_rfl) (by kernel_rfl) (fun _ _ _ h => h) (Or.inl ⟨by rfl, ?hy1x2⟩) (by assumption) ?rest1x2
  case hy1x2 => (intro w hSw; (try dsimp only at hSw); (first | (go_simp; done) | (go_simp; with_reducible rfl)))
  (try simp only [Act.put, List.setIfInBounds_toArray, List.set_cons_zero, List.set_cons_succ])
  refine wpAnyH_take (i := 3) (oi := { dst := some 60, op := Op.indexAddr 39 (Operand.tmp 58) (Operand.const (Value.int IntKind.i64 0)), type := 0, pos := "eval.go:78", after := #[{ on := 1, ground := Ground.data }], guard := none }) (v := ?v1x3) rfl (by kernel_rfl) (by kernel_rfl) (by kernel_rfl) (fun _ _ _ h => h) (Or.inl ⟨by rfl, ?hy1x3⟩) (by assumption) ?rest1x3
  case hy1x3 => (intro w hSw; (try dsimp only at hSw); (first | (go_simp; done) | (go_simp; with_reducible rfl)))
  (try simp only [Act.put, List.setIfInBounds_toArray, List.set_cons_zero, List.set_cons_succ])
  refine wpAnyH_take (i := 4) (oi := { dst := some 61, op := Op.fieldAddr 27 (Operand.tmp 60) 2, type := 0, pos := "eval.go:78", after := #[{ on := 3, ground := Ground.data }], guard := none }) (v := ?v1x4) rfl (by kernel_rfl) (by kernel_rfl) (by kernel_rfl) (fun _ _ _ h => h) (Or.inl ⟨by rfl, ?hy1x4⟩) (by assumption) ?rest1x4
  case hy1x4 => (intro w hSw; (try dsimp only at hSw); (first | (go_simp; done) | (go_simp; with_reducible rfl)))
  (try simp only [Act.put, List.setIfInBounds_toArray, List.set_cons_zero, List.set_cons_succ])
  refine wpAnyH_take (i := 5) (oi := { dst := some 62, op := Op.indexAddr 25 (Operand.tmp 61) (Operand.tmp 59), type := 0, pos := "eval.go:78", after := #[{ on := 4, ground := Ground.data }, { on := 2, ground := Ground.data }], guard := none }) (v := ?v1x5) rfl (by kernel_rfl) (by kernel_rfl) (by kernel_rfl) (fun _ _ _ h => h) (Or.inl ⟨by rfl, ?hy1x5⟩) (by assumption) ?rest1x5
  case hy1x5 => (intro w hSw; (try dsimp only at hSw); (first | (go_simp; done) | (go_simp; with_reducible rfl)))
  (try simp only [Act.put, List.setIfInBounds_toArray, List.set_cons_zero, List.set_cons_succ])
  refine wpAnyH_take (i := 6) (oi := { dst := some 63, op := Op.load 24 (Operand.tmp 62), type := 24, pos := "eval.go:78", after := #[{ on := 5, ground := Ground.data }], guard := none }) (v := ?v1x6) rfl (by kernel_rfl) (by kernel_rfl) (by kernel_rfl) (fun _ _ _ h => h) (Or.inl ⟨by rfl, ?hy1x6⟩) (by assumption) ?rest1x6
  case hy1x6 => (intro w hSw; (try dsimp only at hSw); (first | (go_simp; done) | (go_simp; with_reducible rfl)))
  (try simp only [Act.put, List.setIfInBounds_toArray, List.set_cons_zero, List.set_cons_succ])
  refine wpAnyH_take (i := 7) (oi := { dst := some 64, op := Op.load 39 (Operand.tmp 2), type := 39, pos := "eval.go:78", after := #[], guard := none }) (v := ?v1x7) rfl (by kernel_rfl) (by kernel_rfl) (by kernel_rfl) (fun _ _ _ h => h) (Or.inl ⟨by rfl, ?hy1x7⟩) (by assumption) ?rest1x7
  case hy1x7 => (intro w hSw; (try dsimp only at hSw); (first | (go_simp; done) | (go_simp; with_reducible rfl)))
  (try simp only [Act.put, List.setIfInBounds_toArray, List.set_cons_zero, List.set_cons_succ])
  refine wpAnyH_take (i := 8) (oi := { dst := some 65, op := Op.move (Operand.tmp 0), type := 3, pos := "eval.go:78", after := #[], guard := none }) (v := ?v1x8) rfl (by kernel_rfl) (by kernel_rfl) (by kernel_rfl) (fun _ _ _ h => h) (Or.inl ⟨by rfl, ?hy1x8⟩) (by assumption) ?rest1x8
  case hy1x8 => (intro w hSw; (try dsimp only at hSw); (first | (go_simp; done) | (go_simp; with_reducible rfl)))
  (try simp only [Act.put, List.setIfInBounds_toArray, List.set_cons_zero, List.set_cons_succ])
  refine wpAnyH_take (i := 9) (oi := { dst := some 66, op := Op.indexAddr 39 (Operand.tmp 64) (Operand.const (Value.int IntKind.i64 1)), type := 0, pos := "eval.go:78", after := #[{ on := 7, ground := Ground.data }], guard := none }) (v := ?v1x9) rfl (by kernel_rfl) (by kernel_rfl) (by kernel_rfl) (fun _ _ _ h => h) (Or.inl ⟨by rfl, ?hy1x9⟩) (by assumption) ?rest1x9
  case hy1x9 => (intro w hSw; (try dsimp only at hSw); (first | (go_simp; done) | (go_simp; with_reducible rfl)))
  (try simp only [Act.put, List.setIfInBounds_toArray, List.set_cons_zero, List.set_cons_succ])
  refine wpAnyH_take (i := 10) (oi := { dst := some 67, op := Op.fieldAddr 27 (Operand.tmp 66) 2, type := 0, pos := "eval.go:78", after := #[{ on := 9, ground := Ground.data }], guard := none }) (v := ?v1x10) rfl (by kernel_rfl) (by kernel_rfl) (by kernel_rfl) (fun _ _ _ h => h) (Or.inl ⟨by rfl, ?hy1x10⟩) (by assumption) ?rest1x10
  case hy1x10 => (intro w hSw; (try dsimp only at hSw); (first | (go_simp; done) | (go_simp; with_reducible rfl)))
  (try simp only [Act.put, List.setIfInBounds_toArray, List.set_cons_zero, List.set_cons_succ])
  refine wpAnyH_take (i := 11) (oi := { dst := some 68, op := Op.indexAddr 25 (Operand.tmp 67) (Operand.tmp 65), type := 0, pos := "eval.go:78", after := #[{ on := 10, ground := Ground.data }, { on := 8, ground := Ground.data }], guard := none }) (v := ?v1x11) rfl (by kernel_rfl) (by kernel_rfl) (by kernel_rfl) (fun _ _ _ h => h) (Or.inl ⟨by rfl, ?hy1x11⟩) (by assumption) ?rest1x11
  case hy1x11 => (intro w hSw; (try dsimp only at hSw); (first | (go_simp; done) | (go_simp; with_reducible rfl)))
  (try simp only [Act.put, List.setIfInBounds_toArray, List.set_cons_zero, List.set_cons_succ])
  refine wpAnyH_take (i := 12) (oi := { dst := some 69, op := Op.load 24 (Operand.tmp 68), type := 24, pos := "eval.go:78", after := #[{ on := 11, ground := Ground.data }], guard := none }) (v := ?v1x12) rfl (by kernel_rfl) (by kernel_rfl) (by kernel_rfl) (fun _ _ _ h => h) (Or.inl ⟨by rfl, ?hy1x12⟩) (by assumption) ?rest1x12
  case hy1x12 => (intro w hSw; (try dsimp only at hSw); (first | (go_simp; done) | (go_simp; with_reducible rfl)))
  (try simp only [Act.put, List.setIfInBounds_toArray, List.set_cons_zero, List.set_cons_succ])
  refine wpAnyH_ready (rs := [13]) (by kernel_rfl) (by simp) ?_
  refine AllReadyH.cons (o := { dst := some 70, op := Op.call { callee := Callee.value (Operand.func 98), args := #[Operand.tmp 57, Operand.tmp 63, Operand.tmp 69], argTypes := #[38, 24, 24] }, type := 24, pos := "eval.go:78", after := #[{ on := 0, ground := Ground.data }, { on := 6, ground := Ground.data }, { on := 12, ground := Ground.data }], guard := none }) rfl (fun K hK => ?_) AllReadyH.nil
  go_simp
  go_at_call 98; refine (HCM.out _ (by exact HT.out.below HB.out)).mono ?_; rintro en wn ⟨rfl, hb⟩; replace HI := hide (HI.out.below' hb); replace HA := hide (HA.out.below' hb); replace HV := hide (HV.out.below' hb); replace HR := hide (HR.out.below' hb); replace HB := hide (HB.out.trans (hb.mono HB.out.size)); clear hb; obtain ⟨q0, q1, q2, k0, k1, k2⟩ := cells3 HR.out
  (try go_wp2_with fail)
  refine hK.out _ _ ?_ (fun hHeld => ?_)
  · first | exact ⟨HI.out.cell 0, HI.out.cell 1, HI.out.cell 2, HI.out.cell 3, HI.out.cell 4, HI.out.cell 5, HI.out.cell 6, HI.out.cell 7, HA.out.cell 0, HV.out.cell 2, HV.out.cell 3, HV.out.cell 4, HV.out.cell 16, HV.out.cell 17, HV.out.cell 18⟩ | exact ⟨(far3 rfl HI.out NI.out).cell 0, (far3 rfl HI.out NI.out).cell 1, (far3 rfl HI.out NI.out).cell 2, (far3 rfl HI.out NI.out).cell 3, (far3 rfl HI.out NI.out).cell 4, (far3 rfl HI.out NI.out).cell 5, (far3 rfl HI.out NI.out).cell 6, (far3 rfl HI.out NI.out).cell 7, (far3 rfl HA.out NA.out).cell 0, (far3 rfl HV.out NV.out).cell 2, (far3 rfl HV.out NV.out).cell 3, (far3 rfl HV.out NV.out).cell 4, (far3 rfl HV.out NV.out).cell 16, (far3 rfl HV.out NV.out).cell 17, (far3 rfl HV.out NV.out).cell 18⟩
  clear hK K
  (try simp only [Act.put, List.setIfInBounds_toArray, List.set_cons_zero, List.set_cons_succ])
  refine wpAnyH_ready (rs := [14]) (by kernel_rfl) (by simp) ?_
  refine AllReadyH.cons (o := { dst := none, op := Op.store 24 (Operand.tmp 4) (Operand.tmp 70), type := 0, pos := "eval.go:78", after := #[{ on := 13, ground := Ground.data }, { on := 13, ground := Ground.chain }, { on := 0, ground := Ground.phase }, { on := 1, ground := Ground.phase }, { on := 2, ground := Ground.phase }, { on := 3, ground := Ground.phase }, { on := 4, ground := Ground.phase }, { on := 5, ground := Ground.phase }, { on := 6, ground := Ground.phase }, { on := 7, ground := Ground.phase }, { on := 8, ground := Ground.phase }, { on := 9, ground := Ground.phase }, { on := 10, ground := Ground.phase }, { on := 11, ground := Ground.phase }, { on := 12, ground := Ground.phase }, { on := 13, ground := Ground.phase }], guard := none }) rfl (fun K hK => ?_) AllReadyH.nil
  go_simp
  go_wp2_with fail
  (try go_wp2_with fail)
  refine hK.out _ _ ?_ (fun hHeld => ?_)
  · first | exact ⟨HI.out.cell 0, HI.out.cell 1, HI.out.cell 2, HI.out.cell 3, HI.out.cell 4, HI.out.cell 5, HI.out.cell 6, HI.out.cell 7, HA.out.cell 0, HV.out.cell 2, HV.out.cell 3, HV.out.cell 4, HV.out.cell 16, HV.out.cell 17, HV.out.cell 18⟩ | exact ⟨(far3 rfl HI.out NI.out).cell 0, (far3 rfl HI.out NI.out).cell 1, (far3 rfl HI.out NI.out).cell 2, (far3 rfl HI.out NI.out).cell 3, (far3 rfl HI.out NI.out).cell 4, (far3 rfl HI.out NI.out).cell 5, (far3 rfl HI.out NI.out).cell 6, (far3 rfl HI.out NI.out).cell 7, (far3 rfl HA.out NA.out).cell 0, (far3 rfl HV.out NV.out).cell 2, (far3 rfl HV.out NV.out).cell 3, (far3 rfl HV.out NV.out).cell 4, (far3 rfl HV.out NV.out).cell 16, (far3 rfl HV.out NV.out).cell 17, (far3 rfl HV.out NV.out).cell 18⟩
  clear hK K
  (try simp only [Act.put, List.setIfInBounds_toArray, List.set_cons_zero, List.set_cons_succ])
  refine wpAnyH_done (by kernel_rfl) ?_ _
  all_goals
    go_wp2_with fail
    refine bodyPost_ret (v := .agg #[.int .i64 rn, .bool rp, .bool false]) ?_ rfl ⟨rfl, below3 rfl HB.out (by rw [HQ.out]; exact Nat.le_refl _)⟩
    simp [results, Tryd.f94, go_sem, q0, q1, q2]
end Go.Proofs.YtjeinmccahbpgaaDoor
namespace Go.Proofs.YtjeinmccahbpgaaDoor
open Go.RowKit

set_option maxRecDepth 100000 in
set_option maxHeartbeats 4000000 in
theorem result_7 (t dst imm sym el x y : Int) (ia : Option Addr) (il ic gs : Nat) (nw : Bool) (w : World) (hT : Tab w) (hk : numL t = 1) (hV : ∃ T, Whole w gs T #[.int .i64 t, .int .i64 0, .int .i64 x, .bool false, .bool false, .int .i64 0, .bool false, .bool false, .int .i64 0, .bool false, .bool false, .int .i64 0, .bool false, .bool false, .int .i64 t, .int .i64 0, .int .i64 y, .bool false, .bool false, .int .i64 0, .bool false, .bool false, .int .i64 0, .bool false, .bool false, .int .i64 0, .bool false, .bool false]) :
    Calls Tryd.prog 64 #[.agg #[.int .i64 7, .int .i64 t, .int .i64 dst, .slice ia il ic, .int .i64 imm, .int .i64 sym, .int .i64 el, .bool nw], .slice (some ⟨gs, 0, none⟩) 2 2] w fun e w' =>
    e = .returned (.agg #[.int .i64 t, .int .i64 0, .int .i64 (combN nw (mulO (laneT t) x y) (mulS (laneT t) x y)), .bool (nw && mulO (laneT t) x y), .bool false, .int .i64 0, .bool false, .bool false, .int .i64 0, .bool false, .bool false, .int .i64 0, .bool false, .bool false]) ∧ Below w.heap.size w w' := by
  obtain ⟨TV, hV⟩ := hV
  have HT := hide hT
  have HK := hide hk
  have HCM := hide (fun gi ga => res1_7 t dst imm sym el x y ia il ic gi ga gs nw)
  obtain ⟨rn, hrn⟩ : ∃ b, combN nw (mulO (laneT t) x y) (mulS (laneT t) x y) = b := ⟨_, rfl⟩
  obtain ⟨rp, hrp⟩ : ∃ b, (nw && mulO (laneT t) x y) = b := ⟨_, rfl⟩
  rw [hrn, hrp] at HCM ⊢
  clear hT hrn hrp hk
  obtain ⟨q, hq⟩ : ∃ q, w.heap.size = q := ⟨_, rfl⟩
  obtain ⟨wa, hwa⟩ : ∃ z, w.alloc (.cells #[.int .i64 7, .int .i64 t, .int .i64 dst, .slice ia il ic, .int .i64 imm, .int .i64 sym, .int .i64 el, .bool nw] 38) = z := ⟨_, rfl⟩
  obtain ⟨wb, hwb⟩ : ∃ z, wa.alloc (.cells #[.slice (some ⟨gs, 0, none⟩) 2 2] 39) = z := ⟨_, rfl⟩
  obtain ⟨w1, hw1⟩ : ∃ z, wb.alloc (.cells #[.int .i64 0, .int .i64 0, .int .i64 0, .bool false, .bool false, .int .i64 0, .bool false, .bool false, .int .i64 0, .bool false, .bool false, .int .i64 0, .bool false, .bool false] 27) = z := ⟨_, rfl⟩
  have sa : wa.heap.size = q + 1 := by rw [← hwa, World.size_alloc, hq]
  have sb : wb.heap.size = q + 1 + 1 := by rw [← hwb, World.size_alloc, sa]
  have HI : Hid (Whole w1 q 38 #[.int .i64 7, .int .i64 t, .int .i64 dst, .slice ia il ic, .int .i64 imm, .int .i64 sym, .int .i64 el, .bool nw]) := by show Whole _ _ _ _; rw [← hw1, ← hwb, ← hwa, ← hq]; exact ((Whole.new w _ _).alloc _).alloc _
  have HA : Hid (Whole w1 (q + 1) 39 #[.slice (some ⟨gs, 0, none⟩) 2 2]) := by show Whole _ _ _ _; rw [← hw1, ← hwb, ← sa]; exact (Whole.new wa _ _).alloc _
  have HV : Hid (Whole w1 gs TV #[.int .i64 t, .int .i64 0, .int .i64 x, .bool false, .bool false, .int .i64 0, .bool false, .bool false, .int .i64 0, .bool false, .bool false, .int .i64 0, .bool false, .bool false, .int .i64 t, .int .i64 0, .int .i64 y, .bool false, .bool false, .int .i64 0, .bool false, .bool false, .int .i64 0, .bool false, .bool false, .int .i64 0, .bool false, .bool false]) := by show Whole _ _ _ _; rw [← hw1, ← hwb, ← hwa]; exact ((hV.alloc _).alloc _).alloc _
  have HR : Hid (Whole w1 (q + 1 + 1) 27 #[.int .i64 0, .int .i64 0, .int .i64 0, .bool false, .bool false, .int .i64 0, .bool false, .bool false, .int .i64 0, .bool false, .bool false, .int .i64 0, .bool false, .bool false]) := by show Whole _ _ _ _; rw [← hw1, ← sb]; exact Whole.new wb _ _
  have HB : Hid (Below w.heap.size w w1) := by
    show Below _ _ _
    rw [hq]
    have h0 := (Below.refl q w).alloc (Nat.le_of_eq hq.symm) (.cells #[.int .i64 7, .int .i64 t, .int .i64 dst, .slice ia il ic, .int .i64 imm, .int .i64 sym, .int .i64 el, .bool nw] 38)
    rw [hwa] at h0
    have h1 := h0.alloc (by omega) (.cells #[.slice (some ⟨gs, 0, none⟩) 2 2] 39)
    rw [hwb] at h1
    have h2 := h1.alloc (by omega) (.cells #[.int .i64 0, .int .i64 0, .int .i64 0, .bool false, .bool false, .int .i64 0, .bool false, .bool false, .int .i64 0, .bool false, .bool false, .int .i64 0, .bool false, .bool false] 27)
    rw [hw1] at h2
    exact h2
  have HQ := hide hq
  have i0 := HI.out.cell 0
  have i1 := HI.out.cell 1
  simp only [List.getElem?_toArray, List.getElem?_cons_zero, List.getElem?_cons_succ] at i0 i1
  have E1 := each_res_1 t ⟨rn, rp, false⟩ q (q + 1) w1 HK.out (fun W hW => HCM.out q (q + 1) W (HT.out.below (HB.out.trans (hW.mono HB.out.size))) (HI.out.below' hW) ⟨_, HA.out.below' hW⟩ ⟨_, HV.out.below' hW⟩)
  clear hV
  go_enter Tryd.func64, Tryd.ntmps64
  go_wp2_with fail
  refine E1.mono ?_
  rintro en w2 ⟨rfl, hb⟩
  have hR := HR.out.below' hb
  obtain ⟨c0, c1, c2, c3, c4, c5, c6, c7, c8, c9, c10, c11, c12, c13⟩ := vc_cells (a := zL) (b := zL) (c := zL) (d := zL) (t := 0) (o := 0) hR
  obtain ⟨f0, f1, f2, f3, f4, f5, f6, f7, f8, f9, f10, f11, f12, f13⟩ := vc_free (a := zL) (b := zL) (c := zL) (d := zL) (t := 0) (o := 0) hR
  simp only [zL] at c0 c1 c2 c3 c4 c5 c6 c7 c8 c9 c10 c11 c12 c13
  replace HB : Hid (Below w.heap.size w w2) := HB.out.trans (hb.mono HB.out.size)
  clear hb hR HI HA HV HR E1
  go_wp2_with fail
  refine bodyPost_ret (v := .agg #[.int .i64 t, .int .i64 0, .int .i64 rn, .bool rp, .bool false, .int .i64 0, .bool false, .bool false, .int .i64 0, .bool false, .bool false, .int .i64 0, .bool false, .bool false]) ?_ rfl ⟨rfl, ((((((((((((((HB.out.setCell (p := ⟨q + 1 + 1, 0, none⟩) (by rw [HQ.out]; show q ≤ q + 1 + 1; omega) (.int .i64 t)).setCell (p := ⟨q + 1 + 1, 1, none⟩) (by rw [HQ.out]; show q ≤ q + 1 + 1; omega) (.int .i64 0)).setCell (p := ⟨q + 1 + 1, 2, none⟩) (by rw [HQ.out]; show q ≤ q + 1 + 1; omega) (.int .i64 rn)).setCell (p := ⟨q + 1 + 1, 3, none⟩) (by rw [HQ.out]; show q ≤ q + 1 + 1; omega) (.bool rp)).setCell (p := ⟨q + 1 + 1, 4, none⟩) (by rw [HQ.out]; show q ≤ q + 1 + 1; omega) (.bool false)).setCell (p := ⟨q + 1 + 1, 5, none⟩) (by rw [HQ.out]; show q ≤ q + 1 + 1; omega) (.int .i64 0)).setCell (p := ⟨q + 1 + 1, 6, none⟩) (by rw [HQ.out]; show q ≤ q + 1 + 1; omega) (.bool false)).setCell (p := ⟨q + 1 + 1, 7, none⟩) (by rw [HQ.out]; show q ≤ q + 1 + 1; omega) (.bool false)).setCell (p := ⟨q + 1 + 1, 8, none⟩) (by rw [HQ.out]; show q ≤ q + 1 + 1; omega) (.int .i64 0)).setCell (p := ⟨q + 1 + 1, 9, none⟩) (by rw [HQ.out]; show q ≤ q + 1 + 1; omega) (.bool false)).setCell (p := ⟨q + 1 + 1, 10, none⟩) (by rw [HQ.out]; show q ≤ q + 1 + 1; omega) (.bool false)).setCell (p := ⟨q + 1 + 1, 11, none⟩) (by rw [HQ.out]; show q ≤ q + 1 + 1; omega) (.int .i64 0)).setCell (p := ⟨q + 1 + 1, 12, none⟩) (by rw [HQ.out]; show q ≤ q + 1 + 1; omega) (.bool false)).setCell (p := ⟨q + 1 + 1, 13, none⟩) (by rw [HQ.out]; show q ≤ q + 1 + 1; omega) (.bool false))⟩
  simp [results, Tryd.f64, go_sem, c0, c1, c2, c3, c4, c5, c6, c7, c8, c9, c10, c11, c12, c13]
end Go.Proofs.YtjeinmccahbpgaaDoor

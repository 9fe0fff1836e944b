/-
  Layer 11 (value): Eval, opcode 6, of two operands of one integer type.
-/
import Derived.Test.YtjeinmccahbpgaaDoorEvG
import Derived.Test.YtjeinmccahbpgaaDoorVH
import Derived.Test.YtjeinmccahbpgaaDoorEvF6
namespace Go.Proofs.YtjeinmccahbpgaaDoor
open Go.RowKit

set_option maxRecDepth 100000 in
set_option maxHeartbeats 4000000 in
theorem applicable_6 (t dst imm sym el : Int) (a b : LaneD) (ia : Option Addr) (il ic gs : Nat) (nw : Bool) (w : World) (hT : Tab w) (ht : (decide (t = 2) || decide (t = 3) || decide (t = 4)) = true) (ha : validB t 0 a zL zL zL = true) (hb : validB t 0 b zL zL zL = true) (hV : ∃ T, Whole w gs T #[.int .i64 t, .int .i64 0, .int .i64 a.n, .bool a.p, .bool a.u, .int .i64 0, .bool false, .bool false, .int .i64 0, .bool false, .bool false, .int .i64 0, .bool false, .bool false, .int .i64 t, .int .i64 0, .int .i64 b.n, .bool b.p, .bool b.u, .int .i64 0, .bool false, .bool false, .int .i64 0, .bool false, .bool false, .int .i64 0, .bool false, .bool false]) :
    Calls Tryd.prog 62 #[.agg #[.int .i64 6, .int .i64 t, .int .i64 dst, .slice ia il ic, .int .i64 imm, .int .i64 sym, .int .i64 el, .bool nw], .slice (some ⟨gs, 0, none⟩) 2 2] w fun e w' => e = .returned (.bool true) ∧ Below w.heap.size w w' := by
  obtain ⟨TV, hV⟩ := hV
  have HT := hide hT
  have Va : ∀ W, Tab W → Calls Tryd.prog 22 #[.agg #[.int .i64 t, .int .i64 0, .int .i64 a.n, .bool a.p, .bool a.u, .int .i64 0, .bool false, .bool false, .int .i64 0, .bool false, .bool false, .int .i64 0, .bool false, .bool false]] W fun e w' => e = .returned (.bool true) ∧ Below W.heap.size W w' := fun W h => by
    have := valid_any t 0 a zL zL zL W h
    rw [ha] at this; exact this
  have Vb : ∀ W, Tab W → Calls Tryd.prog 22 #[.agg #[.int .i64 t, .int .i64 0, .int .i64 b.n, .bool b.p, .bool b.u, .int .i64 0, .bool false, .bool false, .int .i64 0, .bool false, .bool false, .int .i64 0, .bool false, .bool false]] W fun e w' => e = .returned (.bool true) ∧ Below W.heap.size W w' := fun W h => by
    have := valid_any t 0 b zL zL zL W h
    rw [hb] at this; exact this
  have HW := hide (fun W => isword_any t W)
  rw [ht] at HW
  clear ha hb ht hT
  obtain ⟨q, hq⟩ : ∃ q, w.heap.size = q := ⟨_, rfl⟩
  obtain ⟨w0, hw0⟩ : ∃ z, w.alloc (.cells #[.int .i64 6, .int .i64 t, .int .i64 dst, .slice ia il ic, .int .i64 imm, .int .i64 sym, .int .i64 el, .bool nw] 38) = z := ⟨_, rfl⟩
  have HI : Hid (Whole w0 q 38 #[.int .i64 6, .int .i64 t, .int .i64 dst, .slice ia il ic, .int .i64 imm, .int .i64 sym, .int .i64 el, .bool nw]) := by show Whole _ _ _ _; rw [← hw0, ← hq]; exact Whole.new w _ _
  have HV : Hid (Whole w0 gs TV #[.int .i64 t, .int .i64 0, .int .i64 a.n, .bool a.p, .bool a.u, .int .i64 0, .bool false, .bool false, .int .i64 0, .bool false, .bool false, .int .i64 0, .bool false, .bool false, .int .i64 t, .int .i64 0, .int .i64 b.n, .bool b.p, .bool b.u, .int .i64 0, .bool false, .bool false, .int .i64 0, .bool false, .bool false, .int .i64 0, .bool false, .bool false]) := by show Whole _ _ _ _; rw [← hw0]; exact hV.alloc _
  have HB : Hid (Below w.heap.size w w0) := by show Below _ _ _; rw [← hw0]; exact (Below.refl _ _).alloc (Nat.le_refl _) _
  clear hV
  go_enter Tryd.func62, Tryd.ntmps62
  go_wp2_with fail
  refine wp_loop_rounds 3 ?_
  clear hw0 hq
  have v0 := HV.out.cell 0; have v1 := HV.out.cell 1; have v2 := HV.out.cell 2; have v3 := HV.out.cell 3; have v4 := HV.out.cell 4; have v5 := HV.out.cell 5; have v6 := HV.out.cell 6; have v7 := HV.out.cell 7; have v8 := HV.out.cell 8; have v9 := HV.out.cell 9; have v10 := HV.out.cell 10; have v11 := HV.out.cell 11; have v12 := HV.out.cell 12; have v13 := HV.out.cell 13
  simp only [List.getElem?_toArray, List.getElem?_cons_zero, List.getElem?_cons_succ] at v0 v1 v2 v3 v4 v5 v6 v7 v8 v9 v10 v11 v12 v13
  rw [rounds_succ]
  go_wp2_with fail
  refine (Va _ (by exact (HT.out.below HB.out).below ((Below.refl _ _).alloc (Nat.le_refl _) _))).mono ?_
  rintro en wa ⟨rfl, hb⟩
  clear v0 v1 v2 v3 v4 v5 v6 v7 v8 v9 v10 v11 v12 v13
  have hb2 := Below.all ((Below.refl _ _).alloc (Nat.le_refl _) _) hb
  replace HB : Hid (Below w.heap.size w wa) := HB.out.trans (hb2.mono HB.out.size)
  replace HV := hide (HV.out.below' hb2)
  replace HI := hide (HI.out.below' hb2)
  clear hb hb2
  go_wp2_with fail
  have v0 := HV.out.cell 14; have v1 := HV.out.cell 15; have v2 := HV.out.cell 16; have v3 := HV.out.cell 17; have v4 := HV.out.cell 18; have v5 := HV.out.cell 19; have v6 := HV.out.cell 20; have v7 := HV.out.cell 21; have v8 := HV.out.cell 22; have v9 := HV.out.cell 23; have v10 := HV.out.cell 24; have v11 := HV.out.cell 25; have v12 := HV.out.cell 26; have v13 := HV.out.cell 27
  simp only [List.getElem?_toArray, List.getElem?_cons_zero, List.getElem?_cons_succ] at v0 v1 v2 v3 v4 v5 v6 v7 v8 v9 v10 v11 v12 v13
  rw [rounds_succ]
  go_wp2_with fail
  refine (Vb _ (by exact (HT.out.below HB.out).below ((Below.refl _ _).alloc (Nat.le_refl _) _))).mono ?_
  rintro en wb ⟨rfl, hb⟩
  clear v0 v1 v2 v3 v4 v5 v6 v7 v8 v9 v10 v11 v12 v13
  have hb2 := Below.all ((Below.refl _ _).alloc (Nat.le_refl _) _) hb
  replace HB : Hid (Below w.heap.size w wb) := HB.out.trans (hb2.mono HB.out.size)
  replace HV := hide (HV.out.below' hb2)
  replace HI := hide (HI.out.below' hb2)
  clear hb hb2
  go_wp2_with fail
  rw [rounds_succ]
  have i0 := HI.out.cell 0
  have i1 := HI.out.cell 1
  simp only [List.getElem?_toArray, List.getElem?_cons_zero, List.getElem?_cons_succ] at i0 i1
  have HG : Whole (wb.alloc (.cells #[.int .i64 t, .int .i64 t] 22)) wb.heap.size 22 #[.int .i64 t, .int .i64 t] := Whole.new wb _ _
  have HVV := HV.out.alloc (.cells #[.int .i64 t, .int .i64 t] 22)
  go_wp2_with fail
  refine (typed_two t a b gs _ _ ⟨_, HVV⟩ ⟨_, HG⟩).mono ?_
  rintro en wd ⟨rfl, hb⟩
  replace HB : Hid (Below w.heap.size w wd) := HB.out.trans ((Below.all ((Below.refl _ _).alloc (Nat.le_refl _) _) hb).mono HB.out.size)
  clear HG HVV hb
  go_wp2_with (go_at_call 88; refine (HW.out _).mono ?_; rintro en we ⟨rfl, rfl⟩)
  go_ret
  exact ⟨rfl, HB.out⟩
end Go.Proofs.YtjeinmccahbpgaaDoor
namespace Go.Proofs.YtjeinmccahbpgaaDoor
open Go.RowKit

set_option maxRecDepth 100000 in
set_option maxHeartbeats 2000000 in
theorem fault_6 (t dst imm sym el x y : Int) (ia : Option Addr) (il ic gs : Nat) (nw : Bool) (w : World) (hV : ∃ T, Whole w gs T #[.int .i64 t, .int .i64 0, .int .i64 x, .bool false, .bool false, .int .i64 0, .bool false, .bool false, .int .i64 0, .bool false, .bool false, .int .i64 0, .bool false, .bool false, .int .i64 t, .int .i64 0, .int .i64 y, .bool false, .bool false, .int .i64 0, .bool false, .bool false, .int .i64 0, .bool false, .bool false, .int .i64 0, .bool false, .bool false]) :
    Calls Tryd.prog 63 #[.agg #[.int .i64 6, .int .i64 t, .int .i64 dst, .slice ia il ic, .int .i64 imm, .int .i64 sym, .int .i64 el, .bool nw], .slice (some ⟨gs, 0, none⟩) 2 2] w fun e w' => e = .returned (.tuple #[.int .i64 0, .int .i64 0]) ∧ Below w.heap.size w w' := by
  obtain ⟨TV, hV⟩ := hV
  obtain ⟨q, hq⟩ : ∃ q, w.heap.size = q := ⟨_, rfl⟩
  obtain ⟨w0, hw0⟩ : ∃ z, w.alloc (.cells #[.int .i64 6, .int .i64 t, .int .i64 dst, .slice ia il ic, .int .i64 imm, .int .i64 sym, .int .i64 el, .bool nw] 38) = z := ⟨_, rfl⟩
  have HI : Hid (Whole w0 q 38 #[.int .i64 6, .int .i64 t, .int .i64 dst, .slice ia il ic, .int .i64 imm, .int .i64 sym, .int .i64 el, .bool nw]) := by show Whole _ _ _ _; rw [← hw0, ← hq]; exact Whole.new w _ _
  have HV : Hid (Whole w0 gs TV #[.int .i64 t, .int .i64 0, .int .i64 x, .bool false, .bool false, .int .i64 0, .bool false, .bool false, .int .i64 0, .bool false, .bool false, .int .i64 0, .bool false, .bool false, .int .i64 t, .int .i64 0, .int .i64 y, .bool false, .bool false, .int .i64 0, .bool false, .bool false, .int .i64 0, .bool false, .bool false, .int .i64 0, .bool false, .bool false]) := by show Whole _ _ _ _; rw [← hw0]; exact hV.alloc _
  have HB : Hid (Below w.heap.size w w0) := by show Below _ _ _; rw [← hw0]; exact (Below.refl _ _).alloc (Nat.le_refl _) _
  have i0 := HI.out.cell 0
  have v16 := HV.out.cell 16; have v17 := HV.out.cell 17; have v18 := HV.out.cell 18
  simp only [List.getElem?_toArray, List.getElem?_cons_zero, List.getElem?_cons_succ] at i0 v16 v17 v18
  clear hV
  go_enter Tryd.func63, Tryd.ntmps63
  go_wp2_with fail
  go_ret2
  exact ⟨rfl, by first | exact HB.out | exact HB.out.alloc HB.out.size _⟩

set_option maxRecDepth 100000 in
set_option maxHeartbeats 4000000 in
theorem eval_6 (t dst imm sym el x y : Int) (ia : Option Addr) (il ic gs : Nat) (nw : Bool) (w : World) (hT : Tab w) (ht : (decide (t = 2) || decide (t = 3) || decide (t = 4)) = true) (ha : validB t 0 ⟨x, false, false⟩ zL zL zL = true) (hb : validB t 0 ⟨y, false, false⟩ zL zL zL = true) (hV : ∃ T, Whole w gs T #[.int .i64 t, .int .i64 0, .int .i64 x, .bool false, .bool false, .int .i64 0, .bool false, .bool false, .int .i64 0, .bool false, .bool false, .int .i64 0, .bool false, .bool false, .int .i64 t, .int .i64 0, .int .i64 y, .bool false, .bool false, .int .i64 0, .bool false, .bool false, .int .i64 0, .bool false, .bool false, .int .i64 0, .bool false, .bool false]) :
    Calls Tryd.prog 28 #[.agg #[.int .i64 6, .int .i64 t, .int .i64 dst, .slice ia il ic, .int .i64 imm, .int .i64 sym, .int .i64 el, .bool nw], .slice (some ⟨gs, 0, none⟩) 2 2] w fun e w' => e = .returned (.tuple #[.agg #[.int .i64 t, .int .i64 0, .int .i64 (combN nw (subO (laneT t) x y) (subS (laneT t) x y)), .bool (nw && subO (laneT t) x y), .bool false, .int .i64 0, .bool false, .bool false, .int .i64 0, .bool false, .bool false, .int .i64 0, .bool false, .bool false], .int .i64 0, .int .i64 0]) ∧ Below w.heap.size w w' := by
  obtain ⟨TV, hV⟩ := hV
  have HT := hide hT
  have HAP := hide (fun W hT hV => applicable_6 t dst imm sym el ⟨x, false, false⟩ ⟨y, false, false⟩ ia il ic gs nw W hT ht ha hb hV)
  have HF := hide (fun W hV => fault_6 t dst imm sym el x y ia il ic gs nw W hV)
  have hk : numL t = 1 := by
    simp only [Bool.or_eq_true, decide_eq_true_eq, or_assoc] at ht
    rcases ht with rfl | rfl | rfl <;> rfl
  have HC := hide (fun W hT hV => result_6 t dst imm sym el x y ia il ic gs nw W hT hk hV)
  clear hk
  obtain ⟨rn, hrn⟩ : ∃ b, combN nw (subO (laneT t) x y) (subS (laneT t) x y) = b := ⟨_, rfl⟩
  obtain ⟨rp, hrp⟩ : ∃ b, (nw && subO (laneT t) x y) = b := ⟨_, rfl⟩
  rw [hrn, hrp] at HC ⊢
  clear hrn hrp
  clear hT ht ha hb
  obtain ⟨q, hq⟩ : ∃ q, w.heap.size = q := ⟨_, rfl⟩
  obtain ⟨wa, hwa⟩ : ∃ z, w.alloc (.cells #[.int .i64 6, .int .i64 t, .int .i64 dst, .slice ia il ic, .int .i64 imm, .int .i64 sym, .int .i64 el, .bool nw] 38) = z := ⟨_, rfl⟩
  obtain ⟨w1, hw1⟩ : ∃ z, wa.alloc (.cells #[.int .i64 0, .int .i64 0, .int .i64 0, .bool false, .bool false, .int .i64 0, .bool false, .bool false, .int .i64 0, .bool false, .bool false, .int .i64 0, .bool false, .bool false] 27) = z := ⟨_, rfl⟩
  have sa : wa.heap.size = q + 1 := by rw [← hwa, World.size_alloc, hq]
  have HI : Hid (Whole w1 q 38 #[.int .i64 6, .int .i64 t, .int .i64 dst, .slice ia il ic, .int .i64 imm, .int .i64 sym, .int .i64 el, .bool nw]) := by show Whole _ _ _ _; rw [← hw1, ← hwa, ← hq]; exact (Whole.new w _ _).alloc _
  have HV : Hid (Whole w1 gs TV #[.int .i64 t, .int .i64 0, .int .i64 x, .bool false, .bool false, .int .i64 0, .bool false, .bool false, .int .i64 0, .bool false, .bool false, .int .i64 0, .bool false, .bool false, .int .i64 t, .int .i64 0, .int .i64 y, .bool false, .bool false, .int .i64 0, .bool false, .bool false, .int .i64 0, .bool false, .bool false, .int .i64 0, .bool false, .bool false]) := by show Whole _ _ _ _; rw [← hw1, ← hwa]; exact (hV.alloc _).alloc _
  have HR : Hid (Whole w1 (q + 1) 27 #[.int .i64 0, .int .i64 0, .int .i64 0, .bool false, .bool false, .int .i64 0, .bool false, .bool false, .int .i64 0, .bool false, .bool false, .int .i64 0, .bool false, .bool false]) := by show Whole _ _ _ _; rw [← hw1, ← sa]; exact Whole.new wa _ _
  have HB : Hid (Below w.heap.size w w1) := by
    show Below _ _ _
    rw [hq]
    have h0 := (Below.refl q w).alloc (Nat.le_of_eq hq.symm) (.cells #[.int .i64 6, .int .i64 t, .int .i64 dst, .slice ia il ic, .int .i64 imm, .int .i64 sym, .int .i64 el, .bool nw] 38)
    rw [hwa] at h0
    have h1 := h0.alloc (by omega) (.cells #[.int .i64 0, .int .i64 0, .int .i64 0, .bool false, .bool false, .int .i64 0, .bool false, .bool false, .int .i64 0, .bool false, .bool false, .int .i64 0, .bool false, .bool false] 27)
    rw [hw1] at h1
    exact h1
  have HQ := hide hq
  have hi := HI.out
  have i0 := hi.cell 0; have i1 := hi.cell 1; have i2 := hi.cell 2; have i3 := hi.cell 3; have i4 := hi.cell 4; have i5 := hi.cell 5; have i6 := hi.cell 6; have i7 := hi.cell 7
  simp only [List.getElem?_toArray, List.getElem?_cons_zero, List.getElem?_cons_succ] at i0 i1 i2 i3 i4 i5 i6 i7
  clear hV hi
  go_enter Tryd.func28, Tryd.ntmps28
  go_wp2_with fail
  refine (HAP.out _ (by exact HT.out.below HB.out) ⟨_, HV.out⟩).mono ?_
  rintro en w2 ⟨rfl, hb⟩
  clear i0 i1 i2 i3 i4 i5 i6 i7
  replace HB : Hid (Below w.heap.size w w2) := HB.out.trans (hb.mono HB.out.size)
  replace HR := hide (HR.out.below' hb); replace HV := hide (HV.out.below' hb); replace HI := hide (HI.out.below' hb)
  have hi := HI.out
  have i0 := hi.cell 0; have i1 := hi.cell 1; have i2 := hi.cell 2; have i3 := hi.cell 3; have i4 := hi.cell 4; have i5 := hi.cell 5; have i6 := hi.cell 6; have i7 := hi.cell 7
  simp only [List.getElem?_toArray, List.getElem?_cons_zero, List.getElem?_cons_succ] at i0 i1 i2 i3 i4 i5 i6 i7
  clear hb hi
  go_wp2_with fail
  refine (HF.out _ ⟨_, HV.out⟩).mono ?_
  rintro en w3 ⟨rfl, hb⟩
  clear i0 i1 i2 i3 i4 i5 i6 i7
  replace HB : Hid (Below w.heap.size w w3) := HB.out.trans (hb.mono HB.out.size)
  replace HR := hide (HR.out.below' hb); replace HV := hide (HV.out.below' hb); replace HI := hide (HI.out.below' hb)
  have hi := HI.out
  have i0 := hi.cell 0; have i1 := hi.cell 1; have i2 := hi.cell 2; have i3 := hi.cell 3; have i4 := hi.cell 4; have i5 := hi.cell 5; have i6 := hi.cell 6; have i7 := hi.cell 7
  simp only [List.getElem?_toArray, List.getElem?_cons_zero, List.getElem?_cons_succ] at i0 i1 i2 i3 i4 i5 i6 i7
  clear hb hi
  go_wp2_with fail
  refine (HC.out _ (by exact HT.out.below HB.out) ⟨_, HV.out⟩).mono ?_
  rintro en w4 ⟨rfl, hb⟩
  replace HB : Hid (Below w.heap.size w w4) := HB.out.trans (hb.mono HB.out.size)
  replace HR := hide (HR.out.below' hb)
  clear hb i0
  obtain ⟨c0, c1, c2, c3, c4, c5, c6, c7, c8, c9, c10, c11, c12, c13⟩ := vc_cells (a := zL) (b := zL) (c := zL) (d := zL) (t := 0) (o := 0) HR.out
  obtain ⟨f0, f1, f2, f3, f4, f5, f6, f7, f8, f9, f10, f11, f12, f13⟩ := vc_free (a := zL) (b := zL) (c := zL) (d := zL) (t := 0) (o := 0) HR.out
  simp only [zL] at c0 c1 c2 c3 c4 c5 c6 c7 c8 c9 c10 c11 c12 c13
  go_wp2_with fail
  refine bodyPost_ret (v := .tuple #[.agg #[.int .i64 t, .int .i64 0, .int .i64 rn, .bool rp, .bool false, .int .i64 0, .bool false, .bool false, .int .i64 0, .bool false, .bool false, .int .i64 0, .bool false, .bool false], .int .i64 0, .int .i64 0]) ?_ rfl ⟨rfl, ((((((((((((((HB.out.setCell (p := ⟨q + 1, 0, none⟩) (by rw [HQ.out]; show q ≤ q + 1; omega) (.int .i64 t)).setCell (p := ⟨q + 1, 1, none⟩) (by rw [HQ.out]; show q ≤ q + 1; omega) (.int .i64 0)).setCell (p := ⟨q + 1, 2, none⟩) (by rw [HQ.out]; show q ≤ q + 1; omega) (.int .i64 rn)).setCell (p := ⟨q + 1, 3, none⟩) (by rw [HQ.out]; show q ≤ q + 1; omega) (.bool rp)).setCell (p := ⟨q + 1, 4, none⟩) (by rw [HQ.out]; show q ≤ q + 1; omega) (.bool false)).setCell (p := ⟨q + 1, 5, none⟩) (by rw [HQ.out]; show q ≤ q + 1; omega) (.int .i64 0)).setCell (p := ⟨q + 1, 6, none⟩) (by rw [HQ.out]; show q ≤ q + 1; omega) (.bool false)).setCell (p := ⟨q + 1, 7, none⟩) (by rw [HQ.out]; show q ≤ q + 1; omega) (.bool false)).setCell (p := ⟨q + 1, 8, none⟩) (by rw [HQ.out]; show q ≤ q + 1; omega) (.int .i64 0)).setCell (p := ⟨q + 1, 9, none⟩) (by rw [HQ.out]; show q ≤ q + 1; omega) (.bool false)).setCell (p := ⟨q + 1, 10, none⟩) (by rw [HQ.out]; show q ≤ q + 1; omega) (.bool false)).setCell (p := ⟨q + 1, 11, none⟩) (by rw [HQ.out]; show q ≤ q + 1; omega) (.int .i64 0)).setCell (p := ⟨q + 1, 12, none⟩) (by rw [HQ.out]; show q ≤ q + 1; omega) (.bool false)).setCell (p := ⟨q + 1, 13, none⟩) (by rw [HQ.out]; show q ≤ q + 1; omega) (.bool false))⟩
  simp [results, Tryd.f28, go_sem, c0, c1, c2, c3, c4, c5, c6, c7, c8, c9, c10, c11, c12, c13]
end Go.Proofs.YtjeinmccahbpgaaDoor

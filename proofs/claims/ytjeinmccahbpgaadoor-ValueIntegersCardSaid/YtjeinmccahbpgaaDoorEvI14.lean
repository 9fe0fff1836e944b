/-
  Layer 11 (value): Eval, opcode 14, of two operands of one integer type.
-/
import Derived.Test.YtjeinmccahbpgaaDoorEvH14
namespace Go.Proofs.YtjeinmccahbpgaaDoor
open Go.RowKit

set_option maxRecDepth 100000 in
set_option maxHeartbeats 2000000 in
theorem fault_14 (t dst imm sym el x _y : Int) (ia : Option Addr) (il ic gs : Nat) (nw : Bool) (w : World) (hV : ∃ T, Whole w gs T #[.int .i64 t, .int .i64 0, .int .i64 x, .bool false, .bool false, .int .i64 0, .bool false, .bool false, .int .i64 0, .bool false, .bool false, .int .i64 0, .bool false, .bool false, .int .i64 t, .int .i64 0, .int .i64 0, .bool true, .bool false, .int .i64 0, .bool false, .bool false, .int .i64 0, .bool false, .bool false, .int .i64 0, .bool false, .bool false]) :
    Calls Tryd.prog 63 #[.agg #[.int .i64 14, .int .i64 t, .int .i64 dst, .slice ia il ic, .int .i64 imm, .int .i64 sym, .int .i64 el, .bool nw], .slice (some ⟨gs, 0, none⟩) 2 2] w fun e w' => e = .returned (.tuple #[.int .i64 0, .int .i64 1]) ∧ Below w.heap.size w w' := by
  obtain ⟨TV, hV⟩ := hV
  obtain ⟨q, hq⟩ : ∃ q, w.heap.size = q := ⟨_, rfl⟩
  obtain ⟨w0, hw0⟩ : ∃ z, w.alloc (.cells #[.int .i64 14, .int .i64 t, .int .i64 dst, .slice ia il ic, .int .i64 imm, .int .i64 sym, .int .i64 el, .bool nw] 38) = z := ⟨_, rfl⟩
  have HI : Hid (Whole w0 q 38 #[.int .i64 14, .int .i64 t, .int .i64 dst, .slice ia il ic, .int .i64 imm, .int .i64 sym, .int .i64 el, .bool nw]) := by show Whole _ _ _ _; rw [← hw0, ← hq]; exact Whole.new w _ _
  have HV : Hid (Whole w0 gs TV #[.int .i64 t, .int .i64 0, .int .i64 x, .bool false, .bool false, .int .i64 0, .bool false, .bool false, .int .i64 0, .bool false, .bool false, .int .i64 0, .bool false, .bool false, .int .i64 t, .int .i64 0, .int .i64 0, .bool true, .bool false, .int .i64 0, .bool false, .bool false, .int .i64 0, .bool false, .bool false, .int .i64 0, .bool false, .bool false]) := by show Whole _ _ _ _; rw [← hw0]; exact hV.alloc _
  have HB : Hid (Below w.heap.size w w0) := by show Below _ _ _; rw [← hw0]; exact (Below.refl _ _).alloc (Nat.le_refl _) _
  have i0 := HI.out.cell 0
  have v16 := HV.out.cell 16; have v17 := HV.out.cell 17; have v18 := HV.out.cell 18
  simp only [List.getElem?_toArray, List.getElem?_cons_zero, List.getElem?_cons_succ] at i0 v16 v17 v18
  clear hV
  go_enter Tryd.func63, Tryd.ntmps63
  go_wp2_with fail
  go_ret2
  exact ⟨rfl, by first | exact HB.out | exact HB.out.alloc HB.out.size _⟩

set_option maxRecDepth 100000 in
set_option maxHeartbeats 4000000 in
theorem eval_14 (t dst imm sym el x y : Int) (ia : Option Addr) (il ic gs : Nat) (nw : Bool) (w : World) (hT : Tab w) (ht : (decide (t = 2) || decide (t = 3) || decide (t = 4)) = true) (ha : validB t 0 ⟨x, false, false⟩ zL zL zL = true) (hb : validB t 0 ⟨0, true, false⟩ zL zL zL = true) (hV : ∃ T, Whole w gs T #[.int .i64 t, .int .i64 0, .int .i64 x, .bool false, .bool false, .int .i64 0, .bool false, .bool false, .int .i64 0, .bool false, .bool false, .int .i64 0, .bool false, .bool false, .int .i64 t, .int .i64 0, .int .i64 0, .bool true, .bool false, .int .i64 0, .bool false, .bool false, .int .i64 0, .bool false, .bool false, .int .i64 0, .bool false, .bool false]) :
    Calls Tryd.prog 28 #[.agg #[.int .i64 14, .int .i64 t, .int .i64 dst, .slice ia il ic, .int .i64 imm, .int .i64 sym, .int .i64 el, .bool nw], .slice (some ⟨gs, 0, none⟩) 2 2] w fun e w' => e = .returned (.tuple #[.agg #[.int .i64 0, .int .i64 0, .int .i64 0, .bool false, .bool false, .int .i64 0, .bool false, .bool false, .int .i64 0, .bool false, .bool false, .int .i64 0, .bool false, .bool false], .int .i64 0, .int .i64 1]) ∧ Below w.heap.size w w' := by
  obtain ⟨TV, hV⟩ := hV
  have HT := hide hT
  have HAP := hide (fun W hT hV => applicable_14 t dst imm sym el ⟨x, false, false⟩ ⟨0, true, false⟩ ia il ic gs nw W hT ht ha hb hV)
  have HF := hide (fun W hV => fault_14 t dst imm sym el x y ia il ic gs nw W hV)
  clear hT ht ha hb
  obtain ⟨q, hq⟩ : ∃ q, w.heap.size = q := ⟨_, rfl⟩
  obtain ⟨wa, hwa⟩ : ∃ z, w.alloc (.cells #[.int .i64 14, .int .i64 t, .int .i64 dst, .slice ia il ic, .int .i64 imm, .int .i64 sym, .int .i64 el, .bool nw] 38) = z := ⟨_, rfl⟩
  obtain ⟨w1, hw1⟩ : ∃ z, wa.alloc (.cells #[.int .i64 0, .int .i64 0, .int .i64 0, .bool false, .bool false, .int .i64 0, .bool false, .bool false, .int .i64 0, .bool false, .bool false, .int .i64 0, .bool false, .bool false] 27) = z := ⟨_, rfl⟩
  have sa : wa.heap.size = q + 1 := by rw [← hwa, World.size_alloc, hq]
  have HI : Hid (Whole w1 q 38 #[.int .i64 14, .int .i64 t, .int .i64 dst, .slice ia il ic, .int .i64 imm, .int .i64 sym, .int .i64 el, .bool nw]) := by show Whole _ _ _ _; rw [← hw1, ← hwa, ← hq]; exact (Whole.new w _ _).alloc _
  have HV : Hid (Whole w1 gs TV #[.int .i64 t, .int .i64 0, .int .i64 x, .bool false, .bool false, .int .i64 0, .bool false, .bool false, .int .i64 0, .bool false, .bool false, .int .i64 0, .bool false, .bool false, .int .i64 t, .int .i64 0, .int .i64 0, .bool true, .bool false, .int .i64 0, .bool false, .bool false, .int .i64 0, .bool false, .bool false, .int .i64 0, .bool false, .bool false]) := by show Whole _ _ _ _; rw [← hw1, ← hwa]; exact (hV.alloc _).alloc _
  have HR : Hid (Whole w1 (q + 1) 27 #[.int .i64 0, .int .i64 0, .int .i64 0, .bool false, .bool false, .int .i64 0, .bool false, .bool false, .int .i64 0, .bool false, .bool false, .int .i64 0, .bool false, .bool false]) := by show Whole _ _ _ _; rw [← hw1, ← sa]; exact Whole.new wa _ _
  have HB : Hid (Below w.heap.size w w1) := by
    show Below _ _ _
    rw [hq]
    have h0 := (Below.refl q w).alloc (Nat.le_of_eq hq.symm) (.cells #[.int .i64 14, .int .i64 t, .int .i64 dst, .slice ia il ic, .int .i64 imm, .int .i64 sym, .int .i64 el, .bool nw] 38)
    rw [hwa] at h0
    have h1 := h0.alloc (by omega) (.cells #[.int .i64 0, .int .i64 0, .int .i64 0, .bool false, .bool false, .int .i64 0, .bool false, .bool false, .int .i64 0, .bool false, .bool false, .int .i64 0, .bool false, .bool false] 27)
    rw [hw1] at h1
    exact h1
  have HQ := hide hq
  have hi := HI.out
  have i0 := hi.cell 0; have i1 := hi.cell 1; have i2 := hi.cell 2; have i3 := hi.cell 3; have i4 := hi.cell 4; have i5 := hi.cell 5; have i6 := hi.cell 6; have i7 := hi.cell 7
  simp only [List.getElem?_toArray, List.getElem?_cons_zero, List.getElem?_cons_succ] at i0 i1 i2 i3 i4 i5 i6 i7
  clear hV hi
  go_enter Tryd.func28, Tryd.ntmps28
  go_wp2_with fail
  refine (HAP.out _ (by exact HT.out.below HB.out) ⟨_, HV.out⟩).mono ?_
  rintro en w2 ⟨rfl, hb⟩
  clear i0 i1 i2 i3 i4 i5 i6 i7
  replace HB : Hid (Below w.heap.size w w2) := HB.out.trans (hb.mono HB.out.size)
  replace HR := hide (HR.out.below' hb); replace HV := hide (HV.out.below' hb); replace HI := hide (HI.out.below' hb)
  have hi := HI.out
  have i0 := hi.cell 0; have i1 := hi.cell 1; have i2 := hi.cell 2; have i3 := hi.cell 3; have i4 := hi.cell 4; have i5 := hi.cell 5; have i6 := hi.cell 6; have i7 := hi.cell 7
  simp only [List.getElem?_toArray, List.getElem?_cons_zero, List.getElem?_cons_succ] at i0 i1 i2 i3 i4 i5 i6 i7
  clear hb hi
  go_wp2_with fail
  refine (HF.out _ ⟨_, HV.out⟩).mono ?_
  rintro en w3 ⟨rfl, hb⟩
  clear i0 i1 i2 i3 i4 i5 i6 i7
  replace HB : Hid (Below w.heap.size w w3) := HB.out.trans (hb.mono HB.out.size)
  replace HR := hide (HR.out.below' hb); replace HV := hide (HV.out.below' hb); replace HI := hide (HI.out.below' hb)
  have hi := HI.out
  have i0 := hi.cell 0; have i1 := hi.cell 1; have i2 := hi.cell 2; have i3 := hi.cell 3; have i4 := hi.cell 4; have i5 := hi.cell 5; have i6 := hi.cell 6; have i7 := hi.cell 7
  simp only [List.getElem?_toArray, List.getElem?_cons_zero, List.getElem?_cons_succ] at i0 i1 i2 i3 i4 i5 i6 i7
  clear hb hi
  obtain ⟨c0, c1, c2, c3, c4, c5, c6, c7, c8, c9, c10, c11, c12, c13⟩ := vc_cells (a := zL) (b := zL) (c := zL) (d := zL) (t := 0) (o := 0) HR.out
  obtain ⟨f0, f1, f2, f3, f4, f5, f6, f7, f8, f9, f10, f11, f12, f13⟩ := vc_free (a := zL) (b := zL) (c := zL) (d := zL) (t := 0) (o := 0) HR.out
  simp only [zL] at c0 c1 c2 c3 c4 c5 c6 c7 c8 c9 c10 c11 c12 c13
  go_wp2_with fail
  refine bodyPost_ret (v := .tuple #[.agg #[.int .i64 0, .int .i64 0, .int .i64 0, .bool false, .bool false, .int .i64 0, .bool false, .bool false, .int .i64 0, .bool false, .bool false, .int .i64 0, .bool false, .bool false], .int .i64 0, .int .i64 1]) ?_ rfl ⟨rfl, ((((((((((((((HB.out.setCell (p := ⟨q + 1, 0, none⟩) (by rw [HQ.out]; show q ≤ q + 1; omega) (.int .i64 0)).setCell (p := ⟨q + 1, 1, none⟩) (by rw [HQ.out]; show q ≤ q + 1; omega) (.int .i64 0)).setCell (p := ⟨q + 1, 2, none⟩) (by rw [HQ.out]; show q ≤ q + 1; omega) (.int .i64 0)).setCell (p := ⟨q + 1, 3, none⟩) (by rw [HQ.out]; show q ≤ q + 1; omega) (.bool false)).setCell (p := ⟨q + 1, 4, none⟩) (by rw [HQ.out]; show q ≤ q + 1; omega) (.bool false)).setCell (p := ⟨q + 1, 5, none⟩) (by rw [HQ.out]; show q ≤ q + 1; omega) (.int .i64 0)).setCell (p := ⟨q + 1, 6, none⟩) (by rw [HQ.out]; show q ≤ q + 1; omega) (.bool false)).setCell (p := ⟨q + 1, 7, none⟩) (by rw [HQ.out]; show q ≤ q + 1; omega) (.bool false)).setCell (p := ⟨q + 1, 8, none⟩) (by rw [HQ.out]; show q ≤ q + 1; omega) (.int .i64 0)).setCell (p := ⟨q + 1, 9, none⟩) (by rw [HQ.out]; show q ≤ q + 1; omega) (.bool false)).setCell (p := ⟨q + 1, 10, none⟩) (by rw [HQ.out]; show q ≤ q + 1; omega) (.bool false)).setCell (p := ⟨q + 1, 11, none⟩) (by rw [HQ.out]; show q ≤ q + 1; omega) (.int .i64 0)).setCell (p := ⟨q + 1, 12, none⟩) (by rw [HQ.out]; show q ≤ q + 1; omega) (.bool false)).setCell (p := ⟨q + 1, 13, none⟩) (by rw [HQ.out]; show q ≤ q + 1; omega) (.bool false))⟩
  simp [results, Tryd.f28, go_sem, c0, c1, c2, c3, c4, c5, c6, c7, c8, c9, c10, c11, c12, c13]
end Go.Proofs.YtjeinmccahbpgaaDoor

/-
  Layer 11 (value): result of add of two numbers.
-/
import Derived.Test.YtjeinmccahbpgaaDoorEvD5
import Derived.Test.YtjeinmccahbpgaaDoorEvE
namespace Go.Proofs.YtjeinmccahbpgaaDoor
open Go.RowKit

set_option maxRecDepth 100000 in
set_option maxHeartbeats 4000000 in
theorem result_5 (t dst imm sym el x y : Int) (ia : Option Addr) (il ic gs : Nat) (nw : Bool) (w : World) (hT : Tab w) (hk : numL t = 1) (hV : ∃ T, Whole w gs T #[.int .i64 t, .int .i64 0, .int .i64 x, .bool false, .bool false, .int .i64 0, .bool false, .bool false, .int .i64 0, .bool false, .bool false, .int .i64 0, .bool false, .bool false, .int .i64 t, .int .i64 0, .int .i64 y, .bool false, .bool false, .int .i64 0, .bool false, .bool false, .int .i64 0, .bool false, .bool false, .int .i64 0, .bool false, .bool false]) :
    Calls Tryd.prog 64 #[.agg #[.int .i64 5, .int .i64 t, .int .i64 dst, .slice ia il ic, .int .i64 imm, .int .i64 sym, .int .i64 el, .bool nw], .slice (some ⟨gs, 0, none⟩) 2 2] w fun e w' =>
    e = .returned (.agg #[.int .i64 t, .int .i64 0, .int .i64 (combN nw (addO (laneT t) x y) (addS (laneT t) x y)), .bool (nw && addO (laneT t) x y), .bool false, .int .i64 0, .bool false, .bool false, .int .i64 0, .bool false, .bool false, .int .i64 0, .bool false, .bool false]) ∧ Below w.heap.size w w' := by
  obtain ⟨TV, hV⟩ := hV
  have HT := hide hT
  have HK := hide hk
  have HCM := hide (fun gi ga => res1_5 t dst imm sym el x y ia il ic gi ga gs nw)
  obtain ⟨rn, hrn⟩ : ∃ b, combN nw (addO (laneT t) x y) (addS (laneT t) x y) = b := ⟨_, rfl⟩
  obtain ⟨rp, hrp⟩ : ∃ b, (nw && addO (laneT t) x y) = b := ⟨_, rfl⟩
  rw [hrn, hrp] at HCM ⊢
  clear hT hrn hrp hk
  obtain ⟨q, hq⟩ : ∃ q, w.heap.size = q := ⟨_, rfl⟩
  obtain ⟨wa, hwa⟩ : ∃ z, w.alloc (.cells #[.int .i64 5, .int .i64 t, .int .i64 dst, .slice ia il ic, .int .i64 imm, .int .i64 sym, .int .i64 el, .bool nw] 38) = z := ⟨_, rfl⟩
  obtain ⟨wb, hwb⟩ : ∃ z, wa.alloc (.cells #[.slice (some ⟨gs, 0, none⟩) 2 2] 39) = z := ⟨_, rfl⟩
  obtain ⟨w1, hw1⟩ : ∃ z, wb.alloc (.cells #[.int .i64 0, .int .i64 0, .int .i64 0, .bool false, .bool false, .int .i64 0, .bool false, .bool false, .int .i64 0, .bool false, .bool false, .int .i64 0, .bool false, .bool false] 27) = z := ⟨_, rfl⟩
  have sa : wa.heap.size = q + 1 := by rw [← hwa, World.size_alloc, hq]
  have sb : wb.heap.size = q + 1 + 1 := by rw [← hwb, World.size_alloc, sa]
  have HI : Hid (Whole w1 q 38 #[.int .i64 5, .int .i64 t, .int .i64 dst, .slice ia il ic, .int .i64 imm, .int .i64 sym, .int .i64 el, .bool nw]) := by show Whole _ _ _ _; rw [← hw1, ← hwb, ← hwa, ← hq]; exact ((Whole.new w _ _).alloc _).alloc _
  have HA : Hid (Whole w1 (q + 1) 39 #[.slice (some ⟨gs, 0, none⟩) 2 2]) := by show Whole _ _ _ _; rw [← hw1, ← hwb, ← sa]; exact (Whole.new wa _ _).alloc _
  have HV : Hid (Whole w1 gs TV #[.int .i64 t, .int .i64 0, .int .i64 x, .bool false, .bool false, .int .i64 0, .bool false, .bool false, .int .i64 0, .bool false, .bool false, .int .i64 0, .bool false, .bool false, .int .i64 t, .int .i64 0, .int .i64 y, .bool false, .bool false, .int .i64 0, .bool false, .bool false, .int .i64 0, .bool false, .bool false, .int .i64 0, .bool false, .bool false]) := by show Whole _ _ _ _; rw [← hw1, ← hwb, ← hwa]; exact ((hV.alloc _).alloc _).alloc _
  have HR : Hid (Whole w1 (q + 1 + 1) 27 #[.int .i64 0, .int .i64 0, .int .i64 0, .bool false, .bool false, .int .i64 0, .bool false, .bool false, .int .i64 0, .bool false, .bool false, .int .i64 0, .bool false, .bool false]) := by show Whole _ _ _ _; rw [← hw1, ← sb]; exact Whole.new wb _ _
  have HB : Hid (Below w.heap.size w w1) := by
    show Below _ _ _
    rw [hq]
    have h0 := (Below.refl q w).alloc (Nat.le_of_eq hq.symm) (.cells #[.int .i64 5, .int .i64 t, .int .i64 dst, .slice ia il ic, .int .i64 imm, .int .i64 sym, .int .i64 el, .bool nw] 38)
    rw [hwa] at h0
    have h1 := h0.alloc (by omega) (.cells #[.slice (some ⟨gs, 0, none⟩) 2 2] 39)
    rw [hwb] at h1
    have h2 := h1.alloc (by omega) (.cells #[.int .i64 0, .int .i64 0, .int .i64 0, .bool false, .bool false, .int .i64 0, .bool false, .bool false, .int .i64 0, .bool false, .bool false, .int .i64 0, .bool false, .bool false] 27)
    rw [hw1] at h2
    exact h2
  have HQ := hide hq
  have i0 := HI.out.cell 0
  have i1 := HI.out.cell 1
  simp only [List.getElem?_toArray, List.getElem?_cons_zero, List.getElem?_cons_succ] at i0 i1
  have E1 := each_res_1 t ⟨rn, rp, false⟩ q (q + 1) w1 HK.out (fun W hW => HCM.out q (q + 1) W (HT.out.below (HB.out.trans (hW.mono HB.out.size))) (HI.out.below' hW) ⟨_, HA.out.below' hW⟩ ⟨_, HV.out.below' hW⟩)
  clear hV
  go_enter Tryd.func64, Tryd.ntmps64
  go_wp2_with fail
  refine E1.mono ?_
  rintro en w2 ⟨rfl, hb⟩
  have hR := HR.out.below' hb
  obtain ⟨c0, c1, c2, c3, c4, c5, c6, c7, c8, c9, c10, c11, c12, c13⟩ := vc_cells (a := zL) (b := zL) (c := zL) (d := zL) (t := 0) (o := 0) hR
  obtain ⟨f0, f1, f2, f3, f4, f5, f6, f7, f8, f9, f10, f11, f12, f13⟩ := vc_free (a := zL) (b := zL) (c := zL) (d := zL) (t := 0) (o := 0) hR
  simp only [zL] at c0 c1 c2 c3 c4 c5 c6 c7 c8 c9 c10 c11 c12 c13
  replace HB : Hid (Below w.heap.size w w2) := HB.out.trans (hb.mono HB.out.size)
  clear hb hR HI HA HV HR E1
  go_wp2_with fail
  refine bodyPost_ret (v := .agg #[.int .i64 t, .int .i64 0, .int .i64 rn, .bool rp, .bool false, .int .i64 0, .bool false, .bool false, .int .i64 0, .bool false, .bool false, .int .i64 0, .bool false, .bool false]) ?_ rfl ⟨rfl, ((((((((((((((HB.out.setCell (p := ⟨q + 1 + 1, 0, none⟩) (by rw [HQ.out]; show q ≤ q + 1 + 1; omega) (.int .i64 t)).setCell (p := ⟨q + 1 + 1, 1, none⟩) (by rw [HQ.out]; show q ≤ q + 1 + 1; omega) (.int .i64 0)).setCell (p := ⟨q + 1 + 1, 2, none⟩) (by rw [HQ.out]; show q ≤ q + 1 + 1; omega) (.int .i64 rn)).setCell (p := ⟨q + 1 + 1, 3, none⟩) (by rw [HQ.out]; show q ≤ q + 1 + 1; omega) (.bool rp)).setCell (p := ⟨q + 1 + 1, 4, none⟩) (by rw [HQ.out]; show q ≤ q + 1 + 1; omega) (.bool false)).setCell (p := ⟨q + 1 + 1, 5, none⟩) (by rw [HQ.out]; show q ≤ q + 1 + 1; omega) (.int .i64 0)).setCell (p := ⟨q + 1 + 1, 6, none⟩) (by rw [HQ.out]; show q ≤ q + 1 + 1; omega) (.bool false)).setCell (p := ⟨q + 1 + 1, 7, none⟩) (by rw [HQ.out]; show q ≤ q + 1 + 1; omega) (.bool false)).setCell (p := ⟨q + 1 + 1, 8, none⟩) (by rw [HQ.out]; show q ≤ q + 1 + 1; omega) (.int .i64 0)).setCell (p := ⟨q + 1 + 1, 9, none⟩) (by rw [HQ.out]; show q ≤ q + 1 + 1; omega) (.bool false)).setCell (p := ⟨q + 1 + 1, 10, none⟩) (by rw [HQ.out]; show q ≤ q + 1 + 1; omega) (.bool false)).setCell (p := ⟨q + 1 + 1, 11, none⟩) (by rw [HQ.out]; show q ≤ q + 1 + 1; omega) (.int .i64 0)).setCell (p := ⟨q + 1 + 1, 12, none⟩) (by rw [HQ.out]; show q ≤ q + 1 + 1; omega) (.bool false)).setCell (p := ⟨q + 1 + 1, 13, none⟩) (by rw [HQ.out]; show q ≤ q + 1 + 1; omega) (.bool false))⟩
  simp [results, Tryd.f64, go_sem, c0, c1, c2, c3, c4, c5, c6, c7, c8, c9, c10, c11, c12, c13]
end Go.Proofs.YtjeinmccahbpgaaDoor

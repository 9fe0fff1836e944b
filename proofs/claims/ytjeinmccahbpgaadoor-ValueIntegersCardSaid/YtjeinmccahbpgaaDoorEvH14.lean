/-
  Layer 11 (value): applicable, for two operands of one integer type.
-/
import Derived.Test.YtjeinmccahbpgaaDoorEvG
import Derived.Test.YtjeinmccahbpgaaDoorVH
namespace Go.Proofs.YtjeinmccahbpgaaDoor
open Go.RowKit

set_option maxRecDepth 100000 in
set_option maxHeartbeats 4000000 in
theorem applicable_14 (t dst imm sym el : Int) (a b : LaneD) (ia : Option Addr) (il ic gs : Nat) (nw : Bool) (w : World) (hT : Tab w) (ht : (decide (t = 2) || decide (t = 3) || decide (t = 4)) = true) (ha : validB t 0 a zL zL zL = true) (hb : validB t 0 b zL zL zL = true) (hV : ∃ T, Whole w gs T #[.int .i64 t, .int .i64 0, .int .i64 a.n, .bool a.p, .bool a.u, .int .i64 0, .bool false, .bool false, .int .i64 0, .bool false, .bool false, .int .i64 0, .bool false, .bool false, .int .i64 t, .int .i64 0, .int .i64 b.n, .bool b.p, .bool b.u, .int .i64 0, .bool false, .bool false, .int .i64 0, .bool false, .bool false, .int .i64 0, .bool false, .bool false]) :
    Calls Tryd.prog 62 #[.agg #[.int .i64 14, .int .i64 t, .int .i64 dst, .slice ia il ic, .int .i64 imm, .int .i64 sym, .int .i64 el, .bool nw], .slice (some ⟨gs, 0, none⟩) 2 2] w fun e w' => e = .returned (.bool true) ∧ Below w.heap.size w w' := by
  obtain ⟨TV, hV⟩ := hV
  have HT := hide hT
  have Va : ∀ W, Tab W → Calls Tryd.prog 22 #[.agg #[.int .i64 t, .int .i64 0, .int .i64 a.n, .bool a.p, .bool a.u, .int .i64 0, .bool false, .bool false, .int .i64 0, .bool false, .bool false, .int .i64 0, .bool false, .bool false]] W fun e w' => e = .returned (.bool true) ∧ Below W.heap.size W w' := fun W h => by
    have := valid_any t 0 a zL zL zL W h
    rw [ha] at this; exact this
  have Vb : ∀ W, Tab W → Calls Tryd.prog 22 #[.agg #[.int .i64 t, .int .i64 0, .int .i64 b.n, .bool b.p, .bool b.u, .int .i64 0, .bool false, .bool false, .int .i64 0, .bool false, .bool false, .int .i64 0, .bool false, .bool false]] W fun e w' => e = .returned (.bool true) ∧ Below W.heap.size W w' := fun W h => by
    have := valid_any t 0 b zL zL zL W h
    rw [hb] at this; exact this
  have HW := hide (fun W => isword_any t W)
  rw [ht] at HW
  clear ha hb ht hT
  obtain ⟨q, hq⟩ : ∃ q, w.heap.size = q := ⟨_, rfl⟩
  obtain ⟨w0, hw0⟩ : ∃ z, w.alloc (.cells #[.int .i64 14, .int .i64 t, .int .i64 dst, .slice ia il ic, .int .i64 imm, .int .i64 sym, .int .i64 el, .bool nw] 38) = z := ⟨_, rfl⟩
  have HI : Hid (Whole w0 q 38 #[.int .i64 14, .int .i64 t, .int .i64 dst, .slice ia il ic, .int .i64 imm, .int .i64 sym, .int .i64 el, .bool nw]) := by show Whole _ _ _ _; rw [← hw0, ← hq]; exact Whole.new w _ _
  have HV : Hid (Whole w0 gs TV #[.int .i64 t, .int .i64 0, .int .i64 a.n, .bool a.p, .bool a.u, .int .i64 0, .bool false, .bool false, .int .i64 0, .bool false, .bool false, .int .i64 0, .bool false, .bool false, .int .i64 t, .int .i64 0, .int .i64 b.n, .bool b.p, .bool b.u, .int .i64 0, .bool false, .bool false, .int .i64 0, .bool false, .bool false, .int .i64 0, .bool false, .bool false]) := by show Whole _ _ _ _; rw [← hw0]; exact hV.alloc _
  have HB : Hid (Below w.heap.size w w0) := by show Below _ _ _; rw [← hw0]; exact (Below.refl _ _).alloc (Nat.le_refl _) _
  clear hV
  go_enter Tryd.func62, Tryd.ntmps62
  go_wp2_with fail
  refine wp_loop_rounds 3 ?_
  clear hw0 hq
  have v0 := HV.out.cell 0; have v1 := HV.out.cell 1; have v2 := HV.out.cell 2; have v3 := HV.out.cell 3; have v4 := HV.out.cell 4; have v5 := HV.out.cell 5; have v6 := HV.out.cell 6; have v7 := HV.out.cell 7; have v8 := HV.out.cell 8; have v9 := HV.out.cell 9; have v10 := HV.out.cell 10; have v11 := HV.out.cell 11; have v12 := HV.out.cell 12; have v13 := HV.out.cell 13
  simp only [List.getElem?_toArray, List.getElem?_cons_zero, List.getElem?_cons_succ] at v0 v1 v2 v3 v4 v5 v6 v7 v8 v9 v10 v11 v12 v13
  rw [rounds_succ]
  go_wp2_with fail
  refine (Va _ (by exact (HT.out.below HB.out).below ((Below.refl _ _).alloc (Nat.le_refl _) _))).mono ?_
  rintro en wa ⟨rfl, hb⟩
  clear v0 v1 v2 v3 v4 v5 v6 v7 v8 v9 v10 v11 v12 v13
  have hb2 := Below.all ((Below.refl _ _).alloc (Nat.le_refl _) _) hb
  replace HB : Hid (Below w.heap.size w wa) := HB.out.trans (hb2.mono HB.out.size)
  replace HV := hide (HV.out.below' hb2)
  replace HI := hide (HI.out.below' hb2)
  clear hb hb2
  go_wp2_with fail
  have v0 := HV.out.cell 14; have v1 := HV.out.cell 15; have v2 := HV.out.cell 16; have v3 := HV.out.cell 17; have v4 := HV.out.cell 18; have v5 := HV.out.cell 19; have v6 := HV.out.cell 20; have v7 := HV.out.cell 21; have v8 := HV.out.cell 22; have v9 := HV.out.cell 23; have v10 := HV.out.cell 24; have v11 := HV.out.cell 25; have v12 := HV.out.cell 26; have v13 := HV.out.cell 27
  simp only [List.getElem?_toArray, List.getElem?_cons_zero, List.getElem?_cons_succ] at v0 v1 v2 v3 v4 v5 v6 v7 v8 v9 v10 v11 v12 v13
  rw [rounds_succ]
  go_wp2_with fail
  refine (Vb _ (by exact (HT.out.below HB.out).below ((Below.refl _ _).alloc (Nat.le_refl _) _))).mono ?_
  rintro en wb ⟨rfl, hb⟩
  clear v0 v1 v2 v3 v4 v5 v6 v7 v8 v9 v10 v11 v12 v13
  have hb2 := Below.all ((Below.refl _ _).alloc (Nat.le_refl _) _) hb
  replace HB : Hid (Below w.heap.size w wb) := HB.out.trans (hb2.mono HB.out.size)
  replace HV := hide (HV.out.below' hb2)
  replace HI := hide (HI.out.below' hb2)
  clear hb hb2
  go_wp2_with fail
  rw [rounds_succ]
  have i0 := HI.out.cell 0
  have i1 := HI.out.cell 1
  simp only [List.getElem?_toArray, List.getElem?_cons_zero, List.getElem?_cons_succ] at i0 i1
  have HG : Whole (wb.alloc (.cells #[.int .i64 t, .int .i64 t] 22)) wb.heap.size 22 #[.int .i64 t, .int .i64 t] := Whole.new wb _ _
  have HVV := HV.out.alloc (.cells #[.int .i64 t, .int .i64 t] 22)
  go_wp2_with fail
  refine (typed_two t a b gs _ _ ⟨_, HVV⟩ ⟨_, HG⟩).mono ?_
  rintro en wd ⟨rfl, hb⟩
  replace HB : Hid (Below w.heap.size w wd) := HB.out.trans ((Below.all ((Below.refl _ _).alloc (Nat.le_refl _) _) hb).mono HB.out.size)
  clear HG HVV hb
  go_wp2_with (go_at_call 88; refine (HW.out _).mono ?_; rintro en we ⟨rfl, rfl⟩)
  go_ret
  exact ⟨rfl, HB.out⟩
end Go.Proofs.YtjeinmccahbpgaaDoor

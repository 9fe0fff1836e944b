/-
  Layer 11 (value): two operands of one type.
-/
import Derived.Test.YtjeinmccahbpgaaDoorEvA
namespace Go.Proofs.YtjeinmccahbpgaaDoor
open Go.RowKit

set_option maxRecDepth 100000 in
set_option maxHeartbeats 4000000 in
theorem typed_two (t : Int) (a b : LaneD) (gs gt : Nat) (w : World) (hV : ∃ T, Whole w gs T #[.int .i64 t, .int .i64 0, .int .i64 a.n, .bool a.p, .bool a.u, .int .i64 0, .bool false, .bool false, .int .i64 0, .bool false, .bool false, .int .i64 0, .bool false, .bool false, .int .i64 t, .int .i64 0, .int .i64 b.n, .bool b.p, .bool b.u, .int .i64 0, .bool false, .bool false, .int .i64 0, .bool false, .bool false, .int .i64 0, .bool false, .bool false]) (hG : ∃ T, Whole w gt T #[.int .i64 t, .int .i64 t]) :
    Calls Tryd.prog 86 #[.slice (some ⟨gs, 0, none⟩) 2 2, .slice (some ⟨gt, 0, none⟩) 2 2] w fun e w' => e = .returned (.bool true) ∧ Below w.heap.size w w' := by
  obtain ⟨TV, hV⟩ := hV
  obtain ⟨TG, hG⟩ := hG
  have HV := hide hV
  have HG := hide hG
  obtain ⟨q, hq⟩ : ∃ q, w.heap.size = q := ⟨_, rfl⟩
  have HQ := hide hq
  have tt : (t != t) = false := by simp
  have v0 := hV.cell 0; have v1 := hV.cell 1; have v2 := hV.cell 2; have v3 := hV.cell 3; have v4 := hV.cell 4; have v5 := hV.cell 5; have v6 := hV.cell 6; have v7 := hV.cell 7; have v8 := hV.cell 8; have v9 := hV.cell 9; have v10 := hV.cell 10; have v11 := hV.cell 11; have v12 := hV.cell 12; have v13 := hV.cell 13
  simp only [List.getElem?_toArray, List.getElem?_cons_zero, List.getElem?_cons_succ] at v0 v1 v2 v3 v4 v5 v6 v7 v8 v9 v10 v11 v12 v13
  clear hV hG
  go_enter Tryd.func86, Tryd.ntmps86
  go_wp2_with fail
  refine wp_loop_rounds 3 ?_
  rw [rounds_succ]
  go_wp2_with fail
  obtain ⟨wa, hwa⟩ : ∃ z, w.alloc (.cells #[.int .i64 t, .int .i64 0, .int .i64 a.n, .bool a.p, .bool a.u, .int .i64 0, .bool false, .bool false, .int .i64 0, .bool false, .bool false, .int .i64 0, .bool false, .bool false] 27) = z := ⟨_, rfl⟩
  rw [hwa]
  have k0 : wa.cell? ⟨q, 0, none⟩ = some (.int .i64 t) := by rw [← hwa, ← hq]; exact (Whole.new w 27 #[.int .i64 t, .int .i64 0, .int .i64 a.n, .bool a.p, .bool a.u, .int .i64 0, .bool false, .bool false, .int .i64 0, .bool false, .bool false, .int .i64 0, .bool false, .bool false]).cell 0
  have hb : Below w.heap.size w wa := by rw [← hwa]; exact (Below.refl _ _).alloc (Nat.le_refl _) _
  have g0 : wa.cell? ⟨gt, 0, none⟩ = some (.int .i64 t) := (HG.out.below' hb).cell 0
  replace HV := hide (HV.out.below' hb)
  replace HG := hide (HG.out.below' hb)
  have HB := hide hb
  clear hwa hb v0 v1 v2 v3 v4 v5 v6 v7 v8 v9 v10 v11 v12 v13
  go_quiet (fail)
  obtain ⟨wb, hwb⟩ : ∃ z, wa.drewN nq = z := ⟨_, rfl⟩
  rw [hwb]
  have hb : Below wa.heap.size wa wb := by rw [← hwb]; exact Below.drewN' (Below.refl _ _) _
  replace HV := hide (HV.out.below' hb)
  replace HG := hide (HG.out.below' hb)
  replace HB : Hid (Below w.heap.size w wb) := HB.out.trans (hb.mono HB.out.size)
  have v0 := HV.out.cell 14; have v1 := HV.out.cell 15; have v2 := HV.out.cell 16; have v3 := HV.out.cell 17; have v4 := HV.out.cell 18; have v5 := HV.out.cell 19; have v6 := HV.out.cell 20; have v7 := HV.out.cell 21; have v8 := HV.out.cell 22; have v9 := HV.out.cell 23; have v10 := HV.out.cell 24; have v11 := HV.out.cell 25; have v12 := HV.out.cell 26; have v13 := HV.out.cell 27
  simp only [List.getElem?_toArray, List.getElem?_cons_zero, List.getElem?_cons_succ] at v0 v1 v2 v3 v4 v5 v6 v7 v8 v9 v10 v11 v12 v13
  clear hwb hb k0 g0 hq
  go_wp2_with fail
  rw [rounds_succ]
  go_wp2_with fail
  obtain ⟨wc, hwc⟩ : ∃ z, wb.alloc (.cells #[.int .i64 t, .int .i64 0, .int .i64 b.n, .bool b.p, .bool b.u, .int .i64 0, .bool false, .bool false, .int .i64 0, .bool false, .bool false, .int .i64 0, .bool false, .bool false] 27) = z := ⟨_, rfl⟩
  rw [hwc]
  have k0 : wc.cell? ⟨wb.heap.size, 0, none⟩ = some (.int .i64 t) := by rw [← hwc]; exact (Whole.new wb 27 #[.int .i64 t, .int .i64 0, .int .i64 b.n, .bool b.p, .bool b.u, .int .i64 0, .bool false, .bool false, .int .i64 0, .bool false, .bool false, .int .i64 0, .bool false, .bool false]).cell 0
  have hb : Below wb.heap.size wb wc := by rw [← hwc]; exact (Below.refl _ _).alloc (Nat.le_refl _) _
  have g0 : wc.cell? ⟨gt, 1, none⟩ = some (.int .i64 t) := (HG.out.below' hb).cell 1
  replace HB : Hid (Below w.heap.size w wc) := HB.out.trans (hb.mono HB.out.size)
  clear hwc hb v0 v1 v2 v3 v4 v5 v6 v7 v8 v9 v10 v11 v12 v13 HV HG
  go_quiet (fail)
  go_wp2_with fail
  rw [rounds_succ]
  go_wp2_with fail
  go_ret
  exact ⟨rfl, Below.drewN' HB.out nq⟩
end Go.Proofs.YtjeinmccahbpgaaDoor

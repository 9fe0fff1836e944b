/-
  Layer 23 (expr): the texts of the nodes of the example.
-/
import Derived.Test.YtnhaanjpcnnifaaDoorExS
import Derived.Test.YtnhaanjpcnnifaaDoorExD
namespace Go.Proofs.YtnhaanjpcnnifaaDoor
open Go.RowKit Go.Deep

set_option maxRecDepth 100000 in
theorem small_0 (w : World) : Calls Tryd.prog 102 #[.int .i64 0] w fun e w' => e = .returned (.string ⟨#[48]⟩) ∧ w = w' := by
  go_enter Tryd.func102, Tryd.ntmps102
  go_wp2
  go_ret
  exact ⟨by rfl, rfl⟩
set_option maxRecDepth 100000 in
theorem ifmt_0 (w : World) : Calls Tryd.prog 84 #[.int .i64 0, .int .i64 10] w fun e w' => e = .returned (.string ⟨#[48]⟩) ∧ w = w' := by
  go_enter Tryd.func84, Tryd.ntmps84
  go_wp2_with (go_at_call 102; refine (small_0 _).mono ?_; rintro en w' ⟨rfl, rfl⟩)
  go_ret
  exact ⟨by rfl, rfl⟩
set_option maxRecDepth 100000 in
theorem sfmt_0 (w : World) : Calls Tryd.prog 51 #[.int .i64 0, .int .i64 10] w fun e w' => e = .returned (.string ⟨#[48]⟩) ∧ w = w' := by
  go_enter Tryd.func51, Tryd.ntmps51
  go_wp2_with (go_at_call 84; refine (ifmt_0 _).mono ?_; rintro en w' ⟨rfl, rfl⟩)
  go_ret
  exact ⟨by rfl, rfl⟩
set_option maxRecDepth 100000 in
theorem small_1 (w : World) : Calls Tryd.prog 102 #[.int .i64 1] w fun e w' => e = .returned (.string ⟨#[49]⟩) ∧ w = w' := by
  go_enter Tryd.func102, Tryd.ntmps102
  go_wp2
  go_ret
  exact ⟨by rfl, rfl⟩
set_option maxRecDepth 100000 in
theorem ifmt_1 (w : World) : Calls Tryd.prog 84 #[.int .i64 1, .int .i64 10] w fun e w' => e = .returned (.string ⟨#[49]⟩) ∧ w = w' := by
  go_enter Tryd.func84, Tryd.ntmps84
  go_wp2_with (go_at_call 102; refine (small_1 _).mono ?_; rintro en w' ⟨rfl, rfl⟩)
  go_ret
  exact ⟨by rfl, rfl⟩
set_option maxRecDepth 100000 in
theorem sfmt_1 (w : World) : Calls Tryd.prog 51 #[.int .i64 1, .int .i64 10] w fun e w' => e = .returned (.string ⟨#[49]⟩) ∧ w = w' := by
  go_enter Tryd.func51, Tryd.ntmps51
  go_wp2_with (go_at_call 84; refine (ifmt_1 _).mono ?_; rintro en w' ⟨rfl, rfl⟩)
  go_ret
  exact ⟨by rfl, rfl⟩
theorem nor_any (s : ByteArray) (i : Int) (hs : s.toList.isEmpty = false) (w : World) : Calls Tryd.prog 52 #[.string s, .int .i64 i] w fun e w' => e = .returned (.string s) ∧ w = w' := by
  go_enter Tryd.func52, Tryd.ntmps52
  go_wp2_with fail
  go_ret
  exact ⟨rfl, rfl⟩
set_option maxRecDepth 100000 in
set_option maxHeartbeats 4000000 in
theorem fnode_r (w : World) (hO : OpTab w) : Calls Tryd.prog 36 #[.agg (NdD.cells ⟨4, 0, 0⟩).toArray] w fun e w' => e = .returned (.string ⟨#[114, 48]⟩) ∧ Below w.heap.size w w' := by
  have HO := hide hO
  obtain ⟨bN, hbN⟩ : ∃ b, w.heap.size = b := ⟨_, rfl⟩
  obtain ⟨w1, hw1⟩ : ∃ z, w.alloc (.cells #[.int .i64 4, .int .i64 0, .int .i64 0] 40) = z := ⟨_, rfl⟩
  have HB : Hid (Below w.heap.size w w1) := hide (by rw [← hw1]; exact (Below.refl _ _).alloc (Nat.le_refl _) _)
  have HN : Hid (Whole w1 bN 40 #[.int .i64 4, .int .i64 0, .int .i64 0]) := hide (by rw [← hw1, ← hbN]; exact Whole.new w _ _)
  have HbN := hide hbN
  clear hO
  show Calls Tryd.prog 36 #[.agg #[.int .i64 4, .int .i64 0, .int .i64 0]] w _
  have n0 : w1.cell? ⟨bN, 0, none⟩ = some (.int .i64 4) := HN.out.cell 0
  have n1 : w1.cell? ⟨bN, 1, none⟩ = some (.int .i64 0) := HN.out.cell 1
  have n2 : w1.cell? ⟨bN, 2, none⟩ = some (.int .i64 0) := HN.out.cell 2
  go_enter Tryd.func36, Tryd.ntmps36
  go_upto_region 1 with fail
  clear hw1 hbN
  go_upto_region 2 with (go_at_call 51; refine (sfmt_0 _).mono ?_; rintro en w' ⟨rfl, rfl⟩)
  go_wp2_with fail
  go_ret
  exact ⟨rfl, HB.out⟩
set_option maxRecDepth 100000 in
set_option maxHeartbeats 4000000 in
theorem fnode_c (w : World) (hO : OpTab w) : Calls Tryd.prog 36 #[.agg (NdD.cells ⟨1, 3, 1⟩).toArray] w fun e w' => e = .returned (.string ⟨#[99, 111, 110, 115, 116, 58, 105, 51, 50, 58, 49]⟩) ∧ Below w.heap.size w w' := by
  have HO := hide hO
  obtain ⟨bN, hbN⟩ : ∃ b, w.heap.size = b := ⟨_, rfl⟩
  obtain ⟨w1, hw1⟩ : ∃ z, w.alloc (.cells #[.int .i64 1, .int .i64 3, .int .i64 1] 40) = z := ⟨_, rfl⟩
  have HB : Hid (Below w.heap.size w w1) := hide (by rw [← hw1]; exact (Below.refl _ _).alloc (Nat.le_refl _) _)
  have HN : Hid (Whole w1 bN 40 #[.int .i64 1, .int .i64 3, .int .i64 1]) := hide (by rw [← hw1, ← hbN]; exact Whole.new w _ _)
  have HbN := hide hbN
  clear hO
  show Calls Tryd.prog 36 #[.agg #[.int .i64 1, .int .i64 3, .int .i64 1]] w _
  have n0 : w1.cell? ⟨bN, 0, none⟩ = some (.int .i64 1) := HN.out.cell 0
  have n1 : w1.cell? ⟨bN, 1, none⟩ = some (.int .i64 3) := HN.out.cell 1
  have n2 : w1.cell? ⟨bN, 2, none⟩ = some (.int .i64 1) := HN.out.cell 2
  go_enter Tryd.func36, Tryd.ntmps36
  go_upto_region 1 with fail
  clear hw1 hbN
  go_upto_region 2 with (go_at_call 51; refine (sfmt_1 _).mono ?_; rintro en w' ⟨rfl, rfl⟩)
  go_upto_region 4 with fail
  replace HB := hide (Below.drewN' HB.out 1)
  have cc : w1.drew.cell? ⟨bN, 0, none⟩ = some (.int .i64 1) ∧ w1.drew.cell? ⟨bN, 1, none⟩ = some (.int .i64 3) := ⟨n0, n1⟩
  clear n0 n1 n2
  go_region_held3 (fun w' => w'.cell? ⟨bN, 0, none⟩ = some (.int .i64 1) ∧ w'.cell? ⟨bN, 1, none⟩ = some (.int .i64 3)) (exact cc) (first
    | (go_at_call 53; refine (name_any 1 _ (HO.out.below HB.out)).mono ?_; rintro en w' ⟨rfl, rfl⟩; rw [show nameM 1 = [99, 111, 110, 115, 116] from rfl])
    | (go_at_call 54; refine (tname_any 3 _ (HO.out.below HB.out)).mono ?_; rintro en w' ⟨rfl, rfl⟩; rw [show tnameM 3 = [105, 51, 50] from rfl])
    | (go_at_call 52; refine (nor_any _ _ (by first | decide +kernel | kernel_rfl) _).mono ?_; rintro en w' ⟨rfl, rfl⟩))
  go_wp2_with fail
  go_ret
  exact ⟨rfl, HB.out⟩
set_option maxRecDepth 100000 in
set_option maxHeartbeats 4000000 in
theorem fnode_a (w : World) (hO : OpTab w) : Calls Tryd.prog 36 #[.agg (NdD.cells ⟨5, 3, 0⟩).toArray] w fun e w' => e = .returned (.string ⟨#[97, 100, 100, 58, 105, 51, 50, 58, 48]⟩) ∧ Below w.heap.size w w' := by
  have HO := hide hO
  obtain ⟨bN, hbN⟩ : ∃ b, w.heap.size = b := ⟨_, rfl⟩
  obtain ⟨w1, hw1⟩ : ∃ z, w.alloc (.cells #[.int .i64 5, .int .i64 3, .int .i64 0] 40) = z := ⟨_, rfl⟩
  have HB : Hid (Below w.heap.size w w1) := hide (by rw [← hw1]; exact (Below.refl _ _).alloc (Nat.le_refl _) _)
  have HN : Hid (Whole w1 bN 40 #[.int .i64 5, .int .i64 3, .int .i64 0]) := hide (by rw [← hw1, ← hbN]; exact Whole.new w _ _)
  have HbN := hide hbN
  clear hO
  show Calls Tryd.prog 36 #[.agg #[.int .i64 5, .int .i64 3, .int .i64 0]] w _
  have n0 : w1.cell? ⟨bN, 0, none⟩ = some (.int .i64 5) := HN.out.cell 0
  have n1 : w1.cell? ⟨bN, 1, none⟩ = some (.int .i64 3) := HN.out.cell 1
  have n2 : w1.cell? ⟨bN, 2, none⟩ = some (.int .i64 0) := HN.out.cell 2
  go_enter Tryd.func36, Tryd.ntmps36
  go_upto_region 1 with fail
  clear hw1 hbN
  go_upto_region 2 with (go_at_call 51; refine (sfmt_0 _).mono ?_; rintro en w' ⟨rfl, rfl⟩)
  go_upto_region 4 with fail
  replace HB := hide (Below.drewN' HB.out 1)
  have cc : w1.drew.cell? ⟨bN, 0, none⟩ = some (.int .i64 5) ∧ w1.drew.cell? ⟨bN, 1, none⟩ = some (.int .i64 3) := ⟨n0, n1⟩
  clear n0 n1 n2
  go_region_held3 (fun w' => w'.cell? ⟨bN, 0, none⟩ = some (.int .i64 5) ∧ w'.cell? ⟨bN, 1, none⟩ = some (.int .i64 3)) (exact cc) (first
    | (go_at_call 53; refine (name_any 5 _ (HO.out.below HB.out)).mono ?_; rintro en w' ⟨rfl, rfl⟩; rw [show nameM 5 = [97, 100, 100] from rfl])
    | (go_at_call 54; refine (tname_any 3 _ (HO.out.below HB.out)).mono ?_; rintro en w' ⟨rfl, rfl⟩; rw [show tnameM 3 = [105, 51, 50] from rfl])
    | (go_at_call 52; refine (nor_any _ _ (by first | decide +kernel | kernel_rfl) _).mono ?_; rintro en w' ⟨rfl, rfl⟩))
  go_wp2_with fail
  go_ret
  exact ⟨rfl, HB.out⟩
end Go.Proofs.YtnhaanjpcnnifaaDoor

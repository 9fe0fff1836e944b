/-
  Layer 6 (digraph): awake.
-/
import Derived.Test.YtaehfohljblmoaaAwake
namespace Go.Proofs.Ytaehfohljblmoaa
open Go.RowKit

theorem k_same (W : World) (u v : Value) (l : List Int) (hu : Rd W .i64 u l) (hv : Rd W .i64 v l) : Calls Try.prog 19 #[u, v] W fun en w' => en = .returned (.bool true) ∧ Below W.heap.size W w' :=
  (same_any u v l l W hu hv).mono fun _ _ ⟨a, b⟩ => ⟨by rw [a, decide_eq_true rfl], b⟩
theorem k_check2 (N : Nat) (hN : N = 65537) (W : World) : Calls Try.prog 7 #[.agg #[.slice (some ⟨W.heap.size, 0, none⟩) N N]] (W.alloc (.cells (madeCells #[.slice none 0 0] N) 36)) fun en w' => en = .returned (.int .i64 11) ∧ Below W.heap.size W w' := by
  have h := (OwnL.made W W.heap.size N (by rw [hN]; unfold maxLen; decide) (Nat.le_refl _)).rd
  rw [List.length_replicate] at h
  have k := check_any _ _ _ _ h
  rw [List.length_replicate, show codeG (List.replicate N ([] : List Int)) = 11 by unfold codeG; rw [List.length_replicate, if_pos (by omega)]] at k
  exact k.mono fun _ _ ⟨a, b⟩ => ⟨a, ((Below.refl W.heap.size W).alloc (Nat.le_refl _) _).trans (b.mono (by rw [World.size_alloc]; omega))⟩

set_option maxRecDepth 200000 in
set_option maxHeartbeats 8000000 in
theorem awake_any (w : World) : Calls Try.prog 10 #[] w fun en w' => en = .returned (.bool true) ∧ Below w.heap.size w w' := by
  obtain ⟨N, hN⟩ : ∃ N : Nat, N = 65537 := ⟨_, rfl⟩
  have hNi : (N : Int) = 65537 := by omega
  have hfld := run_field
  have hmk := fun W : World => run_made W 22 36 (.slice none 0 0) 24 Try.underlying22 infoInts rfl (Nat.le_refl _) N (by omega)
  rw [hNi] at hmk
  have HMK := hide hmk
  have HN := hide hN
  clear hmk hN hNi
  go_enter Try.func10, Try.ntmps10
  go_wp2_with fail
  refine (diamond_any w).mono ?_
  rintro en w1 ⟨⟨A, c, rfl, hg⟩, hb⟩
  obtain ⟨w2, hw2⟩ : ∃ x, w1.alloc (.cells #[.slice A 4 c] 24) = x := ⟨_, rfl⟩
  have hb12 : Below w1.heap.size w1 w2 := by rw [← hw2]; exact (Below.refl _ _).alloc (Nat.le_refl _) _
  have hx2 : w2.cell? ⟨w1.heap.size, 0, none⟩ = some (.slice A 4 c) := by rw [← hw2]; simp [go_sem]
  have HB2 : Hid (Below w.heap.size w w2) := hide (hb.trans (hb12.mono hb.size))
  have HG2 := hide (hg.below' hb12)
  clear hb hb12 hg
  go_wp2_with fail
  clear hw2
  refine (k_reach A c w2 HG2.out).mono ?_
  rintro en w3 ⟨⟨D1, rfl, hr⟩, hb⟩
  have hx3 : w3.cell? ⟨w1.heap.size, 0, none⟩ = some (.slice A 4 c) := (hb.cell (p := ⟨w1.heap.size, 0, none⟩) (lt_of_cell hx2)).trans hx2
  have HB3 : Hid (Below w.heap.size w w3) := hide (HB2.out.trans (hb.mono HB2.out.size))
  have HG3 := hide (HG2.out.below' hb)
  have HR3 := hide (hr.low HB2.out.size)
  clear hb hr HB2 HG2 hx2
  go_wp2_with fail
  refine (k_preds A c w3 HG3.out).mono ?_
  rintro en w4 ⟨D2, rfl, ⟨R2, hp⟩, hb⟩
  have hx4 : w4.cell? ⟨w1.heap.size, 0, none⟩ = some (.slice A 4 c) := (hb.cell (p := ⟨w1.heap.size, 0, none⟩) (lt_of_cell hx3)).trans hx3
  have HB4 : Hid (Below w.heap.size w w4) := hide (HB3.out.trans (hb.mono HB3.out.size))
  have HG4 := hide (HG3.out.below' hb)
  have HR4 := hide (HR3.out.below' hb)
  have HP4 := hide (hp.low HB3.out.size)
  clear hb hp HB3 HG3 HR3 hx3
  go_wp2_with fail
  refine (k_rev A c w4 HG4.out).mono ?_
  rintro en w5 ⟨D3, rfl, ⟨R3, hv⟩, hb⟩
  have HW : Hid (Woken w w5 w1.heap.size A c w.heap.size D1 D2 D3 R2 R3) := hide ⟨HG4.out.below' hb, (hb.cell (p := ⟨w1.heap.size, 0, none⟩) (lt_of_cell hx4)).trans hx4, HR4.out.below' hb, HP4.out.frm (Frm.below hb), hv.low HB4.out.size, HB4.out.trans (hb.mono HB4.out.size)⟩
  clear hb hv HB4 HG4 HR4 HP4 hx4
  have cx := HW.out.cell
  go_wp2_with fail
  refine (k_check A c _ HW.out.gr).mono ?_
  rintro en w6 ⟨rfl, hb⟩
  have HW' := hide (HW.out.next hb)
  clear hb cx HW
  have HW := HW'
  clear HW'
  have cx := HW.out.cell
  obtain ⟨wa, hwa⟩ : ∃ x, w6.alloc (.cells #[.int .i64 1] 3) = x := ⟨_, rfl⟩
  obtain ⟨wb, hwb⟩ : ∃ x, wa.alloc (.cells #[.slice (some ⟨w6.heap.size, 0, none⟩) 1 1] 36) = x := ⟨_, rfl⟩
  have ba : Below w6.heap.size w6 wa := by rw [← hwa]; exact (Below.refl _ _).alloc (Nat.le_refl _) _
  have bb : Below wa.heap.size wa wb := by rw [← hwb]; exact (Below.refl _ _).alloc (Nat.le_refl _) _
  have ra : Rd wa .i64 (.slice (some ⟨w6.heap.size, 0, none⟩) 1 1) [1] := by rw [← hwa]; exact rd_block w6 3 [1] (by unfold maxLen; decide)
  have HG9 : Hid (RdL wb (some ⟨wa.heap.size, 0, none⟩) 1 [[1]]) := hide ⟨[.slice (some ⟨w6.heap.size, 0, none⟩) 1 1], rfl, by rw [← hwb]; exact rdv_block wa 36 [.slice (some ⟨w6.heap.size, 0, none⟩) 1 1] (by show 1 ≤ maxLen; unfold maxLen; decide), fun i l hi => by
    match i, hi with
    | 0, hi => obtain rfl : [1] = l := by simpa using hi
               exact ⟨_, _, rfl, ra.below' bb⟩
    | i + 1, hi => simp at hi⟩
  have HW' := hide ((HW.out.next ba).next bb)
  clear ba bb ra HW cx
  have HW := HW'
  clear HW'
  have cx := HW.out.cell
  go_wp2_with fail
  refine (k_check1 _ _ _ HG9.out).mono ?_
  rintro en w7 ⟨rfl, hb⟩
  clear hwa hwb HG9
  have HW' := hide (HW.out.next hb)
  clear hb cx HW
  have HW := HW'
  clear HW'
  have cx := HW.out.cell
  have hmk := HMK.out w7
  go_wp2_with fail
  refine (k_check2 N HN.out w7).mono ?_
  rintro en w8 ⟨rfl, hb⟩
  clear hmk
  have HW' := hide (HW.out.next hb)
  clear hb cx HW
  have HW := HW'
  clear HW'
  have cx := HW.out.cell
  go_wp2_with fail
  refine (k_post A c _ HW.out.gr).mono ?_
  rintro en w9 ⟨⟨ov, rfl, ho⟩, hb⟩
  have HW' := hide (HW.out.next hb)
  clear hb cx HW
  have HW := HW'
  clear HW'
  have cx := HW.out.cell
  obtain ⟨wa, hwa⟩ : ∃ x, w9.alloc (.cells #[.int .i64 3, .int .i64 2, .int .i64 1, .int .i64 0] 3) = x := ⟨_, rfl⟩
  have hb : Below w9.heap.size w9 wa := by rw [← hwa]; exact (Below.refl _ _).alloc (Nat.le_refl _) _
  have HU := hide (ho.rd.below' hb)
  have HV : Hid (Rd wa .i64 (.slice (some ⟨w9.heap.size, 0, none⟩) 4 4) [3, 2, 1, 0]) := hide (by rw [← hwa]; exact rd_block w9 3 [3, 2, 1, 0] (by unfold maxLen; decide))
  obtain ⟨Ao, co, rfl, -, -, -⟩ := ho.rd
  clear ho
  have HW' := hide (HW.out.next hb)
  clear hb cx HW
  have HW := HW'
  clear HW'
  have cx := HW.out.cell
  go_wp2_with fail
  refine (k_same wa _ _ _ HU.out HV.out).mono ?_
  rintro en w10 ⟨rfl, hb⟩
  clear hwa HU HV
  have HW' := hide (HW.out.next hb)
  clear hb cx HW
  have HW := HW'
  clear HW'
  have cx := HW.out.cell
  go_wp2_with fail
  refine (k_rpost A c _ HW.out.gr).mono ?_
  rintro en w11 ⟨⟨ov, rfl, ho⟩, hb⟩
  have HW' := hide (HW.out.next hb)
  clear hb cx HW
  have HW := HW'
  clear HW'
  have cx := HW.out.cell
  obtain ⟨wa, hwa⟩ : ∃ x, w11.alloc (.cells #[.int .i64 0, .int .i64 1, .int .i64 2, .int .i64 3] 3) = x := ⟨_, rfl⟩
  have hb : Below w11.heap.size w11 wa := by rw [← hwa]; exact (Below.refl _ _).alloc (Nat.le_refl _) _
  have HU := hide (ho.rd.below' hb)
  have HV : Hid (Rd wa .i64 (.slice (some ⟨w11.heap.size, 0, none⟩) 4 4) [0, 1, 2, 3]) := hide (by rw [← hwa]; exact rd_block w11 3 [0, 1, 2, 3] (by unfold maxLen; decide))
  obtain ⟨Ao, co, rfl, -, -, -⟩ := ho.rd
  clear ho
  have HW' := hide (HW.out.next hb)
  clear hb cx HW
  have HW := HW'
  clear HW'
  have cx := HW.out.cell
  go_wp2_with fail
  refine (k_same wa _ _ _ HU.out HV.out).mono ?_
  rintro en w12 ⟨rfl, hb⟩
  clear hwa HU HV
  have HW' := hide (HW.out.next hb)
  clear hb cx HW
  have HW := HW'
  clear HW'
  have cx := HW.out.cell
  go_wp2_with fail
  refine (k_short A c _ HW.out.gr).mono ?_
  rintro en w13 ⟨⟨ov, rfl, ho⟩, hb⟩
  have HW' := hide (HW.out.next hb)
  clear hb cx HW
  have HW := HW'
  clear HW'
  have cx := HW.out.cell
  obtain ⟨wa, hwa⟩ : ∃ x, w13.alloc (.cells #[.int .i64 0, .int .i64 1, .int .i64 3] 3) = x := ⟨_, rfl⟩
  have hb : Below w13.heap.size w13 wa := by rw [← hwa]; exact (Below.refl _ _).alloc (Nat.le_refl _) _
  have HU := hide (ho.rd.below' hb)
  have HV : Hid (Rd wa .i64 (.slice (some ⟨w13.heap.size, 0, none⟩) 3 3) [0, 1, 3]) := hide (by rw [← hwa]; exact rd_block w13 3 [0, 1, 3] (by unfold maxLen; decide))
  obtain ⟨Ao, co, rfl, -, -, -⟩ := ho.rd
  clear ho
  have HW' := hide (HW.out.next hb)
  clear hb cx HW
  have HW := HW'
  clear HW'
  have cx := HW.out.cell
  go_wp2_with fail
  refine (k_same wa _ _ _ HU.out HV.out).mono ?_
  rintro en w14 ⟨rfl, hb⟩
  clear hwa HU HV
  have HW' := hide (HW.out.next hb)
  clear hb cx HW
  have HW := HW'
  clear HW'
  have cx := HW.out.cell
  go_wp2_with fail
  refine (k_short2 A c _ HW.out.gr).mono ?_
  rintro en w15 ⟨⟨ov, rfl, ho⟩, hb⟩
  obtain ⟨Ao, co, rfl, -, -, -⟩ := ho.rd
  clear ho
  have HW' := hide (HW.out.next hb)
  clear hb cx HW
  have HW := HW'
  clear HW'
  have cx := HW.out.cell
  have d0 := HW.out.reach.cellAt (j := 0) rfl
  have d1 := HW.out.reach.cellAt (j := 1) rfl
  have d2 := HW.out.reach.cellAt (j := 2) rfl
  have d3 := HW.out.reach.cellAt (j := 3) rfl
  obtain ⟨vp, hvp⟩ : ∃ x, R2[3]? = some x := ⟨_, List.getElem?_eq_getElem (by rw [HW.out.pre.len]; decide)⟩
  have hrp := HW.out.pre.row 3 vp [1, 2] hvp rfl
  have d4 := HW.out.pre.own.cellAt hvp
  obtain ⟨Ap, cp, rfl, -, -, -⟩ := hrp.rd
  obtain ⟨wa, hwa⟩ : ∃ x, w15.alloc (.cells #[.int .i64 1, .int .i64 2] 3) = x := ⟨_, rfl⟩
  have hb : Below w15.heap.size w15 wa := by rw [← hwa]; exact (Below.refl _ _).alloc (Nat.le_refl _) _
  have HU := hide (hrp.rd.below' hb)
  have HV : Hid (Rd wa .i64 (.slice (some ⟨w15.heap.size, 0, none⟩) 2 2) [1, 2]) := hide (by rw [← hwa]; exact rd_block w15 3 [1, 2] (by unfold maxLen; decide))
  have HW' := hide (HW.out.next hb)
  clear hb cx HW hrp hvp
  have HW := HW'
  clear HW'
  go_wp2_with fail
  refine (k_same wa _ _ _ HU.out HV.out).mono ?_
  rintro en w16 ⟨rfl, hb⟩
  clear hwa HU HV d4
  have HW' := hide (HW.out.next hb)
  clear hb HW
  have HW := HW'
  clear HW'
  have cx := HW.out.cell
  clear d0 d1 d2 d3
  obtain ⟨vp, hvp⟩ : ∃ x, R3[2]? = some x := ⟨_, List.getElem?_eq_getElem (by rw [HW.out.rv.len]; decide)⟩
  have hrp := HW.out.rv.row 2 vp [0] hvp rfl
  have d4 := HW.out.rv.own.cellAt hvp
  obtain ⟨Ap, cp, rfl, -, -, -⟩ := hrp.rd
  obtain ⟨wa, hwa⟩ : ∃ x, w16.alloc (.cells #[.int .i64 0] 3) = x := ⟨_, rfl⟩
  have hb : Below w16.heap.size w16 wa := by rw [← hwa]; exact (Below.refl _ _).alloc (Nat.le_refl _) _
  have HU := hide (hrp.rd.below' hb)
  have HV : Hid (Rd wa .i64 (.slice (some ⟨w16.heap.size, 0, none⟩) 1 1) [0]) := hide (by rw [← hwa]; exact rd_block w16 3 [0] (by unfold maxLen; decide))
  have HW' := hide (HW.out.next hb)
  clear hb cx HW hrp hvp
  have HW := HW'
  clear HW'
  go_wp2_with fail
  refine (k_same wa _ _ _ HU.out HV.out).mono ?_
  rintro en w17 ⟨rfl, hb⟩
  clear hwa HU HV d4
  have HW' := hide (HW.out.next hb)
  clear hb HW
  have HW := HW'
  clear HW'
  have cx := HW.out.cell
  go_wp2_with fail
  refine (k_post2 A c _ HW.out.gr).mono ?_
  rintro en w18 ⟨rfl, hb⟩
  have HZ := hide (HW.out.next hb).below
  clear hb HW cx
  go_wp2_with fail
  go_ret
  exact ⟨rfl, HZ.out⟩
end Go.Proofs.Ytaehfohljblmoaa

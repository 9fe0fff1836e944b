/-
  ValueIntegers, layer 11 (value): operation 5.
-/
import Derived.Deep.Cut
import Derived.Test.YtjeinmccahbpgaaDoorWorks
import Derived.Test.YtjeinmccahbpgaaDoorEvI5
import Derived.Test.YtjeinmccahbpgaaDoorVEq
namespace Go.Proofs.YtjeinmccahbpgaaDoor
open Go.RowKit
attribute [-go_sem] run_eql_struct run_equalIn_agg run_neq_struct

theorem neqv_5 (t o : Int) (a b c d : LaneD) (W : World) : Sem.run Tryd.prog (binOp .neq 27 (.agg (vc t o a b c d)) (.agg (vc t o a b c d))) W = .ok (.bool false) W := by
  have h := eqv t o a b c d W
  rw [run_eql_struct] at h
  rw [run_neq_struct]
  cases hr : Sem.run Tryd.prog (Op.equalIn 10000 27 (.agg (vc t o a b c d)) (.agg (vc t o a b c d))) W with
  | ok v w' =>
    rw [hr] at h
    simp only [Result.andThen_ok, Result.ok.injEq, Value.bool.injEq] at h ⊢
    obtain ⟨rfl, rfl⟩ := h
    exact ⟨rfl, rfl⟩
  | _ => rw [hr] at h; simp [Result.andThen] at h
theorem valid3_5 (a : Int) (wa : wrapI 3 a = a) : validB 3 0 ⟨a, false, false⟩ zL zL zL = true := by
  show (true && (((okLane 3 ⟨a, false, false⟩ && zeroL zL) && zeroL zL) && zeroL zL) && true) = true
  simp [okLane, wa, zeroL, zL]
theorem evf_5 (a b : Int) (wa : wrapI 3 a = a) (wb : wrapI 3 b = b) (nw : Bool) (gs : Nat) (W : World) (hT : Tab W) (hV : ∃ T, Whole W gs T #[.int .i64 3, .int .i64 0, .int .i64 a, .bool false, .bool false, .int .i64 0, .bool false, .bool false, .int .i64 0, .bool false, .bool false, .int .i64 0, .bool false, .bool false, .int .i64 3, .int .i64 0, .int .i64 b, .bool false, .bool false, .int .i64 0, .bool false, .bool false, .int .i64 0, .bool false, .bool false, .int .i64 0, .bool false, .bool false]) : Calls Tryd.prog 28 #[.agg #[.int .i64 5, .int .i64 3, .int .i64 0, .slice none 0 0, .int .i64 0, .int .i64 0, .int .i64 0, .bool nw], .slice (some ⟨gs, 0, none⟩) 2 2] W fun e w' => e = .returned (.tuple #[.agg #[.int .i64 3, .int .i64 0, .int .i64 (combN nw (outI 3 (a + b)) (wrapI 3 (a + b))), .bool (nw && outI 3 (a + b)), .bool false, .int .i64 0, .bool false, .bool false, .int .i64 0, .bool false, .bool false, .int .i64 0, .bool false, .bool false], .int .i64 0, .int .i64 0]) ∧ Below W.heap.size W w' := by
  have := eval_5 3 0 0 0 0 a b none 0 0 gs nw W hT rfl (valid3_5 a wa) (valid3_5 b wb) hV
  have e1 : addO (laneT 3) a b = outI 3 (a + b) := by show outI 3 (wrapI 3 a + wrapI 3 b) = _; rw [wa, wb]
  have e2 : addS (laneT 3) a b = wrapI 3 (a + b) := by show wrapI 3 (wrapI 3 a + wrapI 3 b) = _; rw [wa, wb]
  rw [e1, e2] at this
  exact this
set_option maxRecDepth 100000 in
set_option maxHeartbeats 4000000 in
theorem ints_5 (op a b : Int) (hop : 0 ≤ op ∧ op < 256) (h3 : op % 3 = 0) (ha : -2147483648 ≤ a ∧ a ≤ 2147483647) (hb : -2147483648 ≤ b ∧ b ≤ 2147483647) (w : World) (hT : Tab w) (hN : w.cell? ⟨0, 5, none⟩ = some (.string ⟨#[112, 116, 114]⟩)) : Calls Tryd.prog 5 #[.int .u8 op, .int .i32 a, .int .i32 b] w fun e w' => e = .returned (.bool true) ∧ Below w.heap.size w w' := by
  have hE : -4611686018427387904 ≤ (a + b) ∧ (a + b) ≤ 4611686018427387904 := by
    omega
  have w64 : wrap64 (a + b) = (a + b) := by unfold wrap64; omega
  have wa : wrapI 3 a = a := by rw [wrapI_3]; omega
  have wb : wrapI 3 b = b := by rw [wrapI_3]; omega
  have HXA := hide (show mkInt 3 a = #[.int .i64 3, .int .i64 0, .int .i64 a, .bool false, .bool false, .int .i64 0, .bool false, .bool false, .int .i64 0, .bool false, .bool false, .int .i64 0, .bool false, .bool false] by show vc 3 0 ⟨wrapI 3 a, false, false⟩ zL zL zL = _; rw [wa]; rfl)
  have HXB := hide (show mkInt 3 b = #[.int .i64 3, .int .i64 0, .int .i64 b, .bool false, .bool false, .int .i64 0, .bool false, .bool false, .int .i64 0, .bool false, .bool false, .int .i64 0, .bool false, .bool false] by show vc 3 0 ⟨wrapI 3 b, false, false⟩ zL zL zL = _; rw [wb]; rfl)
  have HEV := hide (evf_5 a b wa wb)
  obtain ⟨E, hE0⟩ : ∃ x, (a + b) = x := ⟨_, rfl⟩
  rw [hE0] at HEV
  have hEr : -4611686018427387904 ≤ E ∧ E ≤ 4611686018427387904 := by rw [← hE0]; exact hE
  have w64E : wrap64 E = E := by unfold wrap64; omega
  have HXE := hide (show mkInt 3 E = #[.int .i64 3, .int .i64 0, .int .i64 (wrapI 3 E), .bool false, .bool false, .int .i64 0, .bool false, .bool false, .int .i64 0, .bool false, .bool false, .int .i64 0, .bool false, .bool false] from rfl)
  have HRW := hide (fun W => rwrap_any 3 E W)
  obtain ⟨S, hS⟩ : ∃ x, wrapI 3 E = x := ⟨_, rfl⟩
  obtain ⟨O, hO⟩ : ∃ x, outI 3 E = x := ⟨_, rfl⟩
  have HOS : Hid (O = !(E == S)) := hide (by
    have h := wrap_iff 3 E
    rw [← hO, ← hS, outI, Bool.eq_iff_iff]
    simp
    rw [eq_comm, h]
    omega)
  rw [hS] at HXE HRW
  rw [hO, hS] at HEV
  have HEF : Hid (∀ (gs : Nat) (W : World), Tab W → (∃ T, Whole W gs T #[.int .i64 3, .int .i64 0, .int .i64 a, .bool false, .bool false, .int .i64 0, .bool false, .bool false, .int .i64 0, .bool false, .bool false, .int .i64 0, .bool false, .bool false, .int .i64 3, .int .i64 0, .int .i64 b, .bool false, .bool false, .int .i64 0, .bool false, .bool false, .int .i64 0, .bool false, .bool false, .int .i64 0, .bool false, .bool false]) → Calls Tryd.prog 28 #[.agg #[.int .i64 5, .int .i64 3, .int .i64 0, .slice none 0 0, .int .i64 0, .int .i64 0, .int .i64 0, .bool false], .slice (some ⟨gs, 0, none⟩) 2 2] W fun e w' => e = .returned (.tuple #[.agg #[.int .i64 3, .int .i64 0, .int .i64 S, .bool false, .bool false, .int .i64 0, .bool false, .bool false, .int .i64 0, .bool false, .bool false, .int .i64 0, .bool false, .bool false], .int .i64 0, .int .i64 0]) ∧ Below W.heap.size W w') := hide (fun gs W h1 h2 => HEV.out false gs W h1 h2)
  clear hS hO
  have HT := hide hT
  have HWK := hide (fun W (hb : Below w.heap.size w W) => works_any W (hT.below hb) (names_below hN hb))
  have qn : ∀ W, Sem.run Tryd.prog (binOp .neq 27 (.agg #[.int .i64 3, .int .i64 0, .int .i64 S, .bool false, .bool false, .int .i64 0, .bool false, .bool false, .int .i64 0, .bool false, .bool false, .int .i64 0, .bool false, .bool false]) (.agg #[.int .i64 3, .int .i64 0, .int .i64 S, .bool false, .bool false, .int .i64 0, .bool false, .bool false, .int .i64 0, .bool false, .bool false, .int .i64 0, .bool false, .bool false])) W = .ok (.bool false) W := fun W => neqv_5 3 0 ⟨S, false, false⟩ zL zL zL W
  have qe : ∀ W, Sem.run Tryd.prog (binOp .eql 27 (.agg #[.int .i64 3, .int .i64 0, .int .i64 S, .bool false, .bool false, .int .i64 0, .bool false, .bool false, .int .i64 0, .bool false, .bool false, .int .i64 0, .bool false, .bool false]) (.agg #[.int .i64 3, .int .i64 0, .int .i64 S, .bool false, .bool false, .int .i64 0, .bool false, .bool false, .int .i64 0, .bool false, .bool false, .int .i64 0, .bool false, .bool false])) W = .ok (.bool true) W := fun W => eqv 3 0 ⟨S, false, false⟩ zL zL zL W
  have qp : ∀ W, Sem.run Tryd.prog (binOp .eql 27 (.agg #[.int .i64 3, .int .i64 0, .int .i64 0, .bool true, .bool false, .int .i64 0, .bool false, .bool false, .int .i64 0, .bool false, .bool false, .int .i64 0, .bool false, .bool false]) (.agg #[.int .i64 3, .int .i64 0, .int .i64 0, .bool true, .bool false, .int .i64 0, .bool false, .bool false, .int .i64 0, .bool false, .bool false, .int .i64 0, .bool false, .bool false])) W = .ok (.bool true) W := fun W => eqv 3 0 ⟨0, true, false⟩ zL zL zL W
  have HPO := hide (show mkPoison 3 = #[.int .i64 3, .int .i64 0, .int .i64 0, .bool true, .bool false, .int .i64 0, .bool false, .bool false, .int .i64 0, .bool false, .bool false, .int .i64 0, .bool false, .bool false] from rfl)
  obtain ⟨q, hq⟩ : ∃ q, w.heap.size = q := ⟨_, rfl⟩
  have HQ := hide hq
  clear hT hN wa wb hE w64
  cases O with
  | false =>
    have gES : (E == S) = true := by have := HOS.out; simpa using this
    have HET : Hid (∀ (gs : Nat) (W : World), Tab W → (∃ T, Whole W gs T #[.int .i64 3, .int .i64 0, .int .i64 a, .bool false, .bool false, .int .i64 0, .bool false, .bool false, .int .i64 0, .bool false, .bool false, .int .i64 0, .bool false, .bool false, .int .i64 3, .int .i64 0, .int .i64 b, .bool false, .bool false, .int .i64 0, .bool false, .bool false, .int .i64 0, .bool false, .bool false, .int .i64 0, .bool false, .bool false]) → Calls Tryd.prog 28 #[.agg #[.int .i64 5, .int .i64 3, .int .i64 0, .slice none 0 0, .int .i64 0, .int .i64 0, .int .i64 0, .bool true], .slice (some ⟨gs, 0, none⟩) 2 2] W fun e w' => e = .returned (.tuple #[.agg #[.int .i64 3, .int .i64 0, .int .i64 S, .bool false, .bool false, .int .i64 0, .bool false, .bool false, .int .i64 0, .bool false, .bool false, .int .i64 0, .bool false, .bool false], .int .i64 0, .int .i64 0]) ∧ Below W.heap.size W w') := hide (fun gs W h1 h2 => HEV.out true gs W h1 h2)
    clear HEV HOS
    go_enter Tryd.func5, Tryd.ntmps5
    go_upto_region 2 with fail
    obtain ⟨w1, hw1⟩ : ∃ z, w.alloc (.cells #[.int .i64 5, .int .i64 3, .int .i64 0, .slice none 0 0, .int .i64 0, .int .i64 0, .int .i64 0, .bool false] 38) = z := ⟨_, rfl⟩
    rw [hw1]
    have HI : Hid (Whole w1 q 38 #[.int .i64 5, .int .i64 3, .int .i64 0, .slice none 0 0, .int .i64 0, .int .i64 0, .int .i64 0, .bool false]) := hide (by rw [← hw1, ← hq]; exact Whole.new w _ _)
    have HB : Hid (Below w.heap.size w w1) := hide (by rw [← hw1]; exact (Below.refl _ _).alloc (Nat.le_refl _) _)
    clear hw1 hq
    have i0 : w1.cell? ⟨q, 0, none⟩ = some (.int .i64 5) := HI.out.cell 0
    go_wp2_with fail
    refine (rint_any 3 a _).mono ?_
    rintro en w2 ⟨rfl, hb⟩
    rw [HXA.out]
    replace HB := hide (Below.all HB.out hb); replace HI := hide (HI.out.below' hb)
    clear hb i0
    go_wp2_with fail
    refine (rint_any 3 b _).mono ?_
    rintro en w3 ⟨rfl, hb⟩
    rw [HXB.out]
    replace HB := hide (Below.all HB.out hb); replace HI := hide (HI.out.below' hb)
    clear hb
    have HI3 := hide HI.out
    obtain ⟨w4, hw4⟩ : ∃ z, w3.alloc (.cells #[.int .i64 3, .int .i64 0, .int .i64 a, .bool false, .bool false, .int .i64 0, .bool false, .bool false, .int .i64 0, .bool false, .bool false, .int .i64 0, .bool false, .bool false, .int .i64 3, .int .i64 0, .int .i64 b, .bool false, .bool false, .int .i64 0, .bool false, .bool false, .int .i64 0, .bool false, .bool false, .int .i64 0, .bool false, .bool false] 27) = z := ⟨_, rfl⟩
    have HV : Hid (Whole w4 w3.heap.size 27 #[.int .i64 3, .int .i64 0, .int .i64 a, .bool false, .bool false, .int .i64 0, .bool false, .bool false, .int .i64 0, .bool false, .bool false, .int .i64 0, .bool false, .bool false, .int .i64 3, .int .i64 0, .int .i64 b, .bool false, .bool false, .int .i64 0, .bool false, .bool false, .int .i64 0, .bool false, .bool false, .int .i64 0, .bool false, .bool false]) := hide (by rw [← hw4]; exact Whole.new w3 _ _)
    have hb4 : Below w3.heap.size w3 w4 := by rw [← hw4]; exact (Below.refl _ _).alloc (Nat.le_refl _) _
    replace HB := hide (Below.all HB.out hb4); replace HI := hide (HI.out.below' hb4)
    clear hb4
    have i0 : w4.cell? ⟨q, 0, none⟩ = some (.int .i64 5) := HI.out.cell 0
    have i1 : w4.cell? ⟨q, 1, none⟩ = some (.int .i64 3) := HI.out.cell 1
    have i2 : w4.cell? ⟨q, 2, none⟩ = some (.int .i64 0) := HI.out.cell 2
    have i3 : w4.cell? ⟨q, 3, none⟩ = some (.slice none 0 0) := HI.out.cell 3
    have i4 : w4.cell? ⟨q, 4, none⟩ = some (.int .i64 0) := HI.out.cell 4
    have i5 : w4.cell? ⟨q, 5, none⟩ = some (.int .i64 0) := HI.out.cell 5
    have i6 : w4.cell? ⟨q, 6, none⟩ = some (.int .i64 0) := HI.out.cell 6
    have i7 : w4.cell? ⟨q, 7, none⟩ = some (.bool false) := HI.out.cell 7
    go_wp2_with fail
    refine (HEF.out _ _ (HT.out.below HB.out) ⟨_, HV.out⟩).mono ?_
    rintro en w5 ⟨rfl, hb⟩
    replace HB := hide (Below.all HB.out hb); replace HI := hide (HI.out.below' hb); replace HV := hide (HV.out.below' hb)
    clear hb hw4 i0 i1 i2 i3 i4 i5 i6 i7
    have hq3 : w3.heap.size ≠ q := by have := HI3.out.lt; omega
    have i0 : w5.cell? ⟨q, 0, none⟩ = some (.int .i64 5) := HI.out.cell 0
    have i1 : w5.cell? ⟨q, 1, none⟩ = some (.int .i64 3) := HI.out.cell 1
    have i2 : w5.cell? ⟨q, 2, none⟩ = some (.int .i64 0) := HI.out.cell 2
    have i3 : w5.cell? ⟨q, 3, none⟩ = some (.slice none 0 0) := HI.out.cell 3
    have i4 : w5.cell? ⟨q, 4, none⟩ = some (.int .i64 0) := HI.out.cell 4
    have i5 : w5.cell? ⟨q, 5, none⟩ = some (.int .i64 0) := HI.out.cell 5
    have i6 : w5.cell? ⟨q, 6, none⟩ = some (.int .i64 0) := HI.out.cell 6
    have i7 : w5.cell? ⟨q, 7, none⟩ = some (.bool false) := HI.out.cell 7
    have z7 : w5.frozen? ⟨q, 7, none⟩ = false := HI.out.free 7
    have hqn : q < w5.heap.size := HI.out.lt
    obtain ⟨w6, hw6⟩ : ∃ z, (w5.setCell ⟨q, 7, none⟩ (.bool true)).alloc (.cells #[.int .i64 3, .int .i64 0, .int .i64 S, .bool false, .bool false, .int .i64 0, .bool false, .bool false, .int .i64 0, .bool false, .bool false, .int .i64 0, .bool false, .bool false] 27) = z := ⟨_, rfl⟩
    have HI6 : Hid (Whole w6 q 38 #[.int .i64 5, .int .i64 3, .int .i64 0, .slice none 0 0, .int .i64 0, .int .i64 0, .int .i64 0, .bool true]) := hide (by rw [← hw6]; exact (HI.out.set 7 (.bool true)).alloc _)
    have HV6 : Hid (Whole w6 w3.heap.size 27 #[.int .i64 3, .int .i64 0, .int .i64 a, .bool false, .bool false, .int .i64 0, .bool false, .bool false, .int .i64 0, .bool false, .bool false, .int .i64 0, .bool false, .bool false, .int .i64 3, .int .i64 0, .int .i64 b, .bool false, .bool false, .int .i64 0, .bool false, .bool false, .int .i64 0, .bool false, .bool false, .int .i64 0, .bool false, .bool false]) := hide (by rw [← hw6]; exact (HV.out.far (by simp; omega) _).alloc _)
    have HS6 : Hid (Whole w6 w5.heap.size 27 #[.int .i64 3, .int .i64 0, .int .i64 S, .bool false, .bool false, .int .i64 0, .bool false, .bool false, .int .i64 0, .bool false, .bool false, .int .i64 0, .bool false, .bool false]) := hide (by rw [← hw6]; have h0 := Whole.new (w5.setCell ⟨q, 7, none⟩ (.bool true)) 27 #[.int .i64 3, .int .i64 0, .int .i64 S, .bool false, .bool false, .int .i64 0, .bool false, .bool false, .int .i64 0, .bool false, .bool false, .int .i64 0, .bool false, .bool false]; simpa using h0)
    have HB6 : Hid (Below w.heap.size w w6) := hide (by rw [← hw6]; exact (HB.out.setCell (p := ⟨q, 7, none⟩) (by rw [HQ.out]; exact Nat.le_refl _) _).alloc (by simpa using HB.out.size) _)
    clear HI HV HB
    have j0 : w6.cell? ⟨q, 0, none⟩ = some (.int .i64 5) := HI6.out.cell 0
    have j1 : w6.cell? ⟨q, 1, none⟩ = some (.int .i64 3) := HI6.out.cell 1
    have j2 : w6.cell? ⟨q, 2, none⟩ = some (.int .i64 0) := HI6.out.cell 2
    have j3 : w6.cell? ⟨q, 3, none⟩ = some (.slice none 0 0) := HI6.out.cell 3
    have j4 : w6.cell? ⟨q, 4, none⟩ = some (.int .i64 0) := HI6.out.cell 4
    have j5 : w6.cell? ⟨q, 5, none⟩ = some (.int .i64 0) := HI6.out.cell 5
    have j6 : w6.cell? ⟨q, 6, none⟩ = some (.int .i64 0) := HI6.out.cell 6
    have j7 : w6.cell? ⟨q, 7, none⟩ = some (.bool true) := HI6.out.cell 7
    go_wp2_with fail
    refine (HET.out _ _ (HT.out.below HB6.out) ⟨_, HV6.out⟩).mono ?_
    rintro en w7 ⟨rfl, hb⟩
    have HB := hide (Below.all HB6.out hb); have HS := hide (HS6.out.below' hb)
    clear hb hw6 HI6 HV6 HS6 HB6 i0 i1 i2 i3 i4 i5 i6 i7 j0 j1 j2 j3 j4 j5 j6 j7 z7 hqn hq3
    go_upto_region 12 with fail
    obtain ⟨w8, hw8⟩ : ∃ z, w7.alloc (.cells #[.int .i64 3, .int .i64 0, .int .i64 S, .bool false, .bool false, .int .i64 0, .bool false, .bool false, .int .i64 0, .bool false, .bool false, .int .i64 0, .bool false, .bool false] 27) = z := ⟨_, rfl⟩
    rw [hw8]
    have HR : Hid (Whole w8 w7.heap.size 27 #[.int .i64 3, .int .i64 0, .int .i64 S, .bool false, .bool false, .int .i64 0, .bool false, .bool false, .int .i64 0, .bool false, .bool false, .int .i64 0, .bool false, .bool false]) := hide (by rw [← hw8]; exact Whole.new w7 _ _)
    have hb8 : Below w7.heap.size w7 w8 := by rw [← hw8]; exact (Below.refl _ _).alloc (Nat.le_refl _) _
    replace HB := hide (Below.all HB.out hb8); replace HS := hide (HS.out.below' hb8)
    clear hb8 hw8
    have HB9 : Hid (Below w.heap.size w w8.drew) := hide HB.out.drew
    have HS9 : Hid (Whole w8.drew w5.heap.size 27 #[.int .i64 3, .int .i64 0, .int .i64 S, .bool false, .bool false, .int .i64 0, .bool false, .bool false, .int .i64 0, .bool false, .bool false, .int .i64 0, .bool false, .bool false]) := hide (HS.out.drewN 1)
    have HR9 : Hid (Whole w8.drew w7.heap.size 27 #[.int .i64 3, .int .i64 0, .int .i64 S, .bool false, .bool false, .int .i64 0, .bool false, .bool false, .int .i64 0, .bool false, .bool false, .int .i64 0, .bool false, .bool false]) := hide (HR.out.drewN 1)
    clear HB HS HR
    go_region_held3 (fun w' => w'.cell? ⟨w5.heap.size, 0, none⟩ = some (.int .i64 3) ∧ w'.cell? ⟨w5.heap.size, 1, none⟩ = some (.int .i64 0) ∧ w'.cell? ⟨w5.heap.size, 2, none⟩ = some (.int .i64 S) ∧ w'.cell? ⟨w5.heap.size, 3, none⟩ = some (.bool false) ∧ w'.cell? ⟨w5.heap.size, 4, none⟩ = some (.bool false) ∧ w'.cell? ⟨w5.heap.size, 5, none⟩ = some (.int .i64 0) ∧ w'.cell? ⟨w5.heap.size, 6, none⟩ = some (.bool false) ∧ w'.cell? ⟨w5.heap.size, 7, none⟩ = some (.bool false) ∧ w'.cell? ⟨w5.heap.size, 8, none⟩ = some (.int .i64 0) ∧ w'.cell? ⟨w5.heap.size, 9, none⟩ = some (.bool false) ∧ w'.cell? ⟨w5.heap.size, 10, none⟩ = some (.bool false) ∧ w'.cell? ⟨w5.heap.size, 11, none⟩ = some (.int .i64 0) ∧ w'.cell? ⟨w5.heap.size, 12, none⟩ = some (.bool false) ∧ w'.cell? ⟨w5.heap.size, 13, none⟩ = some (.bool false)) (exact ⟨HS9.out.cell 0, HS9.out.cell 1, HS9.out.cell 2, HS9.out.cell 3, HS9.out.cell 4, HS9.out.cell 5, HS9.out.cell 6, HS9.out.cell 7, HS9.out.cell 8, HS9.out.cell 9, HS9.out.cell 10, HS9.out.cell 11, HS9.out.cell 12, HS9.out.cell 13⟩) (first | (go_at_call 14; refine (rint_any 3 E _).mono ?_; rintro en wn ⟨rfl, hb⟩; rw [HXE.out]; replace HB9 := hide (Below.all HB9.out hb); replace HS9 := hide (HS9.out.below' hb); replace HR9 := hide (HR9.out.below' hb); clear hb))
    all_goals
      have y0 : wn.cell? ⟨w5.heap.size, 0, none⟩ = some (.int .i64 3) := HS9.out.cell 0
      have y1 : wn.cell? ⟨w5.heap.size, 1, none⟩ = some (.int .i64 0) := HS9.out.cell 1
      have y2 : wn.cell? ⟨w5.heap.size, 2, none⟩ = some (.int .i64 S) := HS9.out.cell 2
      have y3 : wn.cell? ⟨w5.heap.size, 3, none⟩ = some (.bool false) := HS9.out.cell 3
      have y4 : wn.cell? ⟨w5.heap.size, 4, none⟩ = some (.bool false) := HS9.out.cell 4
      have y5 : wn.cell? ⟨w5.heap.size, 5, none⟩ = some (.int .i64 0) := HS9.out.cell 5
      have y6 : wn.cell? ⟨w5.heap.size, 6, none⟩ = some (.bool false) := HS9.out.cell 6
      have y7 : wn.cell? ⟨w5.heap.size, 7, none⟩ = some (.bool false) := HS9.out.cell 7
      have y8 : wn.cell? ⟨w5.heap.size, 8, none⟩ = some (.int .i64 0) := HS9.out.cell 8
      have y9 : wn.cell? ⟨w5.heap.size, 9, none⟩ = some (.bool false) := HS9.out.cell 9
      have y10 : wn.cell? ⟨w5.heap.size, 10, none⟩ = some (.bool false) := HS9.out.cell 10
      have y11 : wn.cell? ⟨w5.heap.size, 11, none⟩ = some (.int .i64 0) := HS9.out.cell 11
      have y12 : wn.cell? ⟨w5.heap.size, 12, none⟩ = some (.bool false) := HS9.out.cell 12
      have y13 : wn.cell? ⟨w5.heap.size, 13, none⟩ = some (.bool false) := HS9.out.cell 13
      have x0 : wn.cell? ⟨w7.heap.size, 0, none⟩ = some (.int .i64 3) := HR9.out.cell 0
      have x1 : wn.cell? ⟨w7.heap.size, 1, none⟩ = some (.int .i64 0) := HR9.out.cell 1
      have x2 : wn.cell? ⟨w7.heap.size, 2, none⟩ = some (.int .i64 S) := HR9.out.cell 2
      have x3 : wn.cell? ⟨w7.heap.size, 3, none⟩ = some (.bool false) := HR9.out.cell 3
      have x4 : wn.cell? ⟨w7.heap.size, 4, none⟩ = some (.bool false) := HR9.out.cell 4
      have x5 : wn.cell? ⟨w7.heap.size, 5, none⟩ = some (.int .i64 0) := HR9.out.cell 5
      have x6 : wn.cell? ⟨w7.heap.size, 6, none⟩ = some (.bool false) := HR9.out.cell 6
      have x7 : wn.cell? ⟨w7.heap.size, 7, none⟩ = some (.bool false) := HR9.out.cell 7
      have x8 : wn.cell? ⟨w7.heap.size, 8, none⟩ = some (.int .i64 0) := HR9.out.cell 8
      have x9 : wn.cell? ⟨w7.heap.size, 9, none⟩ = some (.bool false) := HR9.out.cell 9
      have x10 : wn.cell? ⟨w7.heap.size, 10, none⟩ = some (.bool false) := HR9.out.cell 10
      have x11 : wn.cell? ⟨w7.heap.size, 11, none⟩ = some (.int .i64 0) := HR9.out.cell 11
      have x12 : wn.cell? ⟨w7.heap.size, 12, none⟩ = some (.bool false) := HR9.out.cell 12
      have x13 : wn.cell? ⟨w7.heap.size, 13, none⟩ = some (.bool false) := HR9.out.cell 13
      go_wp2_with fail
      refine (HRW.out _).mono ?_
      rintro en wm ⟨rfl, rfl⟩
      go_wp2_with fail
      refine (HWK.out _ HB9.out).mono ?_
      rintro en w10 ⟨rfl, hb⟩
      replace HB9 := hide (Below.all HB9.out hb)
      clear hb
      go_wp2_with fail
      go_ret
      exact ⟨rfl, HB9.out⟩
  | true =>
    have gES : (E == S) = false := by have := HOS.out; simpa using this
    have HET : Hid (∀ (gs : Nat) (W : World), Tab W → (∃ T, Whole W gs T #[.int .i64 3, .int .i64 0, .int .i64 a, .bool false, .bool false, .int .i64 0, .bool false, .bool false, .int .i64 0, .bool false, .bool false, .int .i64 0, .bool false, .bool false, .int .i64 3, .int .i64 0, .int .i64 b, .bool false, .bool false, .int .i64 0, .bool false, .bool false, .int .i64 0, .bool false, .bool false, .int .i64 0, .bool false, .bool false]) → Calls Tryd.prog 28 #[.agg #[.int .i64 5, .int .i64 3, .int .i64 0, .slice none 0 0, .int .i64 0, .int .i64 0, .int .i64 0, .bool true], .slice (some ⟨gs, 0, none⟩) 2 2] W fun e w' => e = .returned (.tuple #[.agg #[.int .i64 3, .int .i64 0, .int .i64 0, .bool true, .bool false, .int .i64 0, .bool false, .bool false, .int .i64 0, .bool false, .bool false, .int .i64 0, .bool false, .bool false], .int .i64 0, .int .i64 0]) ∧ Below W.heap.size W w') := hide (fun gs W h1 h2 => HEV.out true gs W h1 h2)
    clear HEV HOS
    go_enter Tryd.func5, Tryd.ntmps5
    go_upto_region 2 with fail
    obtain ⟨w1, hw1⟩ : ∃ z, w.alloc (.cells #[.int .i64 5, .int .i64 3, .int .i64 0, .slice none 0 0, .int .i64 0, .int .i64 0, .int .i64 0, .bool false] 38) = z := ⟨_, rfl⟩
    rw [hw1]
    have HI : Hid (Whole w1 q 38 #[.int .i64 5, .int .i64 3, .int .i64 0, .slice none 0 0, .int .i64 0, .int .i64 0, .int .i64 0, .bool false]) := hide (by rw [← hw1, ← hq]; exact Whole.new w _ _)
    have HB : Hid (Below w.heap.size w w1) := hide (by rw [← hw1]; exact (Below.refl _ _).alloc (Nat.le_refl _) _)
    clear hw1 hq
    have i0 : w1.cell? ⟨q, 0, none⟩ = some (.int .i64 5) := HI.out.cell 0
    go_wp2_with fail
    refine (rint_any 3 a _).mono ?_
    rintro en w2 ⟨rfl, hb⟩
    rw [HXA.out]
    replace HB := hide (Below.all HB.out hb); replace HI := hide (HI.out.below' hb)
    clear hb i0
    go_wp2_with fail
    refine (rint_any 3 b _).mono ?_
    rintro en w3 ⟨rfl, hb⟩
    rw [HXB.out]
    replace HB := hide (Below.all HB.out hb); replace HI := hide (HI.out.below' hb)
    clear hb
    have HI3 := hide HI.out
    obtain ⟨w4, hw4⟩ : ∃ z, w3.alloc (.cells #[.int .i64 3, .int .i64 0, .int .i64 a, .bool false, .bool false, .int .i64 0, .bool false, .bool false, .int .i64 0, .bool false, .bool false, .int .i64 0, .bool false, .bool false, .int .i64 3, .int .i64 0, .int .i64 b, .bool false, .bool false, .int .i64 0, .bool false, .bool false, .int .i64 0, .bool false, .bool false, .int .i64 0, .bool false, .bool false] 27) = z := ⟨_, rfl⟩
    have HV : Hid (Whole w4 w3.heap.size 27 #[.int .i64 3, .int .i64 0, .int .i64 a, .bool false, .bool false, .int .i64 0, .bool false, .bool false, .int .i64 0, .bool false, .bool false, .int .i64 0, .bool false, .bool false, .int .i64 3, .int .i64 0, .int .i64 b, .bool false, .bool false, .int .i64 0, .bool false, .bool false, .int .i64 0, .bool false, .bool false, .int .i64 0, .bool false, .bool false]) := hide (by rw [← hw4]; exact Whole.new w3 _ _)
    have hb4 : Below w3.heap.size w3 w4 := by rw [← hw4]; exact (Below.refl _ _).alloc (Nat.le_refl _) _
    replace HB := hide (Below.all HB.out hb4); replace HI := hide (HI.out.below' hb4)
    clear hb4
    have i0 : w4.cell? ⟨q, 0, none⟩ = some (.int .i64 5) := HI.out.cell 0
    have i1 : w4.cell? ⟨q, 1, none⟩ = some (.int .i64 3) := HI.out.cell 1
    have i2 : w4.cell? ⟨q, 2, none⟩ = some (.int .i64 0) := HI.out.cell 2
    have i3 : w4.cell? ⟨q, 3, none⟩ = some (.slice none 0 0) := HI.out.cell 3
    have i4 : w4.cell? ⟨q, 4, none⟩ = some (.int .i64 0) := HI.out.cell 4
    have i5 : w4.cell? ⟨q, 5, none⟩ = some (.int .i64 0) := HI.out.cell 5
    have i6 : w4.cell? ⟨q, 6, none⟩ = some (.int .i64 0) := HI.out.cell 6
    have i7 : w4.cell? ⟨q, 7, none⟩ = some (.bool false) := HI.out.cell 7
    go_wp2_with fail
    refine (HEF.out _ _ (HT.out.below HB.out) ⟨_, HV.out⟩).mono ?_
    rintro en w5 ⟨rfl, hb⟩
    replace HB := hide (Below.all HB.out hb); replace HI := hide (HI.out.below' hb); replace HV := hide (HV.out.below' hb)
    clear hb hw4 i0 i1 i2 i3 i4 i5 i6 i7
    have hq3 : w3.heap.size ≠ q := by have := HI3.out.lt; omega
    have i0 : w5.cell? ⟨q, 0, none⟩ = some (.int .i64 5) := HI.out.cell 0
    have i1 : w5.cell? ⟨q, 1, none⟩ = some (.int .i64 3) := HI.out.cell 1
    have i2 : w5.cell? ⟨q, 2, none⟩ = some (.int .i64 0) := HI.out.cell 2
    have i3 : w5.cell? ⟨q, 3, none⟩ = some (.slice none 0 0) := HI.out.cell 3
    have i4 : w5.cell? ⟨q, 4, none⟩ = some (.int .i64 0) := HI.out.cell 4
    have i5 : w5.cell? ⟨q, 5, none⟩ = some (.int .i64 0) := HI.out.cell 5
    have i6 : w5.cell? ⟨q, 6, none⟩ = some (.int .i64 0) := HI.out.cell 6
    have i7 : w5.cell? ⟨q, 7, none⟩ = some (.bool false) := HI.out.cell 7
    have z7 : w5.frozen? ⟨q, 7, none⟩ = false := HI.out.free 7
    have hqn : q < w5.heap.size := HI.out.lt
    obtain ⟨w6, hw6⟩ : ∃ z, (w5.setCell ⟨q, 7, none⟩ (.bool true)).alloc (.cells #[.int .i64 3, .int .i64 0, .int .i64 S, .bool false, .bool false, .int .i64 0, .bool false, .bool false, .int .i64 0, .bool false, .bool false, .int .i64 0, .bool false, .bool false] 27) = z := ⟨_, rfl⟩
    have HI6 : Hid (Whole w6 q 38 #[.int .i64 5, .int .i64 3, .int .i64 0, .slice none 0 0, .int .i64 0, .int .i64 0, .int .i64 0, .bool true]) := hide (by rw [← hw6]; exact (HI.out.set 7 (.bool true)).alloc _)
    have HV6 : Hid (Whole w6 w3.heap.size 27 #[.int .i64 3, .int .i64 0, .int .i64 a, .bool false, .bool false, .int .i64 0, .bool false, .bool false, .int .i64 0, .bool false, .bool false, .int .i64 0, .bool false, .bool false, .int .i64 3, .int .i64 0, .int .i64 b, .bool false, .bool false, .int .i64 0, .bool false, .bool false, .int .i64 0, .bool false, .bool false, .int .i64 0, .bool false, .bool false]) := hide (by rw [← hw6]; exact (HV.out.far (by simp; omega) _).alloc _)
    have HS6 : Hid (Whole w6 w5.heap.size 27 #[.int .i64 3, .int .i64 0, .int .i64 S, .bool false, .bool false, .int .i64 0, .bool false, .bool false, .int .i64 0, .bool false, .bool false, .int .i64 0, .bool false, .bool false]) := hide (by rw [← hw6]; have h0 := Whole.new (w5.setCell ⟨q, 7, none⟩ (.bool true)) 27 #[.int .i64 3, .int .i64 0, .int .i64 S, .bool false, .bool false, .int .i64 0, .bool false, .bool false, .int .i64 0, .bool false, .bool false, .int .i64 0, .bool false, .bool false]; simpa using h0)
    have HB6 : Hid (Below w.heap.size w w6) := hide (by rw [← hw6]; exact (HB.out.setCell (p := ⟨q, 7, none⟩) (by rw [HQ.out]; exact Nat.le_refl _) _).alloc (by simpa using HB.out.size) _)
    clear HI HV HB
    have j0 : w6.cell? ⟨q, 0, none⟩ = some (.int .i64 5) := HI6.out.cell 0
    have j1 : w6.cell? ⟨q, 1, none⟩ = some (.int .i64 3) := HI6.out.cell 1
    have j2 : w6.cell? ⟨q, 2, none⟩ = some (.int .i64 0) := HI6.out.cell 2
    have j3 : w6.cell? ⟨q, 3, none⟩ = some (.slice none 0 0) := HI6.out.cell 3
    have j4 : w6.cell? ⟨q, 4, none⟩ = some (.int .i64 0) := HI6.out.cell 4
    have j5 : w6.cell? ⟨q, 5, none⟩ = some (.int .i64 0) := HI6.out.cell 5
    have j6 : w6.cell? ⟨q, 6, none⟩ = some (.int .i64 0) := HI6.out.cell 6
    have j7 : w6.cell? ⟨q, 7, none⟩ = some (.bool true) := HI6.out.cell 7
    go_wp2_with fail
    refine (HET.out _ _ (HT.out.below HB6.out) ⟨_, HV6.out⟩).mono ?_
    rintro en w7 ⟨rfl, hb⟩
    have HB := hide (Below.all HB6.out hb); have HS := hide (HS6.out.below' hb)
    clear hb hw6 HI6 HV6 HS6 HB6 i0 i1 i2 i3 i4 i5 i6 i7 j0 j1 j2 j3 j4 j5 j6 j7 z7 hqn hq3
    go_upto_region 12 with fail
    obtain ⟨w8, hw8⟩ : ∃ z, w7.alloc (.cells #[.int .i64 3, .int .i64 0, .int .i64 0, .bool true, .bool false, .int .i64 0, .bool false, .bool false, .int .i64 0, .bool false, .bool false, .int .i64 0, .bool false, .bool false] 27) = z := ⟨_, rfl⟩
    rw [hw8]
    have HR : Hid (Whole w8 w7.heap.size 27 #[.int .i64 3, .int .i64 0, .int .i64 0, .bool true, .bool false, .int .i64 0, .bool false, .bool false, .int .i64 0, .bool false, .bool false, .int .i64 0, .bool false, .bool false]) := hide (by rw [← hw8]; exact Whole.new w7 _ _)
    have hb8 : Below w7.heap.size w7 w8 := by rw [← hw8]; exact (Below.refl _ _).alloc (Nat.le_refl _) _
    replace HB := hide (Below.all HB.out hb8); replace HS := hide (HS.out.below' hb8)
    clear hb8 hw8
    have HB9 : Hid (Below w.heap.size w w8.drew) := hide HB.out.drew
    have HS9 : Hid (Whole w8.drew w5.heap.size 27 #[.int .i64 3, .int .i64 0, .int .i64 S, .bool false, .bool false, .int .i64 0, .bool false, .bool false, .int .i64 0, .bool false, .bool false, .int .i64 0, .bool false, .bool false]) := hide (HS.out.drewN 1)
    have HR9 : Hid (Whole w8.drew w7.heap.size 27 #[.int .i64 3, .int .i64 0, .int .i64 0, .bool true, .bool false, .int .i64 0, .bool false, .bool false, .int .i64 0, .bool false, .bool false, .int .i64 0, .bool false, .bool false]) := hide (HR.out.drewN 1)
    clear HB HS HR
    go_region_held3 (fun w' => w'.cell? ⟨w5.heap.size, 0, none⟩ = some (.int .i64 3) ∧ w'.cell? ⟨w5.heap.size, 1, none⟩ = some (.int .i64 0) ∧ w'.cell? ⟨w5.heap.size, 2, none⟩ = some (.int .i64 S) ∧ w'.cell? ⟨w5.heap.size, 3, none⟩ = some (.bool false) ∧ w'.cell? ⟨w5.heap.size, 4, none⟩ = some (.bool false) ∧ w'.cell? ⟨w5.heap.size, 5, none⟩ = some (.int .i64 0) ∧ w'.cell? ⟨w5.heap.size, 6, none⟩ = some (.bool false) ∧ w'.cell? ⟨w5.heap.size, 7, none⟩ = some (.bool false) ∧ w'.cell? ⟨w5.heap.size, 8, none⟩ = some (.int .i64 0) ∧ w'.cell? ⟨w5.heap.size, 9, none⟩ = some (.bool false) ∧ w'.cell? ⟨w5.heap.size, 10, none⟩ = some (.bool false) ∧ w'.cell? ⟨w5.heap.size, 11, none⟩ = some (.int .i64 0) ∧ w'.cell? ⟨w5.heap.size, 12, none⟩ = some (.bool false) ∧ w'.cell? ⟨w5.heap.size, 13, none⟩ = some (.bool false)) (exact ⟨HS9.out.cell 0, HS9.out.cell 1, HS9.out.cell 2, HS9.out.cell 3, HS9.out.cell 4, HS9.out.cell 5, HS9.out.cell 6, HS9.out.cell 7, HS9.out.cell 8, HS9.out.cell 9, HS9.out.cell 10, HS9.out.cell 11, HS9.out.cell 12, HS9.out.cell 13⟩) (first | (go_at_call 14; refine (rint_any 3 E _).mono ?_; rintro en wn ⟨rfl, hb⟩; rw [HXE.out]; replace HB9 := hide (Below.all HB9.out hb); replace HS9 := hide (HS9.out.below' hb); replace HR9 := hide (HR9.out.below' hb); clear hb))
    all_goals
      have y0 : wn.cell? ⟨w5.heap.size, 0, none⟩ = some (.int .i64 3) := HS9.out.cell 0
      have y1 : wn.cell? ⟨w5.heap.size, 1, none⟩ = some (.int .i64 0) := HS9.out.cell 1
      have y2 : wn.cell? ⟨w5.heap.size, 2, none⟩ = some (.int .i64 S) := HS9.out.cell 2
      have y3 : wn.cell? ⟨w5.heap.size, 3, none⟩ = some (.bool false) := HS9.out.cell 3
      have y4 : wn.cell? ⟨w5.heap.size, 4, none⟩ = some (.bool false) := HS9.out.cell 4
      have y5 : wn.cell? ⟨w5.heap.size, 5, none⟩ = some (.int .i64 0) := HS9.out.cell 5
      have y6 : wn.cell? ⟨w5.heap.size, 6, none⟩ = some (.bool false) := HS9.out.cell 6
      have y7 : wn.cell? ⟨w5.heap.size, 7, none⟩ = some (.bool false) := HS9.out.cell 7
      have y8 : wn.cell? ⟨w5.heap.size, 8, none⟩ = some (.int .i64 0) := HS9.out.cell 8
      have y9 : wn.cell? ⟨w5.heap.size, 9, none⟩ = some (.bool false) := HS9.out.cell 9
      have y10 : wn.cell? ⟨w5.heap.size, 10, none⟩ = some (.bool false) := HS9.out.cell 10
      have y11 : wn.cell? ⟨w5.heap.size, 11, none⟩ = some (.int .i64 0) := HS9.out.cell 11
      have y12 : wn.cell? ⟨w5.heap.size, 12, none⟩ = some (.bool false) := HS9.out.cell 12
      have y13 : wn.cell? ⟨w5.heap.size, 13, none⟩ = some (.bool false) := HS9.out.cell 13
      have x0 : wn.cell? ⟨w7.heap.size, 0, none⟩ = some (.int .i64 3) := HR9.out.cell 0
      have x1 : wn.cell? ⟨w7.heap.size, 1, none⟩ = some (.int .i64 0) := HR9.out.cell 1
      have x2 : wn.cell? ⟨w7.heap.size, 2, none⟩ = some (.int .i64 0) := HR9.out.cell 2
      have x3 : wn.cell? ⟨w7.heap.size, 3, none⟩ = some (.bool true) := HR9.out.cell 3
      have x4 : wn.cell? ⟨w7.heap.size, 4, none⟩ = some (.bool false) := HR9.out.cell 4
      have x5 : wn.cell? ⟨w7.heap.size, 5, none⟩ = some (.int .i64 0) := HR9.out.cell 5
      have x6 : wn.cell? ⟨w7.heap.size, 6, none⟩ = some (.bool false) := HR9.out.cell 6
      have x7 : wn.cell? ⟨w7.heap.size, 7, none⟩ = some (.bool false) := HR9.out.cell 7
      have x8 : wn.cell? ⟨w7.heap.size, 8, none⟩ = some (.int .i64 0) := HR9.out.cell 8
      have x9 : wn.cell? ⟨w7.heap.size, 9, none⟩ = some (.bool false) := HR9.out.cell 9
      have x10 : wn.cell? ⟨w7.heap.size, 10, none⟩ = some (.bool false) := HR9.out.cell 10
      have x11 : wn.cell? ⟨w7.heap.size, 11, none⟩ = some (.int .i64 0) := HR9.out.cell 11
      have x12 : wn.cell? ⟨w7.heap.size, 12, none⟩ = some (.bool false) := HR9.out.cell 12
      have x13 : wn.cell? ⟨w7.heap.size, 13, none⟩ = some (.bool false) := HR9.out.cell 13
      go_wp2_with fail
      refine (HRW.out _).mono ?_
      rintro en wm ⟨rfl, rfl⟩
      go_upto_region 16 with fail
      replace HB9 : Hid (Below w.heap.size w wn.drew) := hide HB9.out.drew
      replace HR9 : Hid (Whole wn.drew w7.heap.size 27 #[.int .i64 3, .int .i64 0, .int .i64 0, .bool true, .bool false, .int .i64 0, .bool false, .bool false, .int .i64 0, .bool false, .bool false, .int .i64 0, .bool false, .bool false]) := hide (HR9.out.drewN 1)
      go_region_held3 (fun w' => w'.cell? ⟨w7.heap.size, 0, none⟩ = some (.int .i64 3) ∧ w'.cell? ⟨w7.heap.size, 1, none⟩ = some (.int .i64 0) ∧ w'.cell? ⟨w7.heap.size, 2, none⟩ = some (.int .i64 0) ∧ w'.cell? ⟨w7.heap.size, 3, none⟩ = some (.bool true) ∧ w'.cell? ⟨w7.heap.size, 4, none⟩ = some (.bool false) ∧ w'.cell? ⟨w7.heap.size, 5, none⟩ = some (.int .i64 0) ∧ w'.cell? ⟨w7.heap.size, 6, none⟩ = some (.bool false) ∧ w'.cell? ⟨w7.heap.size, 7, none⟩ = some (.bool false) ∧ w'.cell? ⟨w7.heap.size, 8, none⟩ = some (.int .i64 0) ∧ w'.cell? ⟨w7.heap.size, 9, none⟩ = some (.bool false) ∧ w'.cell? ⟨w7.heap.size, 10, none⟩ = some (.bool false) ∧ w'.cell? ⟨w7.heap.size, 11, none⟩ = some (.int .i64 0) ∧ w'.cell? ⟨w7.heap.size, 12, none⟩ = some (.bool false) ∧ w'.cell? ⟨w7.heap.size, 13, none⟩ = some (.bool false)) (exact ⟨HR9.out.cell 0, HR9.out.cell 1, HR9.out.cell 2, HR9.out.cell 3, HR9.out.cell 4, HR9.out.cell 5, HR9.out.cell 6, HR9.out.cell 7, HR9.out.cell 8, HR9.out.cell 9, HR9.out.cell 10, HR9.out.cell 11, HR9.out.cell 12, HR9.out.cell 13⟩) (first | (go_at_call 16; refine (rpoison_any 3 _).mono ?_; rintro en wp ⟨rfl, hb⟩; rw [HPO.out]; replace HB9 := hide (Below.all HB9.out hb); replace HR9 := hide (HR9.out.below' hb); clear hb) | (go_at_call 21; refine (HWK.out _ HB9.out).mono ?_; rintro en wp ⟨rfl, hb⟩; replace HB9 := hide (Below.all HB9.out hb); replace HR9 := hide (HR9.out.below' hb); clear hb))
      all_goals
        go_wp2_with fail
        go_ret
        exact ⟨rfl, HB9.out⟩
end Go.Proofs.YtjeinmccahbpgaaDoor

/-
  Layer 23 (expr): the text of a node, of the program.
-/
import Derived.Laws.Concat
import Derived.Deep.RegionHeld3
import Derived.Test.YtnhaanjpcnnifaaDoorExT
import Derived.Test.YtnhaanjpcnnifaaDoorExG
namespace Go.Proofs.YtnhaanjpcnnifaaDoor
open Go.RowKit Go.Deep
attribute [-go_sem] run_string_add_if

/-- A string of these bytes. -/
def bsE (l : List UInt8) : ByteArray := ⟨l.toArray⟩
theorem bsE_list (l : List UInt8) : (bsE l).toList = l := by rw [Go.ByteArray.toList_eq]; simp [bsE]
theorem bsE_empty {l : List UInt8} (h : l ≠ []) : (bsE l).toList.isEmpty = false := by
  rw [bsE_list]
  cases l with
  | nil => exact absurd rfl h
  | cons a r => rfl
theorem catE (a b : List UInt8) (ha : a.length ≤ 1000000) (hb : b.length ≤ 1000000) (W : World) : (Op.stringOp .add (bsE a) (bsE b)).run Tryd.prog W = .ok (.string (bsE (a ++ b))) W := run_string_add_lists W a b (by omega) (by omega)
theorem sfmt2_any (n : Int) (hn : In64 n) (w : World) (hP : Pow w) : Calls Tryd.prog 51 #[.int .i64 n, .int .i64 10] w fun e w' => e = .returned (.string (bsE (Lib.itoa n))) ∧ Below w.heap.size w w' := sfmt_any n hn w hP
theorem name2_any (op : Int) (w : World) (hT : OpTab w) : Calls Tryd.prog 53 #[.int .i64 op] w fun e w' => e = .returned (.string (bsE (nameM op))) ∧ w = w' := name_any op w hT
theorem tname2_any (t : Int) (w : World) (hT : OpTab w) : Calls Tryd.prog 54 #[.int .i64 t] w fun e w' => e = .returned (.string (bsE (tnameM t))) ∧ w = w' := tname_any t w hT
theorem nor2_any (l : List UInt8) (i : Int) (hi : In64 i) (w : World) (hP : Pow w) : Calls Tryd.prog 52 #[.string (bsE l), .int .i64 i] w fun e w' => e = .returned (.string (bsE (nmE l i))) ∧ Below w.heap.size w w' := by
  by_cases h : l = []
  · subst h
    have HI := hide hi
    have HP := hide hP
    have he : (bsE []).toList.isEmpty = true := by rw [bsE_list]; rfl
    clear hi hP
    go_enter Tryd.func52, Tryd.ntmps52
    go_wp2_with (go_at_call 85; refine (sitoa_any i HI.out _ HP.out).mono ?_; rintro en w2 ⟨rfl, hb⟩; have HB := hide hb; clear hb)
    go_ret
    exact ⟨rfl, HB.out⟩
  · refine (nor_any (bsE l) i (bsE_empty h) w).mono fun e w' h2 => ⟨?_, by rw [← h2.2]; exact Below.refl _ _⟩
    rw [h2.1]
    unfold nmE
    rw [if_neg h]
set_option maxRecDepth 100000 in
set_option maxHeartbeats 8000000 in
theorem fnode_any (x : NdD) (hx : x.In) (w : World) (hO : OpTab w) (hP : Pow w) : Calls Tryd.prog 36 #[.agg x.cells.toArray] w fun e w' => e = .returned (.string (bsE (fmtN x))) ∧ Below w.heap.size w w' := by
  obtain ⟨op, ty, n⟩ := x
  have HO := hide hO
  have HPw := hide hP
  have HI := hide hx
  obtain ⟨bN, hbN⟩ : ∃ b, w.heap.size = b := ⟨_, rfl⟩
  obtain ⟨w1, hw1⟩ : ∃ z, w.alloc (.cells #[.int .i64 op, .int .i64 ty, .int .i64 n] 40) = z := ⟨_, rfl⟩
  have HB : Hid (Below w.heap.size w w1) := hide (by rw [← hw1]; exact (Below.refl _ _).alloc (Nat.le_refl _) _)
  have HN : Hid (Whole w1 bN 40 #[.int .i64 op, .int .i64 ty, .int .i64 n]) := hide (by rw [← hw1, ← hbN]; exact Whole.new w _ _)
  obtain ⟨N, hN⟩ : ∃ l, Lib.itoa n = l := ⟨_, rfl⟩
  have hNl : N.length ≤ 21 := by rw [← hN]; exact itoa_len hx.2.2
  have HNe := hide hN
  clear hO hP hx
  show Calls Tryd.prog 36 #[.agg #[.int .i64 op, .int .i64 ty, .int .i64 n]] w _
  have n2 : w1.cell? ⟨bN, 2, none⟩ = some (.int .i64 n) := HN.out.cell 2
  by_cases h4 : op = 4 ∧ ty = 0
  · obtain ⟨rfl, rfl⟩ := h4
    have hc : ∀ W, (Op.stringOp .add ⟨#[114]⟩ (bsE N)).run Tryd.prog W = .ok (.string (bsE (114 :: N))) W := fun W => catE [114] N (by simp) (by omega) W
    have hF : Hid (fmtN ⟨4, 0, n⟩ = 114 :: N) := hide (by rw [← HNe.out]; rfl)
    have n0 : w1.cell? ⟨bN, 0, none⟩ = some (.int .i64 4) := HN.out.cell 0
    have n1 : w1.cell? ⟨bN, 1, none⟩ = some (.int .i64 0) := HN.out.cell 1
    clear hN hNl
    go_enter Tryd.func36, Tryd.ntmps36
    go_upto_region 1 with fail
    clear hw1 hbN
    go_upto_region 2 with (go_at_call 51; refine (sfmt2_any n HI.out.2.2 _ (HPw.out.below HB.out)).mono ?_; rintro en w2 ⟨rfl, hb⟩; rw [HNe.out]; have HB2 := hide hb; clear hb n0 n1 n2)
    have m0 : w2.cell? ⟨bN, 0, none⟩ = some (.int .i64 4) := (HN.out.below' HB2.out).cell 0
    have m1 : w2.cell? ⟨bN, 1, none⟩ = some (.int .i64 0) := (HN.out.below' HB2.out).cell 1
    go_wp2_with fail
    go_ret
    exact ⟨by rw [hF.out]; rfl, Below.all HB.out HB2.out⟩
  · have hA : ∃ A, nmE (nameM op) op = A := ⟨_, rfl⟩
    have hBB : ∃ B, nmE (tnameM ty) ty = B := ⟨_, rfl⟩
    obtain ⟨A, hA⟩ := hA
    obtain ⟨B, hBB⟩ := hBB
    have hAl : A.length ≤ 21 := by rw [← hA]; exact nmE_len HI.out.1 (name_len op)
    have hBl : B.length ≤ 21 := by rw [← hBB]; exact nmE_len HI.out.2.1 (tname_len ty)
    have HAe := hide hA
    have HBe := hide hBB
    have hF : Hid (fmtN ⟨op, ty, n⟩ = A ++ [58] ++ B ++ [58] ++ N) := hide (by
      rw [← HNe.out, ← HAe.out, ← HBe.out]
      unfold fmtN
      rw [if_neg h4]
      simp)
    have s1 : ∀ W, (Op.stringOp .add (bsE A) ⟨#[58]⟩).run Tryd.prog W = .ok (.string (bsE (A ++ [58]))) W := fun W => catE A [58] (by omega) (by simp) W
    have s2 : ∀ W, (Op.stringOp .add (bsE (A ++ [58])) (bsE B)).run Tryd.prog W = .ok (.string (bsE (A ++ [58] ++ B))) W := fun W => catE (A ++ [58]) B (by rw [List.length_append]; simp; omega) (by omega) W
    have s3 : ∀ W, (Op.stringOp .add (bsE (A ++ [58] ++ B)) ⟨#[58]⟩).run Tryd.prog W = .ok (.string (bsE (A ++ [58] ++ B ++ [58]))) W := fun W => catE (A ++ [58] ++ B) [58] (by rw [List.length_append, List.length_append]; simp; omega) (by simp) W
    have s4 : ∀ W, (Op.stringOp .add (bsE (A ++ [58] ++ B ++ [58])) (bsE N)).run Tryd.prog W = .ok (.string (bsE (A ++ [58] ++ B ++ [58] ++ N))) W := fun W => catE (A ++ [58] ++ B ++ [58]) N (by rw [List.length_append, List.length_append, List.length_append]; simp; omega) (by omega) W
    obtain ⟨l1, e1⟩ : ∃ l, A ++ [58] = l := ⟨_, rfl⟩
    rw [e1] at s1 s2 s3 s4 hF
    obtain ⟨l2, e2⟩ : ∃ l, l1 ++ B = l := ⟨_, rfl⟩
    rw [e2] at s2 s3 s4 hF
    obtain ⟨l3, e3⟩ : ∃ l, l2 ++ [58] = l := ⟨_, rfl⟩
    rw [e3] at s3 s4 hF
    obtain ⟨l4, e4⟩ : ∃ l, l3 ++ N = l := ⟨_, rfl⟩
    rw [e4] at s4 hF
    have n0 : w1.cell? ⟨bN, 0, none⟩ = some (.int .i64 op) := HN.out.cell 0
    have n1 : w1.cell? ⟨bN, 1, none⟩ = some (.int .i64 ty) := HN.out.cell 1
    have HNo := hide h4
    clear hN hNl hA hBB hAl hBl e1 e2 e3 e4 h4
    go_enter Tryd.func36, Tryd.ntmps36
    go_upto_region 1 with fail
    clear hw1 hbN
    go_upto_region 2 with (go_at_call 51; refine (sfmt2_any n HI.out.2.2 _ (HPw.out.below HB.out)).mono ?_; rintro en w2 ⟨rfl, hb⟩; rw [HNe.out]; have HB2 := hide hb; clear hb n0 n1 n2)
    replace HN := hide (HN.out.below' HB2.out)
    replace HB := hide (Below.all HB.out HB2.out)
    have m0 : w2.cell? ⟨bN, 0, none⟩ = some (.int .i64 op) := HN.out.cell 0
    have m1 : w2.cell? ⟨bN, 1, none⟩ = some (.int .i64 ty) := HN.out.cell 1
    clear HB2
    have key : ∀ (K : Prop), (op = 4 → (ty == 0) = false → K) → ((op == 4) = false → K) → K := fun K h1 h2 => by
      by_cases h : op = 4
      · exact h1 h (by simpa using fun h5 => HNo.out ⟨h, h5⟩)
      · exact h2 (by simpa using h)
    refine key _ ?_ ?_
    all_goals intro g0
    · intro g1
      subst g0
      go_upto_region 4 with fail
      have HBx := hide (Below.drewN' HB.out 1)
      have HNx : Hid (Whole w2.drew bN 40 #[.int .i64 4, .int .i64 ty, .int .i64 n]) := HN
      clear m0 m1
      go_region_held3 (fun w' => w'.cell? ⟨bN, 0, none⟩ = some (.int .i64 4) ∧ w'.cell? ⟨bN, 1, none⟩ = some (.int .i64 ty)) (exact ⟨HNx.out.cell 0, HNx.out.cell 1⟩) (first
        | (go_at_call 53; refine (name2_any 4 _ (HO.out.below HBx.out)).mono ?_; rintro en w' ⟨rfl, rfl⟩)
        | (go_at_call 54; refine (tname2_any ty _ (HO.out.below HBx.out)).mono ?_; rintro en w' ⟨rfl, rfl⟩)
        | (go_at_call 52; refine (nor2_any _ _ (by first | exact HI.out.1 | exact HI.out.2.1) _ (HPw.out.below HBx.out)).mono ?_; rintro en w' ⟨rfl, hb⟩; (first | rw [HAe.out] | rw [HBe.out]); replace HBx := hide (Below.all HBx.out hb); replace HNx := hide (HNx.out.below' hb); clear hb))
      go_wp2_with fail
      go_ret
      exact ⟨by rw [hF.out]; rfl, HBx.out⟩
    · go_upto_region 4 with fail
      have HBx := hide (Below.drewN' HB.out 1)
      have HNx : Hid (Whole w2.drew bN 40 #[.int .i64 op, .int .i64 ty, .int .i64 n]) := HN
      clear m0 m1
      go_region_held3 (fun w' => w'.cell? ⟨bN, 0, none⟩ = some (.int .i64 op) ∧ w'.cell? ⟨bN, 1, none⟩ = some (.int .i64 ty)) (exact ⟨HNx.out.cell 0, HNx.out.cell 1⟩) (first
        | (go_at_call 53; refine (name2_any op _ (HO.out.below HBx.out)).mono ?_; rintro en w' ⟨rfl, rfl⟩)
        | (go_at_call 54; refine (tname2_any ty _ (HO.out.below HBx.out)).mono ?_; rintro en w' ⟨rfl, rfl⟩)
        | (go_at_call 52; refine (nor2_any _ _ (by first | exact HI.out.1 | exact HI.out.2.1) _ (HPw.out.below HBx.out)).mono ?_; rintro en w' ⟨rfl, hb⟩; (first | rw [HAe.out] | rw [HBe.out]); replace HBx := hide (Below.all HBx.out hb); replace HNx := hide (HNx.out.below' hb); clear hb))
      go_wp2_with fail
      go_ret
      exact ⟨by rw [hF.out]; rfl, HBx.out⟩
end Go.Proofs.YtnhaanjpcnnifaaDoor

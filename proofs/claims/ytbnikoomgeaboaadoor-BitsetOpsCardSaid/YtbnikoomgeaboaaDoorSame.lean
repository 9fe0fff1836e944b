/-
  same: a set and the reference's set with the same elements, layer 3 (bitset).
-/
import Derived.Test.YtbnikoomgeaboaaDoorRef5
import Derived.Test.YtbnikoomgeaboaaDoorTwo
namespace Go.Proofs.YtbnikoomgeaboaaDoor
open Go.RowKit

theorem els_upto (ws : List Nat) (n : Nat) : els ws n 0 = upto (bit ws) n := by
  unfold els upto
  rw [Nat.sub_zero, List.range_eq_range']
theorem nums_ints (l : List Nat) : nums l = (l.map fun (x : Nat) => (x : Int)).map (Value.int .i64) := by
  simp [nums]

set_option maxHeartbeats 1000000 in
theorem same_set (w : World) (B L R n : Nat) (ws : List Nat) (F : List Nat) (hS : SetAt w B n ws) (hT : Tab w) (hR : RAt w L R n (bit ws) F) :
    Calls Tryd.prog 26 #[.pointer (some ⟨B + 1, 0, none⟩), .pointer (some ⟨R, 0, none⟩)] w fun en w' => en = .returned (.bool true) ∧ Below w.heap.size w w' := by
  have H := hide (And.intro hS (And.intro hT hR))
  clear hS hT hR
  go_enter Tryd.func26, Tryd.ntmps26
  go_wp2_with fail
  refine (callsIn_wide.1 (elems_in 3 (Nat.le_refl _) w B n ws H.out.1 H.out.2.1)).mono ?_
  rintro en w1 ⟨v, rfl, ho, hb⟩
  have H1 := hide (And.intro (H.out.1.below hb) (And.intro (H.out.2.1.below hb) (And.intro (H.out.2.2.frm (S := []) (Frm.below hb) (by simp)) hb)))
  obtain ⟨A, c, rfl, -, -, -⟩ := ho.rd
  have HO := hide ho.rd
  have hnl := nums_len (els ws n 0)
  rw [hnl] at HO ⊢
  clear ho hb H
  go_wp2_with fail
  refine (cap_set w1 B n ws H1.out.1).mono ?_
  rintro en w' ⟨rfl, rfl⟩
  go_wp2_with fail
  refine (rcap_set w1 L R n _ F H1.out.2.2.1).mono ?_
  rintro en w' ⟨rfl, rfl⟩
  have t0 : ((n : Int) == (n : Int)) = true := by simp
  go_wp2_with fail
  refine (callsIn_wide.1 (count_in 3 (Nat.le_refl _) w1 B n ws H1.out.1 H1.out.2.1)).mono ?_
  rintro en w2 ⟨rfl, hb⟩
  have H2 := hide (And.intro (H1.out.2.2.1.frm (S := []) (Frm.below hb) (by simp)) (H1.out.2.2.2.trans (hb.mono H1.out.2.2.2.size)))
  have HO2 := hide (HO.out.below' hb)
  clear hb H1 HO
  go_wp2_with fail
  refine (rcount_set w2 L R n _ F H2.out.1).mono ?_
  rintro en w3 ⟨rfl, hb⟩
  have H3 := hide (And.intro (H2.out.1.frm (S := []) (Frm.below hb) (by simp)) (H2.out.2.trans (hb.mono H2.out.2.size)))
  have HO3 := hide (HO2.out.below' hb)
  have HEL := hide (els_upto ws n)
  rw [← HEL.out]
  clear hb H2 HO2
  have t1 : (((els ws n 0).length : Int) == ((els ws n 0).length : Int)) = true := by simp
  go_wp2_with fail
  refine (rall_set w3 L R n _ F H3.out.1).mono ?_
  rintro en w4 ⟨v4, rfl, ho4, hb⟩
  rw [← HEL.out] at ho4
  have H4 := hide (H3.out.2.trans (hb.mono H3.out.2.size))
  have HO4 := hide (HO3.out.below' hb)
  have HR4 := hide ho4.rd
  clear ho4 hb H3 HO3
  rw [nums_ints] at HO4 HR4
  go_wp2_with fail
  refine (eqNums _ _ _ _ w4 HO4.out.toI HR4.out.toI).mono ?_
  rintro en w5 ⟨rfl, hb⟩
  have H5 := hide (H4.out.trans (hb.mono H4.out.size))
  rw [decide_eq_true rfl]
  clear hb H4 HO4 HR4
  go_wp2_with fail
  go_ret
  exact ⟨by simp, H5.out⟩

theorem same_nil (w : World) :
    Calls Tryd.prog 26 #[.pointer none, .pointer none] w fun en w' => en = .returned (.bool true) ∧ Below w.heap.size w w' := by
  have hN : ∀ W : World, NoSet W (.pointer none) := fun _ => .inl rfl
  have HN := hide hN
  clear hN
  go_enter Tryd.func26, Tryd.ntmps26
  go_wp2_with fail
  refine (callsIn_wide.1 (elems_no 3 (Nat.le_refl _) w _ (HN.out w))).mono ?_
  rintro en w1 ⟨rfl, hb⟩
  have H1 := hide hb
  clear hb
  go_wp2_with fail
  refine (cap_no w1 _ (HN.out w1)).mono ?_
  rintro en w' ⟨rfl, rfl⟩
  go_wp2_with fail
  refine (rcap_nil w1).mono ?_
  rintro en w' ⟨rfl, rfl⟩
  go_wp2_with fail
  refine (callsIn_wide.1 (count_no 3 (Nat.le_refl _) w1 _ (HN.out w1))).mono ?_
  rintro en w2 ⟨rfl, hb⟩
  have H2 := hide (H1.out.trans (hb.mono H1.out.size))
  clear hb H1
  go_wp2_with fail
  refine (rcount_nil w2).mono ?_
  rintro en w' ⟨rfl, rfl⟩
  go_wp2_with fail
  refine (rall_nil w2).mono ?_
  rintro en w' ⟨rfl, rfl⟩
  go_wp2_with fail
  refine (eqNums _ _ [] [] w2 Rd.nil Rd.nil).mono ?_
  rintro en w5 ⟨rfl, hb⟩
  have H5 := hide (H2.out.trans (hb.mono H2.out.size))
  rw [decide_eq_true rfl]
  clear hb H2
  go_wp2_with fail
  go_ret
  exact ⟨by simp, H5.out⟩
end Go.Proofs.YtbnikoomgeaboaaDoor

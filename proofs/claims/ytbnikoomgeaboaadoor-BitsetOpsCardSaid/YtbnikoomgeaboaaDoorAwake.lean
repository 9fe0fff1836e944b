/-
  The examples of the chapter hold, layer 3 (bitset).
-/
import Derived.Test.YtbnikoomgeaboaaDoorTwo
namespace Go.Proofs.YtbnikoomgeaboaaDoor
open Go.RowKit

set_option maxHeartbeats 2000000 in
theorem awake_any (w : World) (hT : Tab w) : Calls Tryd.prog 9 #[] w fun en w' => en = .returned (.bool true) ∧ Below w.heap.size w w' := by
  have hl0 : Rd (w.alloc (.cells #[.int .i64 3, .int .i64 1, .int .i64 3, .int .i64 9] 3)) .i64 (.slice (some ⟨w.heap.size, 0, none⟩) 4 4) [3, 1, 3, 9] := rd_block w 3 [3, 1, 3, 9] (by unfold maxLen; decide)
  have h0 := hT.1
  have HOF := hide (of_any 5 _ [3, 1, 3, 9] _ (by decide) hl0)
  have HT0 := hide hT
  clear hl0 hT
  go_enter Tryd.func9, Tryd.ntmps9
  go_wp2_with fail
  refine HOF.out.mono ?_
  rintro en w1 ⟨rfl, ws, hS, hb, hf⟩
  have hs := hS.known (words5 (x := 10) (by decide)) (fun i hi => by rw [hb]; revert i; decide)
  have hT1 : Tab w1 := (HT0.out.frm ((Frm.refl w []).alloc (.cells #[.int .i64 3, .int .i64 1, .int .i64 3, .int .i64 9] 3)) (by simp)).frm hf (by simp)
  have hB1 : Below w.heap.size w w1 := ((Below.refl _ w).alloc (Nat.le_refl _) _).trans (hf.toBelow (by simp) (by rw [World.size_alloc]; omega))
  rw [World.size_alloc] at *
  have hsz : w.heap.size + 1 + 1 < w1.heap.size := hs.lt
  have HS := hide (And.intro hs (And.intro hT1 hB1))
  clear hs hT1 hB1 hS hb hf HOF HT0
  go_wp2_with fail
  refine (new_nil (-1) w1 (.inl (by decide))).mono ?_
  rintro en w' ⟨rfl, rfl⟩
  go_wp2_with fail
  refine (new_nil 65537 w1 (.inr (by decide))).mono ?_
  rintro en w' ⟨rfl, rfl⟩
  go_wp2_with fail
  refine (new_set 65536 w1 (by decide)).mono ?_
  rintro en w2 ⟨rfl, _, hf⟩
  have hs := HS.out.1.frm hf (by simp) (by simp)
  have hT1 := HS.out.2.1.frm hf (by simp)
  have hB1 := HS.out.2.2.trans (hf.toBelow (by simp) HS.out.2.2.size)
  have hsz2 : w.heap.size + 1 + 1 < w2.heap.size := Nat.lt_of_lt_of_le hsz hf.size
  have HS2 := hide (And.intro hs (And.intro hT1 hB1))
  clear hs hT1 hB1 hf HS hsz
  go_wp2_with fail
  refine (callsIn_wide.1 (elems_in 3 (Nat.le_refl _) w2 _ 5 [10] HS2.out.1 HS2.out.2.1)).mono ?_
  rintro en w3 ⟨v, rfl, hv, hb⟩
  rw [show els [10] 5 0 = [1, 3] from by decide] at hv
  have hs := HS2.out.1.below hb
  have hT1 := HS2.out.2.1.below hb
  have hB1 := HS2.out.2.2.trans (hb.mono (by omega))
  have hsz3 : w.heap.size + 1 + 1 < w3.heap.size := Nat.lt_of_lt_of_le hsz2 hb.size
  have HS3 := hide (And.intro hs (And.intro hT1 (And.intro hB1 hv)))
  clear hs hT1 hB1 hb HS2 hsz2 hv
  have hl0 : Rd (w3.alloc (.cells #[.int .i64 3] 3)) .i64 (.slice (some ⟨w3.heap.size, 0, none⟩) 1 1) [3] := rd_block w3 3 [3] (by unfold maxLen; decide)
  go_wp2_with fail
  refine (of_any 5 _ [3] _ (by decide) hl0).mono ?_
  rintro en w4 ⟨rfl, vs, hS, hb, hf⟩
  have ho := hS.known (words5 (x := 8) (by decide)) (fun i hi => by rw [hb]; revert i; decide)
  have hf2 : Frm w3 w4 [] := ((Frm.refl w3 []).alloc (.cells #[.int .i64 3] 3)).trans hf
  rw [World.size_alloc] at *
  have HW : Hid (Two w w4 (w.heap.size + 1) (w3.heap.size + 1) 10 8) := hide ⟨HS3.out.1.frm hf2 (by simp) (by simp), ho, HS3.out.2.1.frm hf2 (by simp), HS3.out.2.2.1.trans (hf2.toBelow (by simp) HS3.out.2.2.1.size), by omega, by omega⟩
  have hv4 := hide (HS3.out.2.2.2.frm hf2 (by simp))
  clear HS3 hl0 ho hf hf2 hb hS
  obtain ⟨g, cp, rfl, hcp, hcm, hg1, hg2⟩ := hv4.out.form (by decide)
  go_wp2_with fail
  have hm : Rd (w4.alloc (.cells #[.int .i64 1, .int .i64 3] 3)) .i64 (.slice (some ⟨w4.heap.size, 0, none⟩) 2 2) [1, 3] := rd_block w4 3 [1, 3] (by unfold maxLen; decide)
  have hl : Rd (w4.alloc (.cells #[.int .i64 1, .int .i64 3] 3)) .i64 (.slice (some ⟨g, 0, none⟩) (nums [1, 3]).length cp) [1, 3] := ((show OwnV w4 w2.heap.size 3 (.slice (some ⟨g, 0, none⟩) (nums [1, 3]).length cp) (nums [1, 3]) from hv4.out).rd.alloc _).toI
  refine (eqNums _ _ _ _ _ hl hm).mono ?_
  rintro en w5 ⟨rfl, hb⟩
  have hW := HW.out.frm (((Frm.refl w4 []).alloc (.cells #[.int .i64 1, .int .i64 3] 3)).trans (Frm.below hb))
  clear HW hl hm hv4 hb hg2 hcp hcm hg1
  have HW := hide hW
  clear hW
  obtain ⟨w4, rfl⟩ : ∃ z, z = w5 := ⟨_, rfl⟩
  have ed : decide ([(1 : Int), 3] = [1, 3]) = true := rfl
  go_wp2_with fail
  refine (HW.out.cap).mono ?_
  rintro en w5 ⟨rfl, hW⟩
  clear HW
  have HW := hide hW
  clear hW
  obtain ⟨w4, rfl⟩ : ∃ z, z = w5 := ⟨_, rfl⟩
  go_wp2_with fail
  refine (HW.out.count (n := 2) (by decide)).mono ?_
  rintro en w5 ⟨rfl, hW⟩
  clear HW
  have HW := hide hW
  clear hW
  obtain ⟨w4, rfl⟩ : ∃ z, z = w5 := ⟨_, rfl⟩
  go_wp2_with fail
  refine (HW.out.again 3 (by decide)).mono ?_
  rintro en w5 ⟨rfl, hW⟩
  clear HW
  have HW := hide hW
  clear hW
  obtain ⟨w4, rfl⟩ : ∃ z, z = w5 := ⟨_, rfl⟩
  go_wp2_with fail
  refine (HW.out.sub h0 (z := 2) (by decide) (fun i hi => by revert i; decide) (b := true) (by decide)).mono ?_
  rintro en w5 ⟨rfl, hW⟩
  clear HW
  have HW := hide hW
  clear hW
  obtain ⟨w4, rfl⟩ : ∃ z, z = w5 := ⟨_, rfl⟩
  go_wp2_with fail
  refine (HW.out.sub h0 (z := 2) (by decide) (fun i hi => by revert i; decide) (b := false) (by decide)).mono ?_
  rintro en w5 ⟨rfl, hW⟩
  clear HW
  have HW := hide hW
  clear hW
  obtain ⟨w4, rfl⟩ : ∃ z, z = w5 := ⟨_, rfl⟩
  go_wp2_with fail
  refine (HW.out.has 1 (b := true) (by decide)).mono ?_
  rintro en w5 ⟨rfl, hW⟩
  clear HW
  have HW := hide hW
  clear hW
  obtain ⟨w4, rfl⟩ : ∃ z, z = w5 := ⟨_, rfl⟩
  go_wp2_with fail
  refine (HW.out.has 3 (b := false) (by decide)).mono ?_
  rintro en w5 ⟨rfl, hW⟩
  clear HW
  have HW := hide hW
  clear hW
  obtain ⟨w4, rfl⟩ : ∃ z, z = w5 := ⟨_, rfl⟩
  go_wp2_with fail
  refine (HW.out.count (n := 1) (by decide)).mono ?_
  rintro en w5 ⟨rfl, hW⟩
  clear HW
  have HW := hide hW
  clear hW
  obtain ⟨w4, rfl⟩ : ∃ z, z = w5 := ⟨_, rfl⟩
  go_wp2_with fail
  refine (new_set 6 w4 (by decide)).mono ?_
  rintro en w5 ⟨rfl, hd, hf⟩
  have hW := hide (And.intro (HW.out.frm hf) hd)
  clear HW hd hf
  go_wp2_with fail
  refine (hW.out.1.six hW.out.2).mono ?_
  rintro en w6 ⟨rfl, hW1⟩
  clear hW
  have HW := hide hW1
  clear hW1
  obtain ⟨w4, rfl⟩ : ∃ z, z = w6 := ⟨_, rfl⟩
  go_wp2_with fail
  refine (HW.out.or h0 (z := 10) (by decide) (fun i hi => by revert i; decide) (b := true) (by decide)).mono ?_
  rintro en w5 ⟨rfl, hW⟩
  clear HW
  have HW := hide hW
  clear hW
  obtain ⟨w4, rfl⟩ : ∃ z, z = w5 := ⟨_, rfl⟩
  go_wp2_with fail
  refine (HW.out.count (n := 2) (by decide)).mono ?_
  rintro en w5 ⟨rfl, hW⟩
  clear HW
  have HW := hide hW
  clear hW
  obtain ⟨w4, rfl⟩ : ∃ z, z = w5 := ⟨_, rfl⟩
  go_wp2_with fail
  refine (HW.out.remove h0 (z := 8) (by decide) 1 (by decide) (by decide) (fun i hi => by revert i; decide)).mono ?_
  rintro en w5 ⟨rfl, hW⟩
  clear HW
  have HW := hide hW
  clear hW
  obtain ⟨w4, rfl⟩ : ∃ z, z = w5 := ⟨_, rfl⟩
  go_wp2_with fail
  refine (HW.out.gone 1 (by decide)).mono ?_
  rintro en w5 ⟨rfl, hW⟩
  clear HW
  have HW := hide hW
  clear hW
  obtain ⟨w4, rfl⟩ : ∃ z, z = w5 := ⟨_, rfl⟩
  go_wp2_with fail
  refine (HW.out.equal (b := true) (by decide)).mono ?_
  rintro en w5 ⟨rfl, hW⟩
  clear HW
  have HW := hide hW
  clear hW
  obtain ⟨w4, rfl⟩ : ∃ z, z = w5 := ⟨_, rfl⟩
  go_wp2_with fail
  refine HW.out.clone.mono ?_
  rintro en w5 ⟨rfl, hW, hc⟩
  have HC := hide (And.intro hW hc)
  clear HW hW hc
  go_wp2_with fail
  refine (equal_set w5 _ _ 5 5 [8] [8] HC.out.2 HC.out.1.o).mono ?_
  rintro en w6 ⟨rfl, hf⟩
  have HZ := hide (HC.out.1.frm hf).below
  clear HC hf
  go_wp2_with fail
  go_ret
  exact ⟨by simp, HZ.out⟩
end Go.Proofs.YtbnikoomgeaboaaDoor

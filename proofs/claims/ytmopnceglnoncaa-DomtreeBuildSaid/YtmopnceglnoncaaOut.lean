/-
  Layer 8 (domtree): Dominates and CommonDominator of a tree, for indices that are not in it.
-/
import Derived.Test.YtmopnceglnoncaaDepths
import Derived.Test.YtmopnceglnoncaaChildren
namespace Go.Proofs.Ytmopnceglnoncaa
open Go.RowKit Go.Shelf

attribute [local go_sem] Oper.semAt_some

set_option maxRecDepth 100000 in
set_option maxHeartbeats 8000000 in
theorem dominates_out {n r : Nat} {f : Nat → Int} {dp : Nat → Nat} (T : Tr n f r dp) (hn : n ≤ 65536) (m : Nat) (hm : 3 ≤ m) (A : Option Addr) (c : Nat) (a b : Int) (hab : inT n f a = false ∨ inT n f b = false) (w : World) (hI : Rd w .i64 (.slice A n c) (fz n f)) :
    CallsIn Fence.wide m Try.prog 16 #[.slice A n c, .int .i64 a, .int .i64 b] w fun en w' => en = .returned (.bool false) ∧ Below w.heap.size w w' := by
  obtain ⟨Ab, Ao, rfl, hbl, -⟩ := rd_at hI (fz_get f T.rlt)
  obtain ⟨q, hq⟩ : ∃ q, w.heap.size = q := ⟨_, rfl⟩
  obtain ⟨w1, hw1⟩ : ∃ x, w.alloc (.cells #[.int .i64 a] 3) = x := ⟨_, rfl⟩
  obtain ⟨w2, hw2⟩ : ∃ x, w1.alloc (.cells #[.bool false] 4) = x := ⟨_, rfl⟩
  have hs1 : w1.heap.size = q + 1 := by rw [← hw1, World.size_alloc, hq]
  have hs2 : w2.heap.size = q + 2 := by rw [← hw2, World.size_alloc, hs1]
  have hb1 : Below w.heap.size w w1 := by rw [← hw1]; exact (Below.refl _ _).alloc (Nat.le_refl _) _
  have hb2 : Below w1.heap.size w1 w2 := by rw [← hw2]; exact (Below.refl _ _).alloc (Nat.le_refl _) _
  have hA2 : Whole w2 q 3 #[.int .i64 a] := by
    have : Whole w1 q 3 #[.int .i64 a] := by rw [← hq, ← hw1]; exact Whole.new _ _ _
    exact this.below' hb2
  have hR2 : Whole w2 (q + 1) 4 #[.bool false] := by rw [← hs1, ← hw2]; exact Whole.new _ _ _
  have hB2 : Below q w w2 := by rw [← hq]; exact hb1.trans (hb2.mono hb1.size)
  have c1 : w2.cell? ⟨q, 0, none⟩ = some (.int .i64 a) := hA2.cell 0
  have hI2 := hI.below' (by rw [hq]; exact hB2)
  have HTR := hide (isTree_tree T hn (some ⟨Ab, Ao, none⟩) c w2 hI2)
  have HI := hide hI
  have HB2 := hide hB2
  have HR2 := hide hR2
  have h1 : 1 ≤ m := by omega
  have HAB := hide hab
  clear hb1 hb2 hA2 hR2 hB2 hI2 T hI hab
  refine callsIn_of_wp_marks Try.func16 rfl trivial ?_ rfl
  simp only [Try.ntmps16, List.size_toArray, List.length_cons, List.length_nil, Nat.reduceAdd, Nat.reduceSub, Array.replicate_succ, Array.replicate_zero, List.push_toArray, List.append_toArray, List.nil_append, List.cons_append]
  gi_wp2_with (refine ⟨trivial, ?_⟩; gi_at_call 37; refine (callsIn_wide.2 HTR.out).mono ?_; rintro e w3 ⟨rfl, hb3⟩; have hc3 : w3.cell? ⟨q, 0, none⟩ = some (.int .i64 a) := (hb3.cell (p := ⟨q, 0, none⟩) (lt_of_cell c1)).trans c1)
  have HR3 := hide (HR2.out.below' hb3)
  have HB3 : Hid (Below q w w3) := hide (HB2.out.trans (hb3.mono (by omega)))
  have hI3 := HI.out.below' (by rw [hq]; exact HB3.out)
  have HIN : Hid (∀ i : Int, Calls Try.prog 38 #[.slice (some ⟨Ab, Ao, none⟩) n c, .int .i64 i] w3 fun en w' => en = .returned (.bool (inT n f i)) ∧ w' = w3) := hide (fun i => inTree_any (some ⟨Ab, Ao, none⟩) c n f i w3 hI3)
  have k1 : w3.cell? ⟨(q + 1), 0, none⟩ = some (.bool false) := HR3.out.cell 0
  have k1f := HR3.out.free 0
  obtain ⟨X, hX⟩ : ∃ y, w3.setCell ⟨(q + 1), 0, none⟩ (.bool false) = y := ⟨_, rfl⟩
  have HM : Hid (Marks q [] X) := hide Marks.nil
  have HZ : Hid (Whole X (q + 1) 4 #[.bool false] ∧ Below q w X ∧ q ≤ X.heap.size) := hide (by
    have hqW : q ≤ w3.heap.size := by have := hb3.size; omega
    rw [← hX]
    exact ⟨HR3.out.set 0 _, HB3.out.setCell (p := ⟨(q + 1), 0, none⟩) (by show q ≤ (q + 1); omega) _, by simpa [World.setCell] using hqW⟩)
  clear hb3 hI3 HR3 HB3 HTR HB2 HR2 hw2 hs2
  by_cases ha : inT n f a = false
  · clear HAB
    gi_wp2_with (first | (refine ⟨trivial, ?_⟩; gi_at_call 38; refine (callsIn_wide.2 (HIN.out _)).mono ?_; rintro e w' ⟨rfl, hw'⟩; obtain rfl := hw'; rw [ha]) | (refine ⟨trivial, ?_⟩))
    refine leavesM (B := q) (Others q) (Others.refl _) (fun h k => h.trans k) (fun X D hD hd => Others.put hD hd) [] X HM.out ?_
    intro Y hY
    have r0 : Y.cell? ⟨(q + 1), 0, none⟩ = some (.bool false) := (hY.whole HZ.out.1).cell 0
    refine ⟨.bool false, ?_, rfl, by rw [hq]; exact hY.below (Nat.le_refl _) HZ.out.2.2 HZ.out.2.1⟩
    simp [results, Try.f16, go_sem, r0]
  · have ha : inT n f a = true := by simpa using ha
    have hb : inT n f b = false := HAB.out.resolve_left (by rw [ha]; decide)
    clear HAB
    gi_wp2_with (refine ⟨trivial, ?_⟩; gi_at_call 38; refine (callsIn_wide.2 (HIN.out _)).mono ?_; rintro e w' ⟨rfl, hw'⟩; obtain rfl := hw'; first | rw [ha] | rw [hb])
    refine leavesM (B := q) (Others q) (Others.refl _) (fun h k => h.trans k) (fun X D hD hd => Others.put hD hd) [] X HM.out ?_
    intro Y hY
    have r0 : Y.cell? ⟨(q + 1), 0, none⟩ = some (.bool false) := (hY.whole HZ.out.1).cell 0
    refine ⟨.bool false, ?_, rfl, by rw [hq]; exact hY.below (Nat.le_refl _) HZ.out.2.2 HZ.out.2.1⟩
    simp [results, Try.f16, go_sem, r0]

set_option maxRecDepth 100000 in
set_option maxHeartbeats 8000000 in
theorem common_out {n r : Nat} {f : Nat → Int} {dp : Nat → Nat} (T : Tr n f r dp) (hn : n ≤ 65536) (m : Nat) (hm : 3 ≤ m) (A : Option Addr) (c : Nat) (a b : Int) (hab : inT n f a = false ∨ inT n f b = false) (w : World) (hI : Rd w .i64 (.slice A n c) (fz n f)) :
    CallsIn Fence.wide m Try.prog 18 #[.slice A n c, .int .i64 a, .int .i64 b] w fun en w' => en = .returned (.int .i64 (-1)) ∧ Below w.heap.size w w' := by
  obtain ⟨Ab, Ao, rfl, hbl, -⟩ := rd_at hI (fz_get f T.rlt)
  obtain ⟨q, hq⟩ : ∃ q, w.heap.size = q := ⟨_, rfl⟩
  obtain ⟨w2, hw2⟩ : ∃ x, w.alloc (.cells #[.int .i64 0] 3) = x := ⟨_, rfl⟩
  have hs2 : w2.heap.size = q + 1 := by rw [← hw2, World.size_alloc, hq]
  have hB2 : Below q w w2 := by rw [← hw2, ← hq]; exact (Below.refl _ _).alloc (Nat.le_refl _) _
  have hR2 : Whole w2 q 3 #[.int .i64 0] := by rw [← hq, ← hw2]; exact Whole.new _ _ _
  have hI2 := hI.below' (by rw [hq]; exact hB2)
  have HTR := hide (isTree_tree T hn (some ⟨Ab, Ao, none⟩) c w2 hI2)
  have HI := hide hI
  have HB2 := hide hB2
  have HR2 := hide hR2
  have h1 : 1 ≤ m := by omega
  have HAB := hide hab
  clear hR2 hB2 hI2 T hI hab
  refine callsIn_of_wp_marks Try.func18 rfl trivial ?_ rfl
  simp only [Try.ntmps18, List.size_toArray, List.length_cons, List.length_nil, Nat.reduceAdd, Nat.reduceSub, Array.replicate_succ, Array.replicate_zero, List.push_toArray, List.append_toArray, List.nil_append, List.cons_append]
  gi_wp2_with (refine ⟨trivial, ?_⟩; gi_at_call 37; refine (callsIn_wide.2 HTR.out).mono ?_; rintro e w3 ⟨rfl, hb3⟩)
  have HR3 := hide (HR2.out.below' hb3)
  have HB3 : Hid (Below q w w3) := hide (HB2.out.trans (hb3.mono (by omega)))
  have hI3 := HI.out.below' (by rw [hq]; exact HB3.out)
  have HIN : Hid (∀ i : Int, Calls Try.prog 38 #[.slice (some ⟨Ab, Ao, none⟩) n c, .int .i64 i] w3 fun en w' => en = .returned (.bool (inT n f i)) ∧ w' = w3) := hide (fun i => inTree_any (some ⟨Ab, Ao, none⟩) c n f i w3 hI3)
  have k1 : w3.cell? ⟨q, 0, none⟩ = some (.int .i64 0) := HR3.out.cell 0
  have k1f := HR3.out.free 0
  obtain ⟨X, hX⟩ : ∃ y, w3.setCell ⟨q, 0, none⟩ (.int .i64 (-1)) = y := ⟨_, rfl⟩
  have HM : Hid (Marks q [] X) := hide Marks.nil
  have HZ : Hid (Whole X q 3 #[.int .i64 (-1)] ∧ Below q w X ∧ q ≤ X.heap.size) := hide (by
    have hqW : q ≤ w3.heap.size := by have := hb3.size; omega
    rw [← hX]
    exact ⟨HR3.out.set 0 _, HB3.out.setCell (p := ⟨q, 0, none⟩) (by show q ≤ q; omega) _, by simpa [World.setCell] using hqW⟩)
  clear hb3 hI3 HR3 HB3 HTR HB2 HR2 hw2 hs2
  by_cases ha : inT n f a = false
  · clear HAB
    gi_wp2_with (first | (refine ⟨trivial, ?_⟩; gi_at_call 38; refine (callsIn_wide.2 (HIN.out _)).mono ?_; rintro e w' ⟨rfl, hw'⟩; obtain rfl := hw'; rw [ha]) | (refine ⟨trivial, ?_⟩))
    refine leavesM (B := q) (Others q) (Others.refl _) (fun h k => h.trans k) (fun X D hD hd => Others.put hD hd) [] X HM.out ?_
    intro Y hY
    have r0 : Y.cell? ⟨q, 0, none⟩ = some (.int .i64 (-1)) := (hY.whole HZ.out.1).cell 0
    refine ⟨.int .i64 (-1), ?_, rfl, by rw [hq]; exact hY.below (Nat.le_refl _) HZ.out.2.2 HZ.out.2.1⟩
    simp [results, Try.f18, go_sem, r0]
  · have ha : inT n f a = true := by simpa using ha
    have hb : inT n f b = false := HAB.out.resolve_left (by rw [ha]; decide)
    clear HAB
    gi_wp2_with (refine ⟨trivial, ?_⟩; gi_at_call 38; refine (callsIn_wide.2 (HIN.out _)).mono ?_; rintro e w' ⟨rfl, hw'⟩; obtain rfl := hw'; first | rw [ha] | rw [hb])
    refine leavesM (B := q) (Others q) (Others.refl _) (fun h k => h.trans k) (fun X D hD hd => Others.put hD hd) [] X HM.out ?_
    intro Y hY
    have r0 : Y.cell? ⟨q, 0, none⟩ = some (.int .i64 (-1)) := (hY.whole HZ.out.1).cell 0
    refine ⟨.int .i64 (-1), ?_, rfl, by rw [hq]; exact hY.below (Nat.le_refl _) HZ.out.2.2 HZ.out.2.1⟩
    simp [results, Try.f18, go_sem, r0]
end Go.Proofs.Ytmopnceglnoncaa

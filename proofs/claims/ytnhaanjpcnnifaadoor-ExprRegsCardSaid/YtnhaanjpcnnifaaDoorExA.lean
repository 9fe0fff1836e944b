/-
  Layer 23 (expr): the number of operands, the numbered operations, the errors of a node wherever it stands.
-/
import Derived.Deep.Cut
import Derived.Deep.RegionHeld3
import Derived.Deep.QuietTactic
import Derived.BigQuiet
import Derived.Test.YtnhaanjpcnnifaaDoorExM
import Derived.Test.YtnhaanjpcnnifaaDoorSlice
import Derived.Test.YtnhaanjpcnnifaaDoorBlock
import Derived.Test.YtnhaanjpcnnifaaDoorOpen
namespace Go.Proofs.YtnhaanjpcnnifaaDoor
open Go.RowKit Go.Deep

set_option maxRecDepth 100000 in
set_option maxHeartbeats 4000000 in
theorem isidx_any (i n : Int) (w : World) : Calls Tryd.prog 43 #[.int .i64 i, .int .i64 n] w fun e w' => e = .returned (.bool (decide (0 ≤ i ∧ i < n))) ∧ w' = w := by
  by_cases h : 0 ≤ i
  · have g : decide ((0 : Int) ≤ i) = true := by simpa using h
    go_enter Tryd.func43, Tryd.ntmps43
    go_wp2_with fail
    go_ret
    exact ⟨by simp [h], rfl⟩
  · have g : decide ((0 : Int) ≤ i) = false := by simpa using h
    go_enter Tryd.func43, Tryd.ntmps43
    go_wp2_with fail
    go_ret
    exact ⟨by simp, rfl⟩
set_option maxRecDepth 100000 in
set_option maxHeartbeats 4000000 in
theorem hasnum_any (op : Int) (w : World) : Calls Tryd.prog 44 #[.int .i64 op] w fun e w' => e = .returned (.bool (numE op)) ∧ w' = w := by
  by_cases c4 : op = 4
  · subst c4
    go_enter Tryd.func44, Tryd.ntmps44
    go_wp2_with fail
    go_ret
    exact ⟨rfl, rfl⟩
  have g4 : (op == 4) = false := by simpa using c4
  by_cases c1 : op = 1
  · subst c1
    go_enter Tryd.func44, Tryd.ntmps44
    go_wp2_with fail
    go_ret
    exact ⟨rfl, rfl⟩
  have g1 : (op == 1) = false := by simpa using c1
  by_cases c25 : op = 25
  · subst c25
    go_enter Tryd.func44, Tryd.ntmps44
    go_wp2_with fail
    go_ret
    exact ⟨rfl, rfl⟩
  have g25 : (op == 25) = false := by simpa using c25
  by_cases c33 : op = 33
  · subst c33
    go_enter Tryd.func44, Tryd.ntmps44
    go_wp2_with fail
    go_ret
    exact ⟨rfl, rfl⟩
  have g33 : (op == 33) = false := by simpa using c33
  go_enter Tryd.func44, Tryd.ntmps44
  go_wp2_with fail
  go_ret
  exact ⟨by simp [numE, c4, c1, c25, c33], rfl⟩
set_option maxRecDepth 100000 in
set_option maxHeartbeats 8000000 in
theorem opcount_any (op ty n : Int) (w : World) : Calls Tryd.prog 25 #[.agg #[.int .i64 op, .int .i64 ty, .int .i64 n]] w fun e w' => e = .returned (.int .i64 (cntE op ty)) ∧ Below w.heap.size w w' := by
  by_cases c4 : op = 4
  · subst c4
    obtain ⟨w1, hw1⟩ : ∃ z, w.alloc (.cells #[.int .i64 4, .int .i64 ty, .int .i64 n] 40) = z := ⟨_, rfl⟩
    have HB : Hid (Below w.heap.size w w1) := hide (by rw [← hw1]; exact (Below.refl _ _).alloc (Nat.le_refl _) _)
    have HA : Whole w1 w.heap.size 40 #[.int .i64 4, .int .i64 ty, .int .i64 n] := by rw [← hw1]; exact Whole.new w _ _
    have p0 : w1.cell? ⟨w.heap.size, 0, none⟩ = some (.int .i64 4) := HA.cell 0
    have p1 : w1.cell? ⟨w.heap.size, 1, none⟩ = some (.int .i64 ty) := HA.cell 1
    go_enter Tryd.func25, Tryd.ntmps25
    go_upto_region 1 with fail
    clear hw1 HA
    go_wp2_with fail
    go_ret
    exact ⟨rfl, HB.out⟩
  have g4 : (op == 4) = false := by simpa using c4
  by_cases c1 : op = 1
  · subst c1
    obtain ⟨w1, hw1⟩ : ∃ z, w.alloc (.cells #[.int .i64 1, .int .i64 ty, .int .i64 n] 40) = z := ⟨_, rfl⟩
    have HB : Hid (Below w.heap.size w w1) := hide (by rw [← hw1]; exact (Below.refl _ _).alloc (Nat.le_refl _) _)
    have HA : Whole w1 w.heap.size 40 #[.int .i64 1, .int .i64 ty, .int .i64 n] := by rw [← hw1]; exact Whole.new w _ _
    have p0 : w1.cell? ⟨w.heap.size, 0, none⟩ = some (.int .i64 1) := HA.cell 0
    have p1 : w1.cell? ⟨w.heap.size, 1, none⟩ = some (.int .i64 ty) := HA.cell 1
    go_enter Tryd.func25, Tryd.ntmps25
    go_upto_region 1 with fail
    clear hw1 HA
    go_wp2_with fail
    go_ret
    exact ⟨rfl, HB.out⟩
  have g1 : (op == 1) = false := by simpa using c1
  by_cases c2 : op = 2
  · subst c2
    obtain ⟨w1, hw1⟩ : ∃ z, w.alloc (.cells #[.int .i64 2, .int .i64 ty, .int .i64 n] 40) = z := ⟨_, rfl⟩
    have HB : Hid (Below w.heap.size w w1) := hide (by rw [← hw1]; exact (Below.refl _ _).alloc (Nat.le_refl _) _)
    have HA : Whole w1 w.heap.size 40 #[.int .i64 2, .int .i64 ty, .int .i64 n] := by rw [← hw1]; exact Whole.new w _ _
    have p0 : w1.cell? ⟨w.heap.size, 0, none⟩ = some (.int .i64 2) := HA.cell 0
    have p1 : w1.cell? ⟨w.heap.size, 1, none⟩ = some (.int .i64 ty) := HA.cell 1
    go_enter Tryd.func25, Tryd.ntmps25
    go_upto_region 1 with fail
    clear hw1 HA
    go_wp2_with fail
    go_ret
    exact ⟨rfl, HB.out⟩
  have g2 : (op == 2) = false := by simpa using c2
  by_cases c25 : op = 25
  · subst c25
    obtain ⟨w1, hw1⟩ : ∃ z, w.alloc (.cells #[.int .i64 25, .int .i64 ty, .int .i64 n] 40) = z := ⟨_, rfl⟩
    have HB : Hid (Below w.heap.size w w1) := hide (by rw [← hw1]; exact (Below.refl _ _).alloc (Nat.le_refl _) _)
    have HA : Whole w1 w.heap.size 40 #[.int .i64 25, .int .i64 ty, .int .i64 n] := by rw [← hw1]; exact Whole.new w _ _
    have p0 : w1.cell? ⟨w.heap.size, 0, none⟩ = some (.int .i64 25) := HA.cell 0
    have p1 : w1.cell? ⟨w.heap.size, 1, none⟩ = some (.int .i64 ty) := HA.cell 1
    go_enter Tryd.func25, Tryd.ntmps25
    go_upto_region 1 with fail
    clear hw1 HA
    go_wp2_with fail
    go_ret
    exact ⟨rfl, HB.out⟩
  have g25 : (op == 25) = false := by simpa using c25
  by_cases c22 : op = 22
  · subst c22
    obtain ⟨w1, hw1⟩ : ∃ z, w.alloc (.cells #[.int .i64 22, .int .i64 ty, .int .i64 n] 40) = z := ⟨_, rfl⟩
    have HB : Hid (Below w.heap.size w w1) := hide (by rw [← hw1]; exact (Below.refl _ _).alloc (Nat.le_refl _) _)
    have HA : Whole w1 w.heap.size 40 #[.int .i64 22, .int .i64 ty, .int .i64 n] := by rw [← hw1]; exact Whole.new w _ _
    have p0 : w1.cell? ⟨w.heap.size, 0, none⟩ = some (.int .i64 22) := HA.cell 0
    have p1 : w1.cell? ⟨w.heap.size, 1, none⟩ = some (.int .i64 ty) := HA.cell 1
    go_enter Tryd.func25, Tryd.ntmps25
    go_upto_region 1 with fail
    clear hw1 HA
    go_wp2_with fail
    go_ret
    exact ⟨rfl, HB.out⟩
  have g22 : (op == 22) = false := by simpa using c22
  by_cases c23 : op = 23
  · subst c23
    obtain ⟨w1, hw1⟩ : ∃ z, w.alloc (.cells #[.int .i64 23, .int .i64 ty, .int .i64 n] 40) = z := ⟨_, rfl⟩
    have HB : Hid (Below w.heap.size w w1) := hide (by rw [← hw1]; exact (Below.refl _ _).alloc (Nat.le_refl _) _)
    have HA : Whole w1 w.heap.size 40 #[.int .i64 23, .int .i64 ty, .int .i64 n] := by rw [← hw1]; exact Whole.new w _ _
    have p0 : w1.cell? ⟨w.heap.size, 0, none⟩ = some (.int .i64 23) := HA.cell 0
    have p1 : w1.cell? ⟨w.heap.size, 1, none⟩ = some (.int .i64 ty) := HA.cell 1
    go_enter Tryd.func25, Tryd.ntmps25
    go_upto_region 1 with fail
    clear hw1 HA
    go_wp2_with fail
    go_ret
    exact ⟨rfl, HB.out⟩
  have g23 : (op == 23) = false := by simpa using c23
  by_cases c24 : op = 24
  · subst c24
    obtain ⟨w1, hw1⟩ : ∃ z, w.alloc (.cells #[.int .i64 24, .int .i64 ty, .int .i64 n] 40) = z := ⟨_, rfl⟩
    have HB : Hid (Below w.heap.size w w1) := hide (by rw [← hw1]; exact (Below.refl _ _).alloc (Nat.le_refl _) _)
    have HA : Whole w1 w.heap.size 40 #[.int .i64 24, .int .i64 ty, .int .i64 n] := by rw [← hw1]; exact Whole.new w _ _
    have p0 : w1.cell? ⟨w.heap.size, 0, none⟩ = some (.int .i64 24) := HA.cell 0
    have p1 : w1.cell? ⟨w.heap.size, 1, none⟩ = some (.int .i64 ty) := HA.cell 1
    go_enter Tryd.func25, Tryd.ntmps25
    go_upto_region 1 with fail
    clear hw1 HA
    go_wp2_with fail
    go_ret
    exact ⟨rfl, HB.out⟩
  have g24 : (op == 24) = false := by simpa using c24
  by_cases c33 : op = 33
  · subst c33
    obtain ⟨w1, hw1⟩ : ∃ z, w.alloc (.cells #[.int .i64 33, .int .i64 ty, .int .i64 n] 40) = z := ⟨_, rfl⟩
    have HB : Hid (Below w.heap.size w w1) := hide (by rw [← hw1]; exact (Below.refl _ _).alloc (Nat.le_refl _) _)
    have HA : Whole w1 w.heap.size 40 #[.int .i64 33, .int .i64 ty, .int .i64 n] := by rw [← hw1]; exact Whole.new w _ _
    have p0 : w1.cell? ⟨w.heap.size, 0, none⟩ = some (.int .i64 33) := HA.cell 0
    have p1 : w1.cell? ⟨w.heap.size, 1, none⟩ = some (.int .i64 ty) := HA.cell 1
    go_enter Tryd.func25, Tryd.ntmps25
    go_upto_region 1 with fail
    clear hw1 HA
    go_wp2_with fail
    go_ret
    exact ⟨rfl, HB.out⟩
  have g33 : (op == 33) = false := by simpa using c33
  by_cases c28 : op = 28
  · subst c28
    obtain ⟨w1, hw1⟩ : ∃ z, w.alloc (.cells #[.int .i64 28, .int .i64 ty, .int .i64 n] 40) = z := ⟨_, rfl⟩
    have HB : Hid (Below w.heap.size w w1) := hide (by rw [← hw1]; exact (Below.refl _ _).alloc (Nat.le_refl _) _)
    have HA : Whole w1 w.heap.size 40 #[.int .i64 28, .int .i64 ty, .int .i64 n] := by rw [← hw1]; exact Whole.new w _ _
    have p0 : w1.cell? ⟨w.heap.size, 0, none⟩ = some (.int .i64 28) := HA.cell 0
    have p1 : w1.cell? ⟨w.heap.size, 1, none⟩ = some (.int .i64 ty) := HA.cell 1
    go_enter Tryd.func25, Tryd.ntmps25
    go_upto_region 1 with fail
    clear hw1 HA
    go_wp2_with fail
    go_ret
    exact ⟨rfl, HB.out⟩
  have g28 : (op == 28) = false := by simpa using c28
  by_cases c21 : op = 21
  · subst c21
    obtain ⟨w1, hw1⟩ : ∃ z, w.alloc (.cells #[.int .i64 21, .int .i64 ty, .int .i64 n] 40) = z := ⟨_, rfl⟩
    have HB : Hid (Below w.heap.size w w1) := hide (by rw [← hw1]; exact (Below.refl _ _).alloc (Nat.le_refl _) _)
    have HA : Whole w1 w.heap.size 40 #[.int .i64 21, .int .i64 ty, .int .i64 n] := by rw [← hw1]; exact Whole.new w _ _
    have p0 : w1.cell? ⟨w.heap.size, 0, none⟩ = some (.int .i64 21) := HA.cell 0
    have p1 : w1.cell? ⟨w.heap.size, 1, none⟩ = some (.int .i64 ty) := HA.cell 1
    go_enter Tryd.func25, Tryd.ntmps25
    go_upto_region 1 with fail
    clear hw1 HA
    go_wp2_with fail
    go_ret
    exact ⟨rfl, HB.out⟩
  have g21 : (op == 21) = false := by simpa using c21
  by_cases c32 : op = 32
  · subst c32
    by_cases h6 : ty = 6
    · subst h6
      obtain ⟨w1, hw1⟩ : ∃ z, w.alloc (.cells #[.int .i64 32, .int .i64 6, .int .i64 n] 40) = z := ⟨_, rfl⟩
      have HB : Hid (Below w.heap.size w w1) := hide (by rw [← hw1]; exact (Below.refl _ _).alloc (Nat.le_refl _) _)
      have HA : Whole w1 w.heap.size 40 #[.int .i64 32, .int .i64 6, .int .i64 n] := by rw [← hw1]; exact Whole.new w _ _
      have p0 : w1.cell? ⟨w.heap.size, 0, none⟩ = some (.int .i64 32) := HA.cell 0
      have p1 : w1.cell? ⟨w.heap.size, 1, none⟩ = some (.int .i64 6) := HA.cell 1
      go_enter Tryd.func25, Tryd.ntmps25
      go_upto_region 1 with fail
      clear hw1 HA
      go_wp2_with fail
      go_ret
      exact ⟨rfl, HB.out⟩
    · have g6 : (ty != 6) = true := by simpa using h6
      obtain ⟨w1, hw1⟩ : ∃ z, w.alloc (.cells #[.int .i64 32, .int .i64 ty, .int .i64 n] 40) = z := ⟨_, rfl⟩
      have HB : Hid (Below w.heap.size w w1) := hide (by rw [← hw1]; exact (Below.refl _ _).alloc (Nat.le_refl _) _)
      have HA : Whole w1 w.heap.size 40 #[.int .i64 32, .int .i64 ty, .int .i64 n] := by rw [← hw1]; exact Whole.new w _ _
      have p0 : w1.cell? ⟨w.heap.size, 0, none⟩ = some (.int .i64 32) := HA.cell 0
      have p1 : w1.cell? ⟨w.heap.size, 1, none⟩ = some (.int .i64 ty) := HA.cell 1
      go_enter Tryd.func25, Tryd.ntmps25
      go_upto_region 1 with fail
      clear hw1 HA
      go_wp2_with fail
      go_ret
      exact ⟨by simp [cntE, h6], HB.out⟩
  have g32 : (op == 32) = false := by simpa using c32
  obtain ⟨w1, hw1⟩ : ∃ z, w.alloc (.cells #[.int .i64 op, .int .i64 ty, .int .i64 n] 40) = z := ⟨_, rfl⟩
  have HB : Hid (Below w.heap.size w w1) := hide (by rw [← hw1]; exact (Below.refl _ _).alloc (Nat.le_refl _) _)
  have HA : Whole w1 w.heap.size 40 #[.int .i64 op, .int .i64 ty, .int .i64 n] := by rw [← hw1]; exact Whole.new w _ _
  have p0 : w1.cell? ⟨w.heap.size, 0, none⟩ = some (.int .i64 op) := HA.cell 0
  have p1 : w1.cell? ⟨w.heap.size, 1, none⟩ = some (.int .i64 ty) := HA.cell 1
  go_enter Tryd.func25, Tryd.ntmps25
  go_upto_region 1 with fail
  clear hw1 HA
  go_wp2_with fail
  go_ret
  exact ⟨by simp [cntE, c4, c1, c2, c25, c22, c23, c24, c33, c28, c21, c32], HB.out⟩
set_option maxRecDepth 100000 in
set_option maxHeartbeats 8000000 in
theorem ropers_any (op ty n : Int) (w : World) : Calls Tryd.prog 28 #[.agg #[.int .i64 op, .int .i64 ty, .int .i64 n]] w fun e w' => e = .returned (.int .i64 (cntE op ty)) ∧ Below w.heap.size w w' := by
  by_cases c4 : op = 4
  · subst c4
    obtain ⟨w1, hw1⟩ : ∃ z, w.alloc (.cells #[.int .i64 4, .int .i64 ty, .int .i64 n] 40) = z := ⟨_, rfl⟩
    have HB : Hid (Below w.heap.size w w1) := hide (by rw [← hw1]; exact (Below.refl _ _).alloc (Nat.le_refl _) _)
    have HA : Whole w1 w.heap.size 40 #[.int .i64 4, .int .i64 ty, .int .i64 n] := by rw [← hw1]; exact Whole.new w _ _
    have p0 : w1.cell? ⟨w.heap.size, 0, none⟩ = some (.int .i64 4) := HA.cell 0
    have p1 : w1.cell? ⟨w.heap.size, 1, none⟩ = some (.int .i64 ty) := HA.cell 1
    go_enter Tryd.func28, Tryd.ntmps28
    go_upto_region 1 with fail
    clear hw1 HA
    go_wp2_with fail
    go_ret
    exact ⟨rfl, HB.out⟩
  have g4 : (op == 4) = false := by simpa using c4
  by_cases c1 : op = 1
  · subst c1
    obtain ⟨w1, hw1⟩ : ∃ z, w.alloc (.cells #[.int .i64 1, .int .i64 ty, .int .i64 n] 40) = z := ⟨_, rfl⟩
    have HB : Hid (Below w.heap.size w w1) := hide (by rw [← hw1]; exact (Below.refl _ _).alloc (Nat.le_refl _) _)
    have HA : Whole w1 w.heap.size 40 #[.int .i64 1, .int .i64 ty, .int .i64 n] := by rw [← hw1]; exact Whole.new w _ _
    have p0 : w1.cell? ⟨w.heap.size, 0, none⟩ = some (.int .i64 1) := HA.cell 0
    have p1 : w1.cell? ⟨w.heap.size, 1, none⟩ = some (.int .i64 ty) := HA.cell 1
    go_enter Tryd.func28, Tryd.ntmps28
    go_upto_region 1 with fail
    clear hw1 HA
    go_wp2_with fail
    go_ret
    exact ⟨rfl, HB.out⟩
  have g1 : (op == 1) = false := by simpa using c1
  by_cases c2 : op = 2
  · subst c2
    obtain ⟨w1, hw1⟩ : ∃ z, w.alloc (.cells #[.int .i64 2, .int .i64 ty, .int .i64 n] 40) = z := ⟨_, rfl⟩
    have HB : Hid (Below w.heap.size w w1) := hide (by rw [← hw1]; exact (Below.refl _ _).alloc (Nat.le_refl _) _)
    have HA : Whole w1 w.heap.size 40 #[.int .i64 2, .int .i64 ty, .int .i64 n] := by rw [← hw1]; exact Whole.new w _ _
    have p0 : w1.cell? ⟨w.heap.size, 0, none⟩ = some (.int .i64 2) := HA.cell 0
    have p1 : w1.cell? ⟨w.heap.size, 1, none⟩ = some (.int .i64 ty) := HA.cell 1
    go_enter Tryd.func28, Tryd.ntmps28
    go_upto_region 1 with fail
    clear hw1 HA
    go_wp2_with fail
    go_ret
    exact ⟨rfl, HB.out⟩
  have g2 : (op == 2) = false := by simpa using c2
  by_cases c25 : op = 25
  · subst c25
    obtain ⟨w1, hw1⟩ : ∃ z, w.alloc (.cells #[.int .i64 25, .int .i64 ty, .int .i64 n] 40) = z := ⟨_, rfl⟩
    have HB : Hid (Below w.heap.size w w1) := hide (by rw [← hw1]; exact (Below.refl _ _).alloc (Nat.le_refl _) _)
    have HA : Whole w1 w.heap.size 40 #[.int .i64 25, .int .i64 ty, .int .i64 n] := by rw [← hw1]; exact Whole.new w _ _
    have p0 : w1.cell? ⟨w.heap.size, 0, none⟩ = some (.int .i64 25) := HA.cell 0
    have p1 : w1.cell? ⟨w.heap.size, 1, none⟩ = some (.int .i64 ty) := HA.cell 1
    go_enter Tryd.func28, Tryd.ntmps28
    go_upto_region 1 with fail
    clear hw1 HA
    go_wp2_with fail
    go_ret
    exact ⟨rfl, HB.out⟩
  have g25 : (op == 25) = false := by simpa using c25
  by_cases c22 : op = 22
  · subst c22
    obtain ⟨w1, hw1⟩ : ∃ z, w.alloc (.cells #[.int .i64 22, .int .i64 ty, .int .i64 n] 40) = z := ⟨_, rfl⟩
    have HB : Hid (Below w.heap.size w w1) := hide (by rw [← hw1]; exact (Below.refl _ _).alloc (Nat.le_refl _) _)
    have HA : Whole w1 w.heap.size 40 #[.int .i64 22, .int .i64 ty, .int .i64 n] := by rw [← hw1]; exact Whole.new w _ _
    have p0 : w1.cell? ⟨w.heap.size, 0, none⟩ = some (.int .i64 22) := HA.cell 0
    have p1 : w1.cell? ⟨w.heap.size, 1, none⟩ = some (.int .i64 ty) := HA.cell 1
    go_enter Tryd.func28, Tryd.ntmps28
    go_upto_region 1 with fail
    clear hw1 HA
    go_wp2_with fail
    go_ret
    exact ⟨rfl, HB.out⟩
  have g22 : (op == 22) = false := by simpa using c22
  by_cases c23 : op = 23
  · subst c23
    obtain ⟨w1, hw1⟩ : ∃ z, w.alloc (.cells #[.int .i64 23, .int .i64 ty, .int .i64 n] 40) = z := ⟨_, rfl⟩
    have HB : Hid (Below w.heap.size w w1) := hide (by rw [← hw1]; exact (Below.refl _ _).alloc (Nat.le_refl _) _)
    have HA : Whole w1 w.heap.size 40 #[.int .i64 23, .int .i64 ty, .int .i64 n] := by rw [← hw1]; exact Whole.new w _ _
    have p0 : w1.cell? ⟨w.heap.size, 0, none⟩ = some (.int .i64 23) := HA.cell 0
    have p1 : w1.cell? ⟨w.heap.size, 1, none⟩ = some (.int .i64 ty) := HA.cell 1
    go_enter Tryd.func28, Tryd.ntmps28
    go_upto_region 1 with fail
    clear hw1 HA
    go_wp2_with fail
    go_ret
    exact ⟨rfl, HB.out⟩
  have g23 : (op == 23) = false := by simpa using c23
  by_cases c24 : op = 24
  · subst c24
    obtain ⟨w1, hw1⟩ : ∃ z, w.alloc (.cells #[.int .i64 24, .int .i64 ty, .int .i64 n] 40) = z := ⟨_, rfl⟩
    have HB : Hid (Below w.heap.size w w1) := hide (by rw [← hw1]; exact (Below.refl _ _).alloc (Nat.le_refl _) _)
    have HA : Whole w1 w.heap.size 40 #[.int .i64 24, .int .i64 ty, .int .i64 n] := by rw [← hw1]; exact Whole.new w _ _
    have p0 : w1.cell? ⟨w.heap.size, 0, none⟩ = some (.int .i64 24) := HA.cell 0
    have p1 : w1.cell? ⟨w.heap.size, 1, none⟩ = some (.int .i64 ty) := HA.cell 1
    go_enter Tryd.func28, Tryd.ntmps28
    go_upto_region 1 with fail
    clear hw1 HA
    go_wp2_with fail
    go_ret
    exact ⟨rfl, HB.out⟩
  have g24 : (op == 24) = false := by simpa using c24
  by_cases c33 : op = 33
  · subst c33
    obtain ⟨w1, hw1⟩ : ∃ z, w.alloc (.cells #[.int .i64 33, .int .i64 ty, .int .i64 n] 40) = z := ⟨_, rfl⟩
    have HB : Hid (Below w.heap.size w w1) := hide (by rw [← hw1]; exact (Below.refl _ _).alloc (Nat.le_refl _) _)
    have HA : Whole w1 w.heap.size 40 #[.int .i64 33, .int .i64 ty, .int .i64 n] := by rw [← hw1]; exact Whole.new w _ _
    have p0 : w1.cell? ⟨w.heap.size, 0, none⟩ = some (.int .i64 33) := HA.cell 0
    have p1 : w1.cell? ⟨w.heap.size, 1, none⟩ = some (.int .i64 ty) := HA.cell 1
    go_enter Tryd.func28, Tryd.ntmps28
    go_upto_region 1 with fail
    clear hw1 HA
    go_wp2_with fail
    go_ret
    exact ⟨rfl, HB.out⟩
  have g33 : (op == 33) = false := by simpa using c33
  by_cases c28 : op = 28
  · subst c28
    obtain ⟨w1, hw1⟩ : ∃ z, w.alloc (.cells #[.int .i64 28, .int .i64 ty, .int .i64 n] 40) = z := ⟨_, rfl⟩
    have HB : Hid (Below w.heap.size w w1) := hide (by rw [← hw1]; exact (Below.refl _ _).alloc (Nat.le_refl _) _)
    have HA : Whole w1 w.heap.size 40 #[.int .i64 28, .int .i64 ty, .int .i64 n] := by rw [← hw1]; exact Whole.new w _ _
    have p0 : w1.cell? ⟨w.heap.size, 0, none⟩ = some (.int .i64 28) := HA.cell 0
    have p1 : w1.cell? ⟨w.heap.size, 1, none⟩ = some (.int .i64 ty) := HA.cell 1
    go_enter Tryd.func28, Tryd.ntmps28
    go_upto_region 1 with fail
    clear hw1 HA
    go_wp2_with fail
    go_ret
    exact ⟨rfl, HB.out⟩
  have g28 : (op == 28) = false := by simpa using c28
  by_cases c21 : op = 21
  · subst c21
    obtain ⟨w1, hw1⟩ : ∃ z, w.alloc (.cells #[.int .i64 21, .int .i64 ty, .int .i64 n] 40) = z := ⟨_, rfl⟩
    have HB : Hid (Below w.heap.size w w1) := hide (by rw [← hw1]; exact (Below.refl _ _).alloc (Nat.le_refl _) _)
    have HA : Whole w1 w.heap.size 40 #[.int .i64 21, .int .i64 ty, .int .i64 n] := by rw [← hw1]; exact Whole.new w _ _
    have p0 : w1.cell? ⟨w.heap.size, 0, none⟩ = some (.int .i64 21) := HA.cell 0
    have p1 : w1.cell? ⟨w.heap.size, 1, none⟩ = some (.int .i64 ty) := HA.cell 1
    go_enter Tryd.func28, Tryd.ntmps28
    go_upto_region 1 with fail
    clear hw1 HA
    go_wp2_with fail
    go_ret
    exact ⟨rfl, HB.out⟩
  have g21 : (op == 21) = false := by simpa using c21
  by_cases c32 : op = 32
  · subst c32
    by_cases h6 : ty = 6
    · subst h6
      obtain ⟨w1, hw1⟩ : ∃ z, w.alloc (.cells #[.int .i64 32, .int .i64 6, .int .i64 n] 40) = z := ⟨_, rfl⟩
      have HB : Hid (Below w.heap.size w w1) := hide (by rw [← hw1]; exact (Below.refl _ _).alloc (Nat.le_refl _) _)
      have HA : Whole w1 w.heap.size 40 #[.int .i64 32, .int .i64 6, .int .i64 n] := by rw [← hw1]; exact Whole.new w _ _
      have p0 : w1.cell? ⟨w.heap.size, 0, none⟩ = some (.int .i64 32) := HA.cell 0
      have p1 : w1.cell? ⟨w.heap.size, 1, none⟩ = some (.int .i64 6) := HA.cell 1
      go_enter Tryd.func28, Tryd.ntmps28
      go_upto_region 1 with fail
      clear hw1 HA
      go_wp2_with fail
      go_ret
      exact ⟨rfl, HB.out⟩
    · have g6 : (ty != 6) = true := by simpa using h6
      obtain ⟨w1, hw1⟩ : ∃ z, w.alloc (.cells #[.int .i64 32, .int .i64 ty, .int .i64 n] 40) = z := ⟨_, rfl⟩
      have HB : Hid (Below w.heap.size w w1) := hide (by rw [← hw1]; exact (Below.refl _ _).alloc (Nat.le_refl _) _)
      have HA : Whole w1 w.heap.size 40 #[.int .i64 32, .int .i64 ty, .int .i64 n] := by rw [← hw1]; exact Whole.new w _ _
      have p0 : w1.cell? ⟨w.heap.size, 0, none⟩ = some (.int .i64 32) := HA.cell 0
      have p1 : w1.cell? ⟨w.heap.size, 1, none⟩ = some (.int .i64 ty) := HA.cell 1
      go_enter Tryd.func28, Tryd.ntmps28
      go_upto_region 1 with fail
      clear hw1 HA
      go_wp2_with fail
      go_ret
      exact ⟨by simp [cntE, h6], HB.out⟩
  have g32 : (op == 32) = false := by simpa using c32
  obtain ⟨w1, hw1⟩ : ∃ z, w.alloc (.cells #[.int .i64 op, .int .i64 ty, .int .i64 n] 40) = z := ⟨_, rfl⟩
  have HB : Hid (Below w.heap.size w w1) := hide (by rw [← hw1]; exact (Below.refl _ _).alloc (Nat.le_refl _) _)
  have HA : Whole w1 w.heap.size 40 #[.int .i64 op, .int .i64 ty, .int .i64 n] := by rw [← hw1]; exact Whole.new w _ _
  have p0 : w1.cell? ⟨w.heap.size, 0, none⟩ = some (.int .i64 op) := HA.cell 0
  have p1 : w1.cell? ⟨w.heap.size, 1, none⟩ = some (.int .i64 ty) := HA.cell 1
  go_enter Tryd.func28, Tryd.ntmps28
  go_upto_region 1 with fail
  clear hw1 HA
  go_wp2_with fail
  go_ret
  exact ⟨by simp [cntE, c4, c1, c2, c25, c22, c23, c24, c33, c28, c21, c32], HB.out⟩
set_option maxRecDepth 100000 in
set_option maxHeartbeats 4000000 in
theorem cf_spec (op ty n : Int) (v0 v1 v2 v4 v6 : Value) (RA GA : Option Addr) (rn rc gn gc : Nat) (g4 : (op == 4) = false) (g25 : (op == 25) = false) (g28 : (op != 28) = true) (hsp : specM op = false) (w : World) :
    Calls Tryd.prog 27 #[.agg #[.int .i64 op, .int .i64 ty, .int .i64 n], .agg #[v0, v1, v2, .slice RA rn rc, v4], .agg #[.slice GA gn gc, v6]] w fun e w' => e = .returned (.int .i64 9) ∧ Below w.heap.size w w' := by
  obtain ⟨w1, hw1⟩ : ∃ z, ((w.alloc (.cells #[.int .i64 op, .int .i64 ty, .int .i64 n] 40)).alloc (.cells #[v0, v1, v2, .slice RA rn rc, v4] 28)).alloc (.cells #[.slice GA gn gc, v6] 32) = z := ⟨_, rfl⟩
  have HB : Hid (Below w.heap.size w w1) := hide (by rw [← hw1]; exact (((Below.refl _ _).alloc (Nat.le_refl _) _).alloc (by simp) _).alloc (by simp; omega) _)
  have HA : Whole w1 w.heap.size 40 #[.int .i64 op, .int .i64 ty, .int .i64 n] := by rw [← hw1]; exact ((Whole.new w _ _).alloc _).alloc _
  have HF : Whole w1 (w.heap.size + 1) 28 #[v0, v1, v2, .slice RA rn rc, v4] := by
    rw [← hw1, show w.heap.size + 1 = (w.alloc (.cells #[.int .i64 op, .int .i64 ty, .int .i64 n] 40)).heap.size by simp]; exact (Whole.new _ _ _).alloc _
  have HM : Whole w1 (w.heap.size + 2) 32 #[.slice GA gn gc, v6] := by
    rw [← hw1, show w.heap.size + 2 = ((w.alloc (.cells #[.int .i64 op, .int .i64 ty, .int .i64 n] 40)).alloc (.cells #[v0, v1, v2, .slice RA rn rc, v4] 28)).heap.size by simp]; exact Whole.new _ _ _
  have p0 : w1.cell? ⟨w.heap.size, 0, none⟩ = some (.int .i64 op) := HA.cell 0
  have p1 : w1.cell? ⟨w.heap.size, 1, none⟩ = some (.int .i64 ty) := HA.cell 1
  have p2 : w1.cell? ⟨w.heap.size, 2, none⟩ = some (.int .i64 n) := HA.cell 2
  have q3 : w1.cell? ⟨w.heap.size + 1, 3, none⟩ = some (.slice RA rn rc) := HF.cell 3
  have m0 : w1.cell? ⟨w.heap.size + 2, 0, none⟩ = some (.slice GA gn gc) := HM.cell 0
  clear HA HF HM
  go_enter Tryd.func27, Tryd.ntmps27
  go_upto_region 1 with fail
  clear hw1
  go_quiet (fail)
  go_wp2_with (first | (go_at_call 42; refine (spec_any _ _).mono ?_; rintro en wn ⟨rfl, rfl⟩; rw [hsp]))
  go_ret
  exact ⟨rfl, Below.drewN' HB.out _⟩
set_option maxRecDepth 100000 in
set_option maxHeartbeats 4000000 in
theorem cf_4_out (ty n : Int) (v0 v1 v2 v4 v6 : Value) (RA GA : Option Addr) (rn rc gn gc : Nat) (hsp : specM 4 = true) (hix : decide (0 ≤ n ∧ n < (rn : Int)) = false) (w : World) :
    Calls Tryd.prog 27 #[.agg #[.int .i64 4, .int .i64 ty, .int .i64 n], .agg #[v0, v1, v2, .slice RA rn rc, v4], .agg #[.slice GA gn gc, v6]] w fun e w' => e = .returned (.int .i64 8) ∧ Below w.heap.size w w' := by
  obtain ⟨w1, hw1⟩ : ∃ z, ((w.alloc (.cells #[.int .i64 4, .int .i64 ty, .int .i64 n] 40)).alloc (.cells #[v0, v1, v2, .slice RA rn rc, v4] 28)).alloc (.cells #[.slice GA gn gc, v6] 32) = z := ⟨_, rfl⟩
  have HB : Hid (Below w.heap.size w w1) := hide (by rw [← hw1]; exact (((Below.refl _ _).alloc (Nat.le_refl _) _).alloc (by simp) _).alloc (by simp; omega) _)
  have HA : Whole w1 w.heap.size 40 #[.int .i64 4, .int .i64 ty, .int .i64 n] := by rw [← hw1]; exact ((Whole.new w _ _).alloc _).alloc _
  have HF : Whole w1 (w.heap.size + 1) 28 #[v0, v1, v2, .slice RA rn rc, v4] := by
    rw [← hw1, show w.heap.size + 1 = (w.alloc (.cells #[.int .i64 4, .int .i64 ty, .int .i64 n] 40)).heap.size by simp]; exact (Whole.new _ _ _).alloc _
  have HM : Whole w1 (w.heap.size + 2) 32 #[.slice GA gn gc, v6] := by
    rw [← hw1, show w.heap.size + 2 = ((w.alloc (.cells #[.int .i64 4, .int .i64 ty, .int .i64 n] 40)).alloc (.cells #[v0, v1, v2, .slice RA rn rc, v4] 28)).heap.size by simp]; exact Whole.new _ _ _
  have p0 : w1.cell? ⟨w.heap.size, 0, none⟩ = some (.int .i64 4) := HA.cell 0
  have p1 : w1.cell? ⟨w.heap.size, 1, none⟩ = some (.int .i64 ty) := HA.cell 1
  have p2 : w1.cell? ⟨w.heap.size, 2, none⟩ = some (.int .i64 n) := HA.cell 2
  have q3 : w1.cell? ⟨w.heap.size + 1, 3, none⟩ = some (.slice RA rn rc) := HF.cell 3
  have m0 : w1.cell? ⟨w.heap.size + 2, 0, none⟩ = some (.slice GA gn gc) := HM.cell 0
  clear HA HF HM
  go_enter Tryd.func27, Tryd.ntmps27
  go_upto_region 1 with fail
  clear hw1
  go_quiet (fail)
  go_wp2_with (first | (go_at_call 42; refine (spec_any _ _).mono ?_; rintro en wn ⟨rfl, rfl⟩; rw [hsp]) | (go_at_call 43; refine (isidx_any _ _ _).mono ?_; rintro en wn ⟨rfl, rfl⟩; rw [hix]))
  go_ret
  exact ⟨rfl, Below.drewN' HB.out _⟩
set_option maxRecDepth 100000 in
set_option maxHeartbeats 4000000 in
theorem cf_4_ty (ty n : Int) (v0 v1 v2 v4 v6 : Value) (RA GA : Option Addr) (rn rc gn gc : Nat) (hsp : specM 4 = true) (hix : decide (0 ≤ n ∧ n < (rn : Int)) = true) (ht : (ty != 0) = true) (w : World) :
    Calls Tryd.prog 27 #[.agg #[.int .i64 4, .int .i64 ty, .int .i64 n], .agg #[v0, v1, v2, .slice RA rn rc, v4], .agg #[.slice GA gn gc, v6]] w fun e w' => e = .returned (.int .i64 3) ∧ Below w.heap.size w w' := by
  obtain ⟨w1, hw1⟩ : ∃ z, ((w.alloc (.cells #[.int .i64 4, .int .i64 ty, .int .i64 n] 40)).alloc (.cells #[v0, v1, v2, .slice RA rn rc, v4] 28)).alloc (.cells #[.slice GA gn gc, v6] 32) = z := ⟨_, rfl⟩
  have HB : Hid (Below w.heap.size w w1) := hide (by rw [← hw1]; exact (((Below.refl _ _).alloc (Nat.le_refl _) _).alloc (by simp) _).alloc (by simp; omega) _)
  have HA : Whole w1 w.heap.size 40 #[.int .i64 4, .int .i64 ty, .int .i64 n] := by rw [← hw1]; exact ((Whole.new w _ _).alloc _).alloc _
  have HF : Whole w1 (w.heap.size + 1) 28 #[v0, v1, v2, .slice RA rn rc, v4] := by
    rw [← hw1, show w.heap.size + 1 = (w.alloc (.cells #[.int .i64 4, .int .i64 ty, .int .i64 n] 40)).heap.size by simp]; exact (Whole.new _ _ _).alloc _
  have HM : Whole w1 (w.heap.size + 2) 32 #[.slice GA gn gc, v6] := by
    rw [← hw1, show w.heap.size + 2 = ((w.alloc (.cells #[.int .i64 4, .int .i64 ty, .int .i64 n] 40)).alloc (.cells #[v0, v1, v2, .slice RA rn rc, v4] 28)).heap.size by simp]; exact Whole.new _ _ _
  have p0 : w1.cell? ⟨w.heap.size, 0, none⟩ = some (.int .i64 4) := HA.cell 0
  have p1 : w1.cell? ⟨w.heap.size, 1, none⟩ = some (.int .i64 ty) := HA.cell 1
  have p2 : w1.cell? ⟨w.heap.size, 2, none⟩ = some (.int .i64 n) := HA.cell 2
  have q3 : w1.cell? ⟨w.heap.size + 1, 3, none⟩ = some (.slice RA rn rc) := HF.cell 3
  have m0 : w1.cell? ⟨w.heap.size + 2, 0, none⟩ = some (.slice GA gn gc) := HM.cell 0
  clear HA HF HM
  go_enter Tryd.func27, Tryd.ntmps27
  go_upto_region 1 with fail
  clear hw1
  go_quiet (fail)
  go_wp2_with (first | (go_at_call 42; refine (spec_any _ _).mono ?_; rintro en wn ⟨rfl, rfl⟩; rw [hsp]) | (go_at_call 43; refine (isidx_any _ _ _).mono ?_; rintro en wn ⟨rfl, rfl⟩; rw [hix]))
  go_ret
  exact ⟨rfl, Below.drewN' HB.out _⟩
set_option maxRecDepth 100000 in
set_option maxHeartbeats 4000000 in
theorem cf_4_0 (n : Int) (v0 v1 v2 v4 v6 : Value) (RA GA : Option Addr) (rn rc gn gc : Nat) (hsp : specM 4 = true) (hix : decide (0 ≤ n ∧ n < (rn : Int)) = true) (hn : (n != 0) = false) (w : World) :
    Calls Tryd.prog 27 #[.agg #[.int .i64 4, .int .i64 0, .int .i64 n], .agg #[v0, v1, v2, .slice RA rn rc, v4], .agg #[.slice GA gn gc, v6]] w fun e w' => e = .returned (.int .i64 0) ∧ Below w.heap.size w w' := by
  obtain ⟨w1, hw1⟩ : ∃ z, ((w.alloc (.cells #[.int .i64 4, .int .i64 0, .int .i64 n] 40)).alloc (.cells #[v0, v1, v2, .slice RA rn rc, v4] 28)).alloc (.cells #[.slice GA gn gc, v6] 32) = z := ⟨_, rfl⟩
  have HB : Hid (Below w.heap.size w w1) := hide (by rw [← hw1]; exact (((Below.refl _ _).alloc (Nat.le_refl _) _).alloc (by simp) _).alloc (by simp; omega) _)
  have HA : Whole w1 w.heap.size 40 #[.int .i64 4, .int .i64 0, .int .i64 n] := by rw [← hw1]; exact ((Whole.new w _ _).alloc _).alloc _
  have HF : Whole w1 (w.heap.size + 1) 28 #[v0, v1, v2, .slice RA rn rc, v4] := by
    rw [← hw1, show w.heap.size + 1 = (w.alloc (.cells #[.int .i64 4, .int .i64 0, .int .i64 n] 40)).heap.size by simp]; exact (Whole.new _ _ _).alloc _
  have HM : Whole w1 (w.heap.size + 2) 32 #[.slice GA gn gc, v6] := by
    rw [← hw1, show w.heap.size + 2 = ((w.alloc (.cells #[.int .i64 4, .int .i64 0, .int .i64 n] 40)).alloc (.cells #[v0, v1, v2, .slice RA rn rc, v4] 28)).heap.size by simp]; exact Whole.new _ _ _
  have p0 : w1.cell? ⟨w.heap.size, 0, none⟩ = some (.int .i64 4) := HA.cell 0
  have p1 : w1.cell? ⟨w.heap.size, 1, none⟩ = some (.int .i64 0) := HA.cell 1
  have p2 : w1.cell? ⟨w.heap.size, 2, none⟩ = some (.int .i64 n) := HA.cell 2
  have q3 : w1.cell? ⟨w.heap.size + 1, 3, none⟩ = some (.slice RA rn rc) := HF.cell 3
  have m0 : w1.cell? ⟨w.heap.size + 2, 0, none⟩ = some (.slice GA gn gc) := HM.cell 0
  clear HA HF HM
  go_enter Tryd.func27, Tryd.ntmps27
  go_upto_region 1 with fail
  clear hw1
  go_quiet (fail)
  go_wp2_with (first | (go_at_call 42; refine (spec_any _ _).mono ?_; rintro en wn ⟨rfl, rfl⟩; rw [hsp]) | (go_at_call 43; refine (isidx_any _ _ _).mono ?_; rintro en wn ⟨rfl, rfl⟩; rw [hix]))
  go_ret
  exact ⟨rfl, Below.drewN' HB.out _⟩
set_option maxRecDepth 100000 in
set_option maxHeartbeats 4000000 in
theorem cf_4_n (n : Int) (v0 v1 v2 v4 v6 : Value) (RA GA : Option Addr) (rn rc gn gc : Nat) (hsp : specM 4 = true) (hix : decide (0 ≤ n ∧ n < (rn : Int)) = true) (hn : (n != 0) = true) (hnu : numE 4 = true) (w : World) :
    Calls Tryd.prog 27 #[.agg #[.int .i64 4, .int .i64 0, .int .i64 n], .agg #[v0, v1, v2, .slice RA rn rc, v4], .agg #[.slice GA gn gc, v6]] w fun e w' => e = .returned (.int .i64 0) ∧ Below w.heap.size w w' := by
  obtain ⟨w1, hw1⟩ : ∃ z, ((w.alloc (.cells #[.int .i64 4, .int .i64 0, .int .i64 n] 40)).alloc (.cells #[v0, v1, v2, .slice RA rn rc, v4] 28)).alloc (.cells #[.slice GA gn gc, v6] 32) = z := ⟨_, rfl⟩
  have HB : Hid (Below w.heap.size w w1) := hide (by rw [← hw1]; exact (((Below.refl _ _).alloc (Nat.le_refl _) _).alloc (by simp) _).alloc (by simp; omega) _)
  have HA : Whole w1 w.heap.size 40 #[.int .i64 4, .int .i64 0, .int .i64 n] := by rw [← hw1]; exact ((Whole.new w _ _).alloc _).alloc _
  have HF : Whole w1 (w.heap.size + 1) 28 #[v0, v1, v2, .slice RA rn rc, v4] := by
    rw [← hw1, show w.heap.size + 1 = (w.alloc (.cells #[.int .i64 4, .int .i64 0, .int .i64 n] 40)).heap.size by simp]; exact (Whole.new _ _ _).alloc _
  have HM : Whole w1 (w.heap.size + 2) 32 #[.slice GA gn gc, v6] := by
    rw [← hw1, show w.heap.size + 2 = ((w.alloc (.cells #[.int .i64 4, .int .i64 0, .int .i64 n] 40)).alloc (.cells #[v0, v1, v2, .slice RA rn rc, v4] 28)).heap.size by simp]; exact Whole.new _ _ _
  have p0 : w1.cell? ⟨w.heap.size, 0, none⟩ = some (.int .i64 4) := HA.cell 0
  have p1 : w1.cell? ⟨w.heap.size, 1, none⟩ = some (.int .i64 0) := HA.cell 1
  have p2 : w1.cell? ⟨w.heap.size, 2, none⟩ = some (.int .i64 n) := HA.cell 2
  have q3 : w1.cell? ⟨w.heap.size + 1, 3, none⟩ = some (.slice RA rn rc) := HF.cell 3
  have m0 : w1.cell? ⟨w.heap.size + 2, 0, none⟩ = some (.slice GA gn gc) := HM.cell 0
  clear HA HF HM
  go_enter Tryd.func27, Tryd.ntmps27
  go_upto_region 1 with fail
  clear hw1
  go_quiet (fail)
  go_wp2_with (first | (go_at_call 42; refine (spec_any _ _).mono ?_; rintro en wn ⟨rfl, rfl⟩; rw [hsp]) | (go_at_call 43; refine (isidx_any _ _ _).mono ?_; rintro en wn ⟨rfl, rfl⟩; rw [hix]) | (go_at_call 44; refine (hasnum_any _ _).mono ?_; rintro en wn ⟨rfl, rfl⟩; rw [hnu]))
  go_ret
  exact ⟨rfl, Below.drewN' HB.out _⟩
set_option maxRecDepth 100000 in
set_option maxHeartbeats 4000000 in
theorem cf_25_out (ty n : Int) (v0 v1 v2 v4 v6 : Value) (RA GA : Option Addr) (rn rc gn gc : Nat) (hsp : specM 25 = true) (hix : decide (0 ≤ n ∧ n < (gn : Int)) = false) (w : World) :
    Calls Tryd.prog 27 #[.agg #[.int .i64 25, .int .i64 ty, .int .i64 n], .agg #[v0, v1, v2, .slice RA rn rc, v4], .agg #[.slice GA gn gc, v6]] w fun e w' => e = .returned (.int .i64 8) ∧ Below w.heap.size w w' := by
  obtain ⟨w1, hw1⟩ : ∃ z, ((w.alloc (.cells #[.int .i64 25, .int .i64 ty, .int .i64 n] 40)).alloc (.cells #[v0, v1, v2, .slice RA rn rc, v4] 28)).alloc (.cells #[.slice GA gn gc, v6] 32) = z := ⟨_, rfl⟩
  have HB : Hid (Below w.heap.size w w1) := hide (by rw [← hw1]; exact (((Below.refl _ _).alloc (Nat.le_refl _) _).alloc (by simp) _).alloc (by simp; omega) _)
  have HA : Whole w1 w.heap.size 40 #[.int .i64 25, .int .i64 ty, .int .i64 n] := by rw [← hw1]; exact ((Whole.new w _ _).alloc _).alloc _
  have HF : Whole w1 (w.heap.size + 1) 28 #[v0, v1, v2, .slice RA rn rc, v4] := by
    rw [← hw1, show w.heap.size + 1 = (w.alloc (.cells #[.int .i64 25, .int .i64 ty, .int .i64 n] 40)).heap.size by simp]; exact (Whole.new _ _ _).alloc _
  have HM : Whole w1 (w.heap.size + 2) 32 #[.slice GA gn gc, v6] := by
    rw [← hw1, show w.heap.size + 2 = ((w.alloc (.cells #[.int .i64 25, .int .i64 ty, .int .i64 n] 40)).alloc (.cells #[v0, v1, v2, .slice RA rn rc, v4] 28)).heap.size by simp]; exact Whole.new _ _ _
  have p0 : w1.cell? ⟨w.heap.size, 0, none⟩ = some (.int .i64 25) := HA.cell 0
  have p1 : w1.cell? ⟨w.heap.size, 1, none⟩ = some (.int .i64 ty) := HA.cell 1
  have p2 : w1.cell? ⟨w.heap.size, 2, none⟩ = some (.int .i64 n) := HA.cell 2
  have q3 : w1.cell? ⟨w.heap.size + 1, 3, none⟩ = some (.slice RA rn rc) := HF.cell 3
  have m0 : w1.cell? ⟨w.heap.size + 2, 0, none⟩ = some (.slice GA gn gc) := HM.cell 0
  clear HA HF HM
  go_enter Tryd.func27, Tryd.ntmps27
  go_upto_region 1 with fail
  clear hw1
  go_quiet (fail)
  go_wp2_with (first | (go_at_call 42; refine (spec_any _ _).mono ?_; rintro en wn ⟨rfl, rfl⟩; rw [hsp]) | (go_at_call 43; refine (isidx_any _ _ _).mono ?_; rintro en wn ⟨rfl, rfl⟩; rw [hix]))
  go_ret
  exact ⟨rfl, Below.drewN' HB.out _⟩
set_option maxRecDepth 100000 in
set_option maxHeartbeats 4000000 in
theorem cf_25_0 (ty n : Int) (v0 v1 v2 v4 v6 : Value) (RA GA : Option Addr) (rn rc gn gc : Nat) (hsp : specM 25 = true) (hix : decide (0 ≤ n ∧ n < (gn : Int)) = true) (hn : (n != 0) = false) (w : World) :
    Calls Tryd.prog 27 #[.agg #[.int .i64 25, .int .i64 ty, .int .i64 n], .agg #[v0, v1, v2, .slice RA rn rc, v4], .agg #[.slice GA gn gc, v6]] w fun e w' => e = .returned (.int .i64 0) ∧ Below w.heap.size w w' := by
  obtain ⟨w1, hw1⟩ : ∃ z, ((w.alloc (.cells #[.int .i64 25, .int .i64 ty, .int .i64 n] 40)).alloc (.cells #[v0, v1, v2, .slice RA rn rc, v4] 28)).alloc (.cells #[.slice GA gn gc, v6] 32) = z := ⟨_, rfl⟩
  have HB : Hid (Below w.heap.size w w1) := hide (by rw [← hw1]; exact (((Below.refl _ _).alloc (Nat.le_refl _) _).alloc (by simp) _).alloc (by simp; omega) _)
  have HA : Whole w1 w.heap.size 40 #[.int .i64 25, .int .i64 ty, .int .i64 n] := by rw [← hw1]; exact ((Whole.new w _ _).alloc _).alloc _
  have HF : Whole w1 (w.heap.size + 1) 28 #[v0, v1, v2, .slice RA rn rc, v4] := by
    rw [← hw1, show w.heap.size + 1 = (w.alloc (.cells #[.int .i64 25, .int .i64 ty, .int .i64 n] 40)).heap.size by simp]; exact (Whole.new _ _ _).alloc _
  have HM : Whole w1 (w.heap.size + 2) 32 #[.slice GA gn gc, v6] := by
    rw [← hw1, show w.heap.size + 2 = ((w.alloc (.cells #[.int .i64 25, .int .i64 ty, .int .i64 n] 40)).alloc (.cells #[v0, v1, v2, .slice RA rn rc, v4] 28)).heap.size by simp]; exact Whole.new _ _ _
  have p0 : w1.cell? ⟨w.heap.size, 0, none⟩ = some (.int .i64 25) := HA.cell 0
  have p1 : w1.cell? ⟨w.heap.size, 1, none⟩ = some (.int .i64 ty) := HA.cell 1
  have p2 : w1.cell? ⟨w.heap.size, 2, none⟩ = some (.int .i64 n) := HA.cell 2
  have q3 : w1.cell? ⟨w.heap.size + 1, 3, none⟩ = some (.slice RA rn rc) := HF.cell 3
  have m0 : w1.cell? ⟨w.heap.size + 2, 0, none⟩ = some (.slice GA gn gc) := HM.cell 0
  clear HA HF HM
  go_enter Tryd.func27, Tryd.ntmps27
  go_upto_region 1 with fail
  clear hw1
  go_quiet (fail)
  go_wp2_with (first | (go_at_call 42; refine (spec_any _ _).mono ?_; rintro en wn ⟨rfl, rfl⟩; rw [hsp]) | (go_at_call 43; refine (isidx_any _ _ _).mono ?_; rintro en wn ⟨rfl, rfl⟩; rw [hix]))
  go_ret
  exact ⟨rfl, Below.drewN' HB.out _⟩
set_option maxRecDepth 100000 in
set_option maxHeartbeats 4000000 in
theorem cf_25_n (ty n : Int) (v0 v1 v2 v4 v6 : Value) (RA GA : Option Addr) (rn rc gn gc : Nat) (hsp : specM 25 = true) (hix : decide (0 ≤ n ∧ n < (gn : Int)) = true) (hn : (n != 0) = true) (hnu : numE 25 = true) (w : World) :
    Calls Tryd.prog 27 #[.agg #[.int .i64 25, .int .i64 ty, .int .i64 n], .agg #[v0, v1, v2, .slice RA rn rc, v4], .agg #[.slice GA gn gc, v6]] w fun e w' => e = .returned (.int .i64 0) ∧ Below w.heap.size w w' := by
  obtain ⟨w1, hw1⟩ : ∃ z, ((w.alloc (.cells #[.int .i64 25, .int .i64 ty, .int .i64 n] 40)).alloc (.cells #[v0, v1, v2, .slice RA rn rc, v4] 28)).alloc (.cells #[.slice GA gn gc, v6] 32) = z := ⟨_, rfl⟩
  have HB : Hid (Below w.heap.size w w1) := hide (by rw [← hw1]; exact (((Below.refl _ _).alloc (Nat.le_refl _) _).alloc (by simp) _).alloc (by simp; omega) _)
  have HA : Whole w1 w.heap.size 40 #[.int .i64 25, .int .i64 ty, .int .i64 n] := by rw [← hw1]; exact ((Whole.new w _ _).alloc _).alloc _
  have HF : Whole w1 (w.heap.size + 1) 28 #[v0, v1, v2, .slice RA rn rc, v4] := by
    rw [← hw1, show w.heap.size + 1 = (w.alloc (.cells #[.int .i64 25, .int .i64 ty, .int .i64 n] 40)).heap.size by simp]; exact (Whole.new _ _ _).alloc _
  have HM : Whole w1 (w.heap.size + 2) 32 #[.slice GA gn gc, v6] := by
    rw [← hw1, show w.heap.size + 2 = ((w.alloc (.cells #[.int .i64 25, .int .i64 ty, .int .i64 n] 40)).alloc (.cells #[v0, v1, v2, .slice RA rn rc, v4] 28)).heap.size by simp]; exact Whole.new _ _ _
  have p0 : w1.cell? ⟨w.heap.size, 0, none⟩ = some (.int .i64 25) := HA.cell 0
  have p1 : w1.cell? ⟨w.heap.size, 1, none⟩ = some (.int .i64 ty) := HA.cell 1
  have p2 : w1.cell? ⟨w.heap.size, 2, none⟩ = some (.int .i64 n) := HA.cell 2
  have q3 : w1.cell? ⟨w.heap.size + 1, 3, none⟩ = some (.slice RA rn rc) := HF.cell 3
  have m0 : w1.cell? ⟨w.heap.size + 2, 0, none⟩ = some (.slice GA gn gc) := HM.cell 0
  clear HA HF HM
  go_enter Tryd.func27, Tryd.ntmps27
  go_upto_region 1 with fail
  clear hw1
  go_quiet (fail)
  go_wp2_with (first | (go_at_call 42; refine (spec_any _ _).mono ?_; rintro en wn ⟨rfl, rfl⟩; rw [hsp]) | (go_at_call 43; refine (isidx_any _ _ _).mono ?_; rintro en wn ⟨rfl, rfl⟩; rw [hix]) | (go_at_call 44; refine (hasnum_any _ _).mono ?_; rintro en wn ⟨rfl, rfl⟩; rw [hnu]))
  go_ret
  exact ⟨rfl, Below.drewN' HB.out _⟩
set_option maxRecDepth 100000 in
set_option maxHeartbeats 4000000 in
theorem cf_28_0 (ty n : Int) (v0 v1 v2 v4 v6 : Value) (RA GA : Option Addr) (rn rc gn gc : Nat) (hn : (n != 0) = false) (w : World) :
    Calls Tryd.prog 27 #[.agg #[.int .i64 28, .int .i64 ty, .int .i64 n], .agg #[v0, v1, v2, .slice RA rn rc, v4], .agg #[.slice GA gn gc, v6]] w fun e w' => e = .returned (.int .i64 0) ∧ Below w.heap.size w w' := by
  obtain ⟨w1, hw1⟩ : ∃ z, ((w.alloc (.cells #[.int .i64 28, .int .i64 ty, .int .i64 n] 40)).alloc (.cells #[v0, v1, v2, .slice RA rn rc, v4] 28)).alloc (.cells #[.slice GA gn gc, v6] 32) = z := ⟨_, rfl⟩
  have HB : Hid (Below w.heap.size w w1) := hide (by rw [← hw1]; exact (((Below.refl _ _).alloc (Nat.le_refl _) _).alloc (by simp) _).alloc (by simp; omega) _)
  have HA : Whole w1 w.heap.size 40 #[.int .i64 28, .int .i64 ty, .int .i64 n] := by rw [← hw1]; exact ((Whole.new w _ _).alloc _).alloc _
  have HF : Whole w1 (w.heap.size + 1) 28 #[v0, v1, v2, .slice RA rn rc, v4] := by
    rw [← hw1, show w.heap.size + 1 = (w.alloc (.cells #[.int .i64 28, .int .i64 ty, .int .i64 n] 40)).heap.size by simp]; exact (Whole.new _ _ _).alloc _
  have HM : Whole w1 (w.heap.size + 2) 32 #[.slice GA gn gc, v6] := by
    rw [← hw1, show w.heap.size + 2 = ((w.alloc (.cells #[.int .i64 28, .int .i64 ty, .int .i64 n] 40)).alloc (.cells #[v0, v1, v2, .slice RA rn rc, v4] 28)).heap.size by simp]; exact Whole.new _ _ _
  have p0 : w1.cell? ⟨w.heap.size, 0, none⟩ = some (.int .i64 28) := HA.cell 0
  have p1 : w1.cell? ⟨w.heap.size, 1, none⟩ = some (.int .i64 ty) := HA.cell 1
  have p2 : w1.cell? ⟨w.heap.size, 2, none⟩ = some (.int .i64 n) := HA.cell 2
  have q3 : w1.cell? ⟨w.heap.size + 1, 3, none⟩ = some (.slice RA rn rc) := HF.cell 3
  have m0 : w1.cell? ⟨w.heap.size + 2, 0, none⟩ = some (.slice GA gn gc) := HM.cell 0
  clear HA HF HM
  go_enter Tryd.func27, Tryd.ntmps27
  go_upto_region 1 with fail
  clear hw1
  go_quiet (fail)
  go_wp2_with fail
  go_ret
  exact ⟨rfl, Below.drewN' HB.out _⟩
set_option maxRecDepth 100000 in
set_option maxHeartbeats 4000000 in
theorem cf_28_n (ty n : Int) (v0 v1 v2 v4 v6 : Value) (RA GA : Option Addr) (rn rc gn gc : Nat) (hn : (n != 0) = true) (hnu : numE 28 = false) (w : World) :
    Calls Tryd.prog 27 #[.agg #[.int .i64 28, .int .i64 ty, .int .i64 n], .agg #[v0, v1, v2, .slice RA rn rc, v4], .agg #[.slice GA gn gc, v6]] w fun e w' => e = .returned (.int .i64 3) ∧ Below w.heap.size w w' := by
  obtain ⟨w1, hw1⟩ : ∃ z, ((w.alloc (.cells #[.int .i64 28, .int .i64 ty, .int .i64 n] 40)).alloc (.cells #[v0, v1, v2, .slice RA rn rc, v4] 28)).alloc (.cells #[.slice GA gn gc, v6] 32) = z := ⟨_, rfl⟩
  have HB : Hid (Below w.heap.size w w1) := hide (by rw [← hw1]; exact (((Below.refl _ _).alloc (Nat.le_refl _) _).alloc (by simp) _).alloc (by simp; omega) _)
  have HA : Whole w1 w.heap.size 40 #[.int .i64 28, .int .i64 ty, .int .i64 n] := by rw [← hw1]; exact ((Whole.new w _ _).alloc _).alloc _
  have HF : Whole w1 (w.heap.size + 1) 28 #[v0, v1, v2, .slice RA rn rc, v4] := by
    rw [← hw1, show w.heap.size + 1 = (w.alloc (.cells #[.int .i64 28, .int .i64 ty, .int .i64 n] 40)).heap.size by simp]; exact (Whole.new _ _ _).alloc _
  have HM : Whole w1 (w.heap.size + 2) 32 #[.slice GA gn gc, v6] := by
    rw [← hw1, show w.heap.size + 2 = ((w.alloc (.cells #[.int .i64 28, .int .i64 ty, .int .i64 n] 40)).alloc (.cells #[v0, v1, v2, .slice RA rn rc, v4] 28)).heap.size by simp]; exact Whole.new _ _ _
  have p0 : w1.cell? ⟨w.heap.size, 0, none⟩ = some (.int .i64 28) := HA.cell 0
  have p1 : w1.cell? ⟨w.heap.size, 1, none⟩ = some (.int .i64 ty) := HA.cell 1
  have p2 : w1.cell? ⟨w.heap.size, 2, none⟩ = some (.int .i64 n) := HA.cell 2
  have q3 : w1.cell? ⟨w.heap.size + 1, 3, none⟩ = some (.slice RA rn rc) := HF.cell 3
  have m0 : w1.cell? ⟨w.heap.size + 2, 0, none⟩ = some (.slice GA gn gc) := HM.cell 0
  clear HA HF HM
  go_enter Tryd.func27, Tryd.ntmps27
  go_upto_region 1 with fail
  clear hw1
  go_quiet (fail)
  go_wp2_with (first | (go_at_call 44; refine (hasnum_any _ _).mono ?_; rintro en wn ⟨rfl, rfl⟩; rw [hnu]))
  go_ret
  exact ⟨rfl, Below.drewN' HB.out _⟩
set_option maxRecDepth 100000 in
set_option maxHeartbeats 4000000 in
theorem cf_0 (op ty n : Int) (v0 v1 v2 v4 v6 : Value) (RA GA : Option Addr) (rn rc gn gc : Nat) (g4 : (op == 4) = false) (g25 : (op == 25) = false) (g28 : (op != 28) = true) (hsp : specM op = true) (hn : (n != 0) = false) (w : World) :
    Calls Tryd.prog 27 #[.agg #[.int .i64 op, .int .i64 ty, .int .i64 n], .agg #[v0, v1, v2, .slice RA rn rc, v4], .agg #[.slice GA gn gc, v6]] w fun e w' => e = .returned (.int .i64 0) ∧ Below w.heap.size w w' := by
  obtain ⟨w1, hw1⟩ : ∃ z, ((w.alloc (.cells #[.int .i64 op, .int .i64 ty, .int .i64 n] 40)).alloc (.cells #[v0, v1, v2, .slice RA rn rc, v4] 28)).alloc (.cells #[.slice GA gn gc, v6] 32) = z := ⟨_, rfl⟩
  have HB : Hid (Below w.heap.size w w1) := hide (by rw [← hw1]; exact (((Below.refl _ _).alloc (Nat.le_refl _) _).alloc (by simp) _).alloc (by simp; omega) _)
  have HA : Whole w1 w.heap.size 40 #[.int .i64 op, .int .i64 ty, .int .i64 n] := by rw [← hw1]; exact ((Whole.new w _ _).alloc _).alloc _
  have HF : Whole w1 (w.heap.size + 1) 28 #[v0, v1, v2, .slice RA rn rc, v4] := by
    rw [← hw1, show w.heap.size + 1 = (w.alloc (.cells #[.int .i64 op, .int .i64 ty, .int .i64 n] 40)).heap.size by simp]; exact (Whole.new _ _ _).alloc _
  have HM : Whole w1 (w.heap.size + 2) 32 #[.slice GA gn gc, v6] := by
    rw [← hw1, show w.heap.size + 2 = ((w.alloc (.cells #[.int .i64 op, .int .i64 ty, .int .i64 n] 40)).alloc (.cells #[v0, v1, v2, .slice RA rn rc, v4] 28)).heap.size by simp]; exact Whole.new _ _ _
  have p0 : w1.cell? ⟨w.heap.size, 0, none⟩ = some (.int .i64 op) := HA.cell 0
  have p1 : w1.cell? ⟨w.heap.size, 1, none⟩ = some (.int .i64 ty) := HA.cell 1
  have p2 : w1.cell? ⟨w.heap.size, 2, none⟩ = some (.int .i64 n) := HA.cell 2
  have q3 : w1.cell? ⟨w.heap.size + 1, 3, none⟩ = some (.slice RA rn rc) := HF.cell 3
  have m0 : w1.cell? ⟨w.heap.size + 2, 0, none⟩ = some (.slice GA gn gc) := HM.cell 0
  clear HA HF HM
  go_enter Tryd.func27, Tryd.ntmps27
  go_upto_region 1 with fail
  clear hw1
  go_quiet (fail)
  go_wp2_with (first | (go_at_call 42; refine (spec_any _ _).mono ?_; rintro en wn ⟨rfl, rfl⟩; rw [hsp]))
  go_ret
  exact ⟨rfl, Below.drewN' HB.out _⟩
set_option maxRecDepth 100000 in
set_option maxHeartbeats 4000000 in
theorem cf_num (op ty n : Int) (v0 v1 v2 v4 v6 : Value) (RA GA : Option Addr) (rn rc gn gc : Nat) (g4 : (op == 4) = false) (g25 : (op == 25) = false) (g28 : (op != 28) = true) (hsp : specM op = true) (hn : (n != 0) = true) (hnu : numE op = true) (w : World) :
    Calls Tryd.prog 27 #[.agg #[.int .i64 op, .int .i64 ty, .int .i64 n], .agg #[v0, v1, v2, .slice RA rn rc, v4], .agg #[.slice GA gn gc, v6]] w fun e w' => e = .returned (.int .i64 0) ∧ Below w.heap.size w w' := by
  obtain ⟨w1, hw1⟩ : ∃ z, ((w.alloc (.cells #[.int .i64 op, .int .i64 ty, .int .i64 n] 40)).alloc (.cells #[v0, v1, v2, .slice RA rn rc, v4] 28)).alloc (.cells #[.slice GA gn gc, v6] 32) = z := ⟨_, rfl⟩
  have HB : Hid (Below w.heap.size w w1) := hide (by rw [← hw1]; exact (((Below.refl _ _).alloc (Nat.le_refl _) _).alloc (by simp) _).alloc (by simp; omega) _)
  have HA : Whole w1 w.heap.size 40 #[.int .i64 op, .int .i64 ty, .int .i64 n] := by rw [← hw1]; exact ((Whole.new w _ _).alloc _).alloc _
  have HF : Whole w1 (w.heap.size + 1) 28 #[v0, v1, v2, .slice RA rn rc, v4] := by
    rw [← hw1, show w.heap.size + 1 = (w.alloc (.cells #[.int .i64 op, .int .i64 ty, .int .i64 n] 40)).heap.size by simp]; exact (Whole.new _ _ _).alloc _
  have HM : Whole w1 (w.heap.size + 2) 32 #[.slice GA gn gc, v6] := by
    rw [← hw1, show w.heap.size + 2 = ((w.alloc (.cells #[.int .i64 op, .int .i64 ty, .int .i64 n] 40)).alloc (.cells #[v0, v1, v2, .slice RA rn rc, v4] 28)).heap.size by simp]; exact Whole.new _ _ _
  have p0 : w1.cell? ⟨w.heap.size, 0, none⟩ = some (.int .i64 op) := HA.cell 0
  have p1 : w1.cell? ⟨w.heap.size, 1, none⟩ = some (.int .i64 ty) := HA.cell 1
  have p2 : w1.cell? ⟨w.heap.size, 2, none⟩ = some (.int .i64 n) := HA.cell 2
  have q3 : w1.cell? ⟨w.heap.size + 1, 3, none⟩ = some (.slice RA rn rc) := HF.cell 3
  have m0 : w1.cell? ⟨w.heap.size + 2, 0, none⟩ = some (.slice GA gn gc) := HM.cell 0
  clear HA HF HM
  go_enter Tryd.func27, Tryd.ntmps27
  go_upto_region 1 with fail
  clear hw1
  go_quiet (fail)
  go_wp2_with (first | (go_at_call 42; refine (spec_any _ _).mono ?_; rintro en wn ⟨rfl, rfl⟩; rw [hsp]) | (go_at_call 44; refine (hasnum_any _ _).mono ?_; rintro en wn ⟨rfl, rfl⟩; rw [hnu]))
  go_ret
  exact ⟨rfl, Below.drewN' HB.out _⟩
set_option maxRecDepth 100000 in
set_option maxHeartbeats 4000000 in
theorem cf_n (op ty n : Int) (v0 v1 v2 v4 v6 : Value) (RA GA : Option Addr) (rn rc gn gc : Nat) (g4 : (op == 4) = false) (g25 : (op == 25) = false) (g28 : (op != 28) = true) (hsp : specM op = true) (hn : (n != 0) = true) (hnu : numE op = false) (w : World) :
    Calls Tryd.prog 27 #[.agg #[.int .i64 op, .int .i64 ty, .int .i64 n], .agg #[v0, v1, v2, .slice RA rn rc, v4], .agg #[.slice GA gn gc, v6]] w fun e w' => e = .returned (.int .i64 3) ∧ Below w.heap.size w w' := by
  obtain ⟨w1, hw1⟩ : ∃ z, ((w.alloc (.cells #[.int .i64 op, .int .i64 ty, .int .i64 n] 40)).alloc (.cells #[v0, v1, v2, .slice RA rn rc, v4] 28)).alloc (.cells #[.slice GA gn gc, v6] 32) = z := ⟨_, rfl⟩
  have HB : Hid (Below w.heap.size w w1) := hide (by rw [← hw1]; exact (((Below.refl _ _).alloc (Nat.le_refl _) _).alloc (by simp) _).alloc (by simp; omega) _)
  have HA : Whole w1 w.heap.size 40 #[.int .i64 op, .int .i64 ty, .int .i64 n] := by rw [← hw1]; exact ((Whole.new w _ _).alloc _).alloc _
  have HF : Whole w1 (w.heap.size + 1) 28 #[v0, v1, v2, .slice RA rn rc, v4] := by
    rw [← hw1, show w.heap.size + 1 = (w.alloc (.cells #[.int .i64 op, .int .i64 ty, .int .i64 n] 40)).heap.size by simp]; exact (Whole.new _ _ _).alloc _
  have HM : Whole w1 (w.heap.size + 2) 32 #[.slice GA gn gc, v6] := by
    rw [← hw1, show w.heap.size + 2 = ((w.alloc (.cells #[.int .i64 op, .int .i64 ty, .int .i64 n] 40)).alloc (.cells #[v0, v1, v2, .slice RA rn rc, v4] 28)).heap.size by simp]; exact Whole.new _ _ _
  have p0 : w1.cell? ⟨w.heap.size, 0, none⟩ = some (.int .i64 op) := HA.cell 0
  have p1 : w1.cell? ⟨w.heap.size, 1, none⟩ = some (.int .i64 ty) := HA.cell 1
  have p2 : w1.cell? ⟨w.heap.size, 2, none⟩ = some (.int .i64 n) := HA.cell 2
  have q3 : w1.cell? ⟨w.heap.size + 1, 3, none⟩ = some (.slice RA rn rc) := HF.cell 3
  have m0 : w1.cell? ⟨w.heap.size + 2, 0, none⟩ = some (.slice GA gn gc) := HM.cell 0
  clear HA HF HM
  go_enter Tryd.func27, Tryd.ntmps27
  go_upto_region 1 with fail
  clear hw1
  go_quiet (fail)
  go_wp2_with (first | (go_at_call 42; refine (spec_any _ _).mono ?_; rintro en wn ⟨rfl, rfl⟩; rw [hsp]) | (go_at_call 44; refine (hasnum_any _ _).mono ?_; rintro en wn ⟨rfl, rfl⟩; rw [hnu]))
  go_ret
  exact ⟨rfl, Below.drewN' HB.out _⟩
theorem fields_any (op ty n : Int) (v0 v1 v2 v4 v6 : Value) (RA GA : Option Addr) (rn rc gn gc : Nat) (w : World) :
    Calls Tryd.prog 27 #[.agg #[.int .i64 op, .int .i64 ty, .int .i64 n], .agg #[v0, v1, v2, .slice RA rn rc, v4], .agg #[.slice GA gn gc, v6]] w fun e w' => e = .returned (.int .i64 (fldE op ty n rn gn)) ∧ Below w.heap.size w w' := by
  by_cases c4 : op = 4
  · subst c4
    by_cases hi : 0 ≤ n ∧ n < (rn : Int)
    · by_cases ht : ty = 0
      · subst ht
        rw [show fldE 4 0 n rn gn = 0 by simp [fldE, hi, numE, show specM 4 = true by rfl]]
        cases hn : (n != 0) with
        | false => exact cf_4_0 n v0 v1 v2 v4 v6 RA GA rn rc gn gc rfl (decide_eq_true hi) hn w
        | true => exact cf_4_n n v0 v1 v2 v4 v6 RA GA rn rc gn gc rfl (decide_eq_true hi) hn rfl w
      · rw [show fldE 4 ty n rn gn = 3 by simp [fldE, hi, ht, show specM 4 = true by rfl]]
        exact cf_4_ty ty n v0 v1 v2 v4 v6 RA GA rn rc gn gc rfl (decide_eq_true hi) (by simpa using ht) w
    · rw [show fldE 4 ty n rn gn = 8 by unfold fldE; rw [if_neg (by simp [show specM 4 = true by rfl]), if_pos (.inl ⟨rfl, hi⟩)]]
      exact cf_4_out ty n v0 v1 v2 v4 v6 RA GA rn rc gn gc rfl (decide_eq_false hi) w
  have g4 : (op == 4) = false := by simpa using c4
  by_cases c25 : op = 25
  · subst c25
    by_cases hi : 0 ≤ n ∧ n < (gn : Int)
    · rw [show fldE 25 ty n rn gn = 0 by simp [fldE, hi, numE, show specM 25 = true by rfl]]
      cases hn : (n != 0) with
      | false => exact cf_25_0 ty n v0 v1 v2 v4 v6 RA GA rn rc gn gc rfl (decide_eq_true hi) hn w
      | true => exact cf_25_n ty n v0 v1 v2 v4 v6 RA GA rn rc gn gc rfl (decide_eq_true hi) hn rfl w
    · rw [show fldE 25 ty n rn gn = 8 by unfold fldE; rw [if_neg (by simp [show specM 25 = true by rfl]), if_pos (.inr ⟨rfl, hi⟩)]]
      exact cf_25_out ty n v0 v1 v2 v4 v6 RA GA rn rc gn gc rfl (decide_eq_false hi) w
  have g25 : (op == 25) = false := by simpa using c25
  by_cases c28 : op = 28
  · subst c28
    cases hn : (n != 0) with
    | false =>
      have h0 : n = 0 := by simpa using hn
      rw [show fldE 28 ty n rn gn = 0 by simp [fldE, h0]]
      exact cf_28_0 ty n v0 v1 v2 v4 v6 RA GA rn rc gn gc hn w
    | true =>
      have h0 : ¬ n = 0 := by simpa using hn
      rw [show fldE 28 ty n rn gn = 3 by simp [fldE, h0, numE]]
      exact cf_28_n ty n v0 v1 v2 v4 v6 RA GA rn rc gn gc hn rfl w
  have g28 : (op != 28) = true := by simpa using c28
  cases hsp : specM op with
  | false =>
    rw [show fldE op ty n rn gn = 9 by simp [fldE, c28, hsp]]
    exact cf_spec op ty n v0 v1 v2 v4 v6 RA GA rn rc gn gc g4 g25 g28 hsp w
  | true =>
    cases hn : (n != 0) with
    | false =>
      have h0 : n = 0 := by simpa using hn
      rw [show fldE op ty n rn gn = 0 by simp [fldE, h0, hsp, c4, c25]]
      exact cf_0 op ty n v0 v1 v2 v4 v6 RA GA rn rc gn gc g4 g25 g28 hsp hn w
    | true =>
      have h0 : ¬ n = 0 := by simpa using hn
      cases hnu : numE op with
      | true =>
        rw [show fldE op ty n rn gn = 0 by simp [fldE, hsp, c4, c25, hnu]]
        exact cf_num op ty n v0 v1 v2 v4 v6 RA GA rn rc gn gc g4 g25 g28 hsp hn hnu w
      | false =>
        rw [show fldE op ty n rn gn = 3 by simp [fldE, h0, hsp, c4, c25, hnu]]
        exact cf_n op ty n v0 v1 v2 v4 v6 RA GA rn rc gn gc g4 g25 g28 hsp hn hnu w
end Go.Proofs.YtnhaanjpcnnifaaDoor

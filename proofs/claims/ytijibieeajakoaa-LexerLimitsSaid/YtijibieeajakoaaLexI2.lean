/-
  Layer 13 (lexer): the reference's number, a walk for each way.
-/
import Derived.Test.YtijibieeajakoaaLexIm
namespace Go.Proofs.Ytijibieeajakoaa
open Go.RowKit

set_option maxRecDepth 100000 in
set_option maxHeartbeats 400000 in
theorem num_pA (l : List UInt8) (i k : Nat) (t d : List UInt8) (n : Nat) (xz tz : Int) (eE : Int) (eC : Array Value) (hlen : ∀ (W : World) (ty : TypeId), (Builtin.len_ #[9] ty #[.string (Bs l)]).run Try.prog W = .ok (.int .i64 (l.length : Int)) W)
    (hsl : ∀ W, (Instr.slice 9 (.string (Bs l)) (some (.int .i64 (i : Int))) (some (.int .i64 (k : Int))) none).run Try.prog W = .ok (.string (Bs t)) W)
    (hix0 : ∀ W, (Instr.index 9 (.string (Bs d)) (.int .i64 0)).run Try.prog W = .ok (.int .u8 xz) W)
    (hld : ∀ (W : World) (ty : TypeId), (Builtin.len_ #[9] ty #[.string (Bs d)]).run Try.prog W = .ok (.int .i64 (n : Int)) W)
    (htz : ∀ W, (Instr.index 9 (.string (Bs t)) (.int .i64 0)).run Try.prog W = .ok (.int .u8 tz) W) (hzz : tz = xz) (h45 : (xz == 45) = false) (hdt : d = t) (h1 : 1 < (n : Int)) (hx : xz = 48) (hE : eE = 3) (hC : eC = #[.int .i64 0, .int .i64 0, .int .i64 0, .string (Bs [])]) (w : World) : Calls Try.prog 27 #[.string (Bs l), .int .i64 (i : Int), .int .i64 (k : Int)] w fun e w' =>
    e = .returned (.tuple #[.agg eC, .int .i64 eE]) ∧ Below w.heap.size w w' := by
  subst hdt hzz
  clear htz
  have HC0 := hide hC
  clear hC
  have HE0 := hide hE
  clear hE
  have hT := Bs_toList
  have h450 : ByteArray.toList { data := #[45, 48] } = [45, 48] := Bs_toList [45, 48]
  obtain ⟨q, hq⟩ : ∃ q, w.heap.size = q := ⟨_, rfl⟩
  obtain ⟨w1, hw1⟩ : ∃ x, w.alloc (.cells #[.int .i64 0, .int .i64 0, .int .i64 0, .string { data := #[] }] 36) = x := ⟨_, rfl⟩
  have HR : Hid (Whole w1 q 36 #[.int .i64 0, .int .i64 0, .int .i64 0, .string { data := #[] }]) := by show Whole _ _ _ _; rw [← hw1, ← hq]; exact Whole.new w _ _
  have HB : Hid (Below q w w1) := by show Below _ _ _; rw [← hw1, ← hq]; exact (Below.refl _ _).alloc (Nat.le_refl _) _
  obtain ⟨c0, c1, c2, c3, f0, f1, f2, f3⟩ := cells4 HR.out
  rw [hx] at hix0 h45
  clear hx
  go_enter Try.func27, Try.ntmps27
  go_wp2_with (first | (go_at_call 24; refine (rletter_any _ _).mono ?_; rintro en w' ⟨rfl, rfl⟩) | (go_at_call 33; refine (hP _).mono ?_; rintro en w' ⟨rfl, rfl⟩))
  refine bodyPost_ret (v := .tuple #[.agg eC, .int .i64 eE]) ?_ rfl ⟨rfl, by first | exact below4 HB.out _ _ _ _ | (rw [hq]; exact below4 HB.out _ _ _ _)⟩
  simp [results, Try.f27, go_sem, c0, c1, c2, c3, HC0.out, HE0.out, Bs]

set_option maxRecDepth 100000 in
set_option maxHeartbeats 400000 in
theorem num_pB1 (l : List UInt8) (i k : Nat) (t d : List UInt8) (n : Nat) (xz tz : Int) (eE : Int) (eC : Array Value) (hlen : ∀ (W : World) (ty : TypeId), (Builtin.len_ #[9] ty #[.string (Bs l)]).run Try.prog W = .ok (.int .i64 (l.length : Int)) W)
    (hsl : ∀ W, (Instr.slice 9 (.string (Bs l)) (some (.int .i64 (i : Int))) (some (.int .i64 (k : Int))) none).run Try.prog W = .ok (.string (Bs t)) W)
    (hix0 : ∀ W, (Instr.index 9 (.string (Bs d)) (.int .i64 0)).run Try.prog W = .ok (.int .u8 xz) W)
    (hld : ∀ (W : World) (ty : TypeId), (Builtin.len_ #[9] ty #[.string (Bs d)]).run Try.prog W = .ok (.int .i64 (n : Int)) W)
    (htz : ∀ W, (Instr.index 9 (.string (Bs t)) (.int .i64 0)).run Try.prog W = .ok (.int .u8 tz) W) (hzz : tz = xz) (h45 : (xz == 45) = false) (hdt : d = t) (h1 : 1 < (n : Int)) (hx : (xz == 48) = false) (h2 : (t == [45, 48]) = true) (hE : eE = 3) (hC : eC = #[.int .i64 0, .int .i64 0, .int .i64 0, .string (Bs [])]) (w : World) : Calls Try.prog 27 #[.string (Bs l), .int .i64 (i : Int), .int .i64 (k : Int)] w fun e w' =>
    e = .returned (.tuple #[.agg eC, .int .i64 eE]) ∧ Below w.heap.size w w' := by
  subst hdt hzz
  clear htz
  have HC0 := hide hC
  clear hC
  have HE0 := hide hE
  clear hE
  have hT := Bs_toList
  have h450 : ByteArray.toList { data := #[45, 48] } = [45, 48] := Bs_toList [45, 48]
  obtain ⟨q, hq⟩ : ∃ q, w.heap.size = q := ⟨_, rfl⟩
  obtain ⟨w1, hw1⟩ : ∃ x, w.alloc (.cells #[.int .i64 0, .int .i64 0, .int .i64 0, .string { data := #[] }] 36) = x := ⟨_, rfl⟩
  have HR : Hid (Whole w1 q 36 #[.int .i64 0, .int .i64 0, .int .i64 0, .string { data := #[] }]) := by show Whole _ _ _ _; rw [← hw1, ← hq]; exact Whole.new w _ _
  have HB : Hid (Below q w w1) := by show Below _ _ _; rw [← hw1, ← hq]; exact (Below.refl _ _).alloc (Nat.le_refl _) _
  obtain ⟨c0, c1, c2, c3, f0, f1, f2, f3⟩ := cells4 HR.out
  go_enter Try.func27, Try.ntmps27
  go_wp2_with (first | (go_at_call 24; refine (rletter_any _ _).mono ?_; rintro en w' ⟨rfl, rfl⟩) | (go_at_call 33; refine (hP _).mono ?_; rintro en w' ⟨rfl, rfl⟩))
  refine bodyPost_ret (v := .tuple #[.agg eC, .int .i64 eE]) ?_ rfl ⟨rfl, by first | exact below4 HB.out _ _ _ _ | (rw [hq]; exact below4 HB.out _ _ _ _)⟩
  simp [results, Try.f27, go_sem, c0, c1, c2, c3, HC0.out, HE0.out, Bs]

set_option maxRecDepth 100000 in
set_option maxHeartbeats 400000 in
theorem num_pC1 (l : List UInt8) (i k : Nat) (t d : List UInt8) (n : Nat) (xz tz : Int) (eE : Int) (eC : Array Value) (hlen : ∀ (W : World) (ty : TypeId), (Builtin.len_ #[9] ty #[.string (Bs l)]).run Try.prog W = .ok (.int .i64 (l.length : Int)) W)
    (hsl : ∀ W, (Instr.slice 9 (.string (Bs l)) (some (.int .i64 (i : Int))) (some (.int .i64 (k : Int))) none).run Try.prog W = .ok (.string (Bs t)) W)
    (hix0 : ∀ W, (Instr.index 9 (.string (Bs d)) (.int .i64 0)).run Try.prog W = .ok (.int .u8 xz) W)
    (hld : ∀ (W : World) (ty : TypeId), (Builtin.len_ #[9] ty #[.string (Bs d)]).run Try.prog W = .ok (.int .i64 (n : Int)) W)
    (htz : ∀ W, (Instr.index 9 (.string (Bs t)) (.int .i64 0)).run Try.prog W = .ok (.int .u8 tz) W) (hzz : tz = xz) (h45 : (xz == 45) = false) (hdt : d = t) (h1 : 1 < (n : Int)) (hx : (xz == 48) = false) (h2 : (t == [45, 48]) = false) (hk2 : (k : Int) < (l.length : Int)) (cz : Int) (hcz : ∀ W, (Instr.index 9 (.string (Bs l)) (.int .i64 (k : Int))).run Try.prog W = .ok (.int .u8 cz) W) (hlz : letZ cz = true) (hE : eE = 3) (hC : eC = #[.int .i64 0, .int .i64 0, .int .i64 0, .string (Bs [])]) (w : World) : Calls Try.prog 27 #[.string (Bs l), .int .i64 (i : Int), .int .i64 (k : Int)] w fun e w' =>
    e = .returned (.tuple #[.agg eC, .int .i64 eE]) ∧ Below w.heap.size w w' := by
  subst hdt hzz
  clear htz
  have HC0 := hide hC
  clear hC
  have HE0 := hide hE
  clear hE
  have hT := Bs_toList
  have h450 : ByteArray.toList { data := #[45, 48] } = [45, 48] := Bs_toList [45, 48]
  obtain ⟨q, hq⟩ : ∃ q, w.heap.size = q := ⟨_, rfl⟩
  obtain ⟨w1, hw1⟩ : ∃ x, w.alloc (.cells #[.int .i64 0, .int .i64 0, .int .i64 0, .string { data := #[] }] 36) = x := ⟨_, rfl⟩
  have HR : Hid (Whole w1 q 36 #[.int .i64 0, .int .i64 0, .int .i64 0, .string { data := #[] }]) := by show Whole _ _ _ _; rw [← hw1, ← hq]; exact Whole.new w _ _
  have HB : Hid (Below q w w1) := by show Below _ _ _; rw [← hw1, ← hq]; exact (Below.refl _ _).alloc (Nat.le_refl _) _
  obtain ⟨c0, c1, c2, c3, f0, f1, f2, f3⟩ := cells4 HR.out
  go_enter Try.func27, Try.ntmps27
  go_wp2_with (first | (go_at_call 24; refine (rletter_any _ _).mono ?_; rintro en w' ⟨rfl, rfl⟩) | (go_at_call 33; refine (hP _).mono ?_; rintro en w' ⟨rfl, rfl⟩))
  refine bodyPost_ret (v := .tuple #[.agg eC, .int .i64 eE]) ?_ rfl ⟨rfl, by first | exact below4 HB.out _ _ _ _ | (rw [hq]; exact below4 HB.out _ _ _ _)⟩
  simp [results, Try.f27, go_sem, c0, c1, c2, c3, HC0.out, HE0.out, Bs]

set_option maxRecDepth 100000 in
set_option maxHeartbeats 400000 in
theorem num_pD1Y (l : List UInt8) (i k : Nat) (t d : List UInt8) (n : Nat) (xz tz : Int) (eE : Int) (eC : Array Value) (hlen : ∀ (W : World) (ty : TypeId), (Builtin.len_ #[9] ty #[.string (Bs l)]).run Try.prog W = .ok (.int .i64 (l.length : Int)) W)
    (hsl : ∀ W, (Instr.slice 9 (.string (Bs l)) (some (.int .i64 (i : Int))) (some (.int .i64 (k : Int))) none).run Try.prog W = .ok (.string (Bs t)) W)
    (hix0 : ∀ W, (Instr.index 9 (.string (Bs d)) (.int .i64 0)).run Try.prog W = .ok (.int .u8 xz) W)
    (hld : ∀ (W : World) (ty : TypeId), (Builtin.len_ #[9] ty #[.string (Bs d)]).run Try.prog W = .ok (.int .i64 (n : Int)) W)
    (htz : ∀ W, (Instr.index 9 (.string (Bs t)) (.int .i64 0)).run Try.prog W = .ok (.int .u8 tz) W) (hzz : tz = xz) (h45 : (xz == 45) = false) (hdt : d = t) (h1 : 1 < (n : Int)) (hx : (xz == 48) = false) (h2 : (t == [45, 48]) = false) (hk2 : (k : Int) < (l.length : Int)) (cz : Int) (hcz : ∀ W, (Instr.index 9 (.string (Bs l)) (.int .i64 (k : Int))).run Try.prog W = .ok (.int .u8 cz) W) (hlz : letZ cz = false) (hP : ∀ W, Calls Try.prog 33 #[.string (Bs t)] W fun e w' => e = .returned (.tuple #[.int .i64 (parseI t), .bool true]) ∧ w' = W) (hE : eE = 0) (hC : eC = #[.int .i64 2, .int .i64 (i : Int), .int .i64 (parseI t), .string (Bs [])]) (w : World) : Calls Try.prog 27 #[.string (Bs l), .int .i64 (i : Int), .int .i64 (k : Int)] w fun e w' =>
    e = .returned (.tuple #[.agg eC, .int .i64 eE]) ∧ Below w.heap.size w w' := by
  subst hdt hzz
  clear htz
  have HC0 := hide hC
  clear hC
  have HE0 := hide hE
  clear hE
  have hT := Bs_toList
  have h450 : ByteArray.toList { data := #[45, 48] } = [45, 48] := Bs_toList [45, 48]
  obtain ⟨q, hq⟩ : ∃ q, w.heap.size = q := ⟨_, rfl⟩
  obtain ⟨w1, hw1⟩ : ∃ x, w.alloc (.cells #[.int .i64 0, .int .i64 0, .int .i64 0, .string { data := #[] }] 36) = x := ⟨_, rfl⟩
  have HR : Hid (Whole w1 q 36 #[.int .i64 0, .int .i64 0, .int .i64 0, .string { data := #[] }]) := by show Whole _ _ _ _; rw [← hw1, ← hq]; exact Whole.new w _ _
  have HB : Hid (Below q w w1) := by show Below _ _ _; rw [← hw1, ← hq]; exact (Below.refl _ _).alloc (Nat.le_refl _) _
  obtain ⟨c0, c1, c2, c3, f0, f1, f2, f3⟩ := cells4 HR.out
  go_enter Try.func27, Try.ntmps27
  go_wp2_with (first | (go_at_call 24; refine (rletter_any _ _).mono ?_; rintro en w' ⟨rfl, rfl⟩) | (go_at_call 33; refine (hP _).mono ?_; rintro en w' ⟨rfl, rfl⟩))
  refine bodyPost_ret (v := .tuple #[.agg eC, .int .i64 eE]) ?_ rfl ⟨rfl, by first | exact below4 HB.out _ _ _ _ | (rw [hq]; exact below4 HB.out _ _ _ _)⟩
  simp [results, Try.f27, go_sem, c0, c1, c2, c3, HC0.out, HE0.out, Bs]

set_option maxRecDepth 100000 in
set_option maxHeartbeats 400000 in
theorem num_pE1Y (l : List UInt8) (i k : Nat) (t d : List UInt8) (n : Nat) (xz tz : Int) (eE : Int) (eC : Array Value) (hlen : ∀ (W : World) (ty : TypeId), (Builtin.len_ #[9] ty #[.string (Bs l)]).run Try.prog W = .ok (.int .i64 (l.length : Int)) W)
    (hsl : ∀ W, (Instr.slice 9 (.string (Bs l)) (some (.int .i64 (i : Int))) (some (.int .i64 (k : Int))) none).run Try.prog W = .ok (.string (Bs t)) W)
    (hix0 : ∀ W, (Instr.index 9 (.string (Bs d)) (.int .i64 0)).run Try.prog W = .ok (.int .u8 xz) W)
    (hld : ∀ (W : World) (ty : TypeId), (Builtin.len_ #[9] ty #[.string (Bs d)]).run Try.prog W = .ok (.int .i64 (n : Int)) W)
    (htz : ∀ W, (Instr.index 9 (.string (Bs t)) (.int .i64 0)).run Try.prog W = .ok (.int .u8 tz) W) (hzz : tz = xz) (h45 : (xz == 45) = false) (hdt : d = t) (h1 : 1 < (n : Int)) (hx : (xz == 48) = false) (h2 : (t == [45, 48]) = false) (hk2 : (k : Int) < (l.length : Int)) (cz : Int) (hcz : ∀ W, (Instr.index 9 (.string (Bs l)) (.int .i64 (k : Int))).run Try.prog W = .ok (.int .u8 cz) W) (hlz : letZ cz = false) (hP : ∀ W, Calls Try.prog 33 #[.string (Bs t)] W fun e w' => e = .returned (.tuple #[.int .i64 (parseI t), .bool false]) ∧ w' = W) (hE : eE = 10) (hC : eC = #[.int .i64 0, .int .i64 0, .int .i64 0, .string (Bs [])]) (w : World) : Calls Try.prog 27 #[.string (Bs l), .int .i64 (i : Int), .int .i64 (k : Int)] w fun e w' =>
    e = .returned (.tuple #[.agg eC, .int .i64 eE]) ∧ Below w.heap.size w w' := by
  subst hdt hzz
  clear htz
  have HC0 := hide hC
  clear hC
  have HE0 := hide hE
  clear hE
  have hT := Bs_toList
  have h450 : ByteArray.toList { data := #[45, 48] } = [45, 48] := Bs_toList [45, 48]
  obtain ⟨q, hq⟩ : ∃ q, w.heap.size = q := ⟨_, rfl⟩
  obtain ⟨w1, hw1⟩ : ∃ x, w.alloc (.cells #[.int .i64 0, .int .i64 0, .int .i64 0, .string { data := #[] }] 36) = x := ⟨_, rfl⟩
  have HR : Hid (Whole w1 q 36 #[.int .i64 0, .int .i64 0, .int .i64 0, .string { data := #[] }]) := by show Whole _ _ _ _; rw [← hw1, ← hq]; exact Whole.new w _ _
  have HB : Hid (Below q w w1) := by show Below _ _ _; rw [← hw1, ← hq]; exact (Below.refl _ _).alloc (Nat.le_refl _) _
  obtain ⟨c0, c1, c2, c3, f0, f1, f2, f3⟩ := cells4 HR.out
  go_enter Try.func27, Try.ntmps27
  go_wp2_with (first | (go_at_call 24; refine (rletter_any _ _).mono ?_; rintro en w' ⟨rfl, rfl⟩) | (go_at_call 33; refine (hP _).mono ?_; rintro en w' ⟨rfl, rfl⟩))
  refine bodyPost_ret (v := .tuple #[.agg eC, .int .i64 eE]) ?_ rfl ⟨rfl, by first | exact below4 HB.out _ _ _ _ | (rw [hq]; exact below4 HB.out _ _ _ _)⟩
  simp [results, Try.f27, go_sem, c0, c1, c2, c3, HC0.out, HE0.out, Bs]

set_option maxRecDepth 100000 in
set_option maxHeartbeats 400000 in
theorem num_pD1N (l : List UInt8) (i k : Nat) (t d : List UInt8) (n : Nat) (xz tz : Int) (eE : Int) (eC : Array Value) (hlen : ∀ (W : World) (ty : TypeId), (Builtin.len_ #[9] ty #[.string (Bs l)]).run Try.prog W = .ok (.int .i64 (l.length : Int)) W)
    (hsl : ∀ W, (Instr.slice 9 (.string (Bs l)) (some (.int .i64 (i : Int))) (some (.int .i64 (k : Int))) none).run Try.prog W = .ok (.string (Bs t)) W)
    (hix0 : ∀ W, (Instr.index 9 (.string (Bs d)) (.int .i64 0)).run Try.prog W = .ok (.int .u8 xz) W)
    (hld : ∀ (W : World) (ty : TypeId), (Builtin.len_ #[9] ty #[.string (Bs d)]).run Try.prog W = .ok (.int .i64 (n : Int)) W)
    (htz : ∀ W, (Instr.index 9 (.string (Bs t)) (.int .i64 0)).run Try.prog W = .ok (.int .u8 tz) W) (hzz : tz = xz) (h45 : (xz == 45) = false) (hdt : d = t) (h1 : 1 < (n : Int)) (hx : (xz == 48) = false) (h2 : (t == [45, 48]) = false) (hk2 : ¬ (k : Int) < (l.length : Int)) (hP : ∀ W, Calls Try.prog 33 #[.string (Bs t)] W fun e w' => e = .returned (.tuple #[.int .i64 (parseI t), .bool true]) ∧ w' = W) (hE : eE = 0) (hC : eC = #[.int .i64 2, .int .i64 (i : Int), .int .i64 (parseI t), .string (Bs [])]) (w : World) : Calls Try.prog 27 #[.string (Bs l), .int .i64 (i : Int), .int .i64 (k : Int)] w fun e w' =>
    e = .returned (.tuple #[.agg eC, .int .i64 eE]) ∧ Below w.heap.size w w' := by
  subst hdt hzz
  clear htz
  have HC0 := hide hC
  clear hC
  have HE0 := hide hE
  clear hE
  have hT := Bs_toList
  have h450 : ByteArray.toList { data := #[45, 48] } = [45, 48] := Bs_toList [45, 48]
  obtain ⟨q, hq⟩ : ∃ q, w.heap.size = q := ⟨_, rfl⟩
  obtain ⟨w1, hw1⟩ : ∃ x, w.alloc (.cells #[.int .i64 0, .int .i64 0, .int .i64 0, .string { data := #[] }] 36) = x := ⟨_, rfl⟩
  have HR : Hid (Whole w1 q 36 #[.int .i64 0, .int .i64 0, .int .i64 0, .string { data := #[] }]) := by show Whole _ _ _ _; rw [← hw1, ← hq]; exact Whole.new w _ _
  have HB : Hid (Below q w w1) := by show Below _ _ _; rw [← hw1, ← hq]; exact (Below.refl _ _).alloc (Nat.le_refl _) _
  obtain ⟨c0, c1, c2, c3, f0, f1, f2, f3⟩ := cells4 HR.out
  go_enter Try.func27, Try.ntmps27
  go_wp2_with (first | (go_at_call 24; refine (rletter_any _ _).mono ?_; rintro en w' ⟨rfl, rfl⟩) | (go_at_call 33; refine (hP _).mono ?_; rintro en w' ⟨rfl, rfl⟩))
  refine bodyPost_ret (v := .tuple #[.agg eC, .int .i64 eE]) ?_ rfl ⟨rfl, by first | exact below4 HB.out _ _ _ _ | (rw [hq]; exact below4 HB.out _ _ _ _)⟩
  simp [results, Try.f27, go_sem, c0, c1, c2, c3, HC0.out, HE0.out, Bs]

set_option maxRecDepth 100000 in
set_option maxHeartbeats 400000 in
theorem num_pE1N (l : List UInt8) (i k : Nat) (t d : List UInt8) (n : Nat) (xz tz : Int) (eE : Int) (eC : Array Value) (hlen : ∀ (W : World) (ty : TypeId), (Builtin.len_ #[9] ty #[.string (Bs l)]).run Try.prog W = .ok (.int .i64 (l.length : Int)) W)
    (hsl : ∀ W, (Instr.slice 9 (.string (Bs l)) (some (.int .i64 (i : Int))) (some (.int .i64 (k : Int))) none).run Try.prog W = .ok (.string (Bs t)) W)
    (hix0 : ∀ W, (Instr.index 9 (.string (Bs d)) (.int .i64 0)).run Try.prog W = .ok (.int .u8 xz) W)
    (hld : ∀ (W : World) (ty : TypeId), (Builtin.len_ #[9] ty #[.string (Bs d)]).run Try.prog W = .ok (.int .i64 (n : Int)) W)
    (htz : ∀ W, (Instr.index 9 (.string (Bs t)) (.int .i64 0)).run Try.prog W = .ok (.int .u8 tz) W) (hzz : tz = xz) (h45 : (xz == 45) = false) (hdt : d = t) (h1 : 1 < (n : Int)) (hx : (xz == 48) = false) (h2 : (t == [45, 48]) = false) (hk2 : ¬ (k : Int) < (l.length : Int)) (hP : ∀ W, Calls Try.prog 33 #[.string (Bs t)] W fun e w' => e = .returned (.tuple #[.int .i64 (parseI t), .bool false]) ∧ w' = W) (hE : eE = 10) (hC : eC = #[.int .i64 0, .int .i64 0, .int .i64 0, .string (Bs [])]) (w : World) : Calls Try.prog 27 #[.string (Bs l), .int .i64 (i : Int), .int .i64 (k : Int)] w fun e w' =>
    e = .returned (.tuple #[.agg eC, .int .i64 eE]) ∧ Below w.heap.size w w' := by
  subst hdt hzz
  clear htz
  have HC0 := hide hC
  clear hC
  have HE0 := hide hE
  clear hE
  have hT := Bs_toList
  have h450 : ByteArray.toList { data := #[45, 48] } = [45, 48] := Bs_toList [45, 48]
  obtain ⟨q, hq⟩ : ∃ q, w.heap.size = q := ⟨_, rfl⟩
  obtain ⟨w1, hw1⟩ : ∃ x, w.alloc (.cells #[.int .i64 0, .int .i64 0, .int .i64 0, .string { data := #[] }] 36) = x := ⟨_, rfl⟩
  have HR : Hid (Whole w1 q 36 #[.int .i64 0, .int .i64 0, .int .i64 0, .string { data := #[] }]) := by show Whole _ _ _ _; rw [← hw1, ← hq]; exact Whole.new w _ _
  have HB : Hid (Below q w w1) := by show Below _ _ _; rw [← hw1, ← hq]; exact (Below.refl _ _).alloc (Nat.le_refl _) _
  obtain ⟨c0, c1, c2, c3, f0, f1, f2, f3⟩ := cells4 HR.out
  go_enter Try.func27, Try.ntmps27
  go_wp2_with (first | (go_at_call 24; refine (rletter_any _ _).mono ?_; rintro en w' ⟨rfl, rfl⟩) | (go_at_call 33; refine (hP _).mono ?_; rintro en w' ⟨rfl, rfl⟩))
  refine bodyPost_ret (v := .tuple #[.agg eC, .int .i64 eE]) ?_ rfl ⟨rfl, by first | exact below4 HB.out _ _ _ _ | (rw [hq]; exact below4 HB.out _ _ _ _)⟩
  simp [results, Try.f27, go_sem, c0, c1, c2, c3, HC0.out, HE0.out, Bs]

set_option maxRecDepth 100000 in
set_option maxHeartbeats 400000 in
theorem num_pB0 (l : List UInt8) (i k : Nat) (t d : List UInt8) (n : Nat) (xz tz : Int) (eE : Int) (eC : Array Value) (hlen : ∀ (W : World) (ty : TypeId), (Builtin.len_ #[9] ty #[.string (Bs l)]).run Try.prog W = .ok (.int .i64 (l.length : Int)) W)
    (hsl : ∀ W, (Instr.slice 9 (.string (Bs l)) (some (.int .i64 (i : Int))) (some (.int .i64 (k : Int))) none).run Try.prog W = .ok (.string (Bs t)) W)
    (hix0 : ∀ W, (Instr.index 9 (.string (Bs d)) (.int .i64 0)).run Try.prog W = .ok (.int .u8 xz) W)
    (hld : ∀ (W : World) (ty : TypeId), (Builtin.len_ #[9] ty #[.string (Bs d)]).run Try.prog W = .ok (.int .i64 (n : Int)) W)
    (htz : ∀ W, (Instr.index 9 (.string (Bs t)) (.int .i64 0)).run Try.prog W = .ok (.int .u8 tz) W) (hzz : tz = xz) (h45 : (xz == 45) = false) (hdt : d = t) (h1 : ¬ 1 < (n : Int)) (h2 : (t == [45, 48]) = true) (hE : eE = 3) (hC : eC = #[.int .i64 0, .int .i64 0, .int .i64 0, .string (Bs [])]) (w : World) : Calls Try.prog 27 #[.string (Bs l), .int .i64 (i : Int), .int .i64 (k : Int)] w fun e w' =>
    e = .returned (.tuple #[.agg eC, .int .i64 eE]) ∧ Below w.heap.size w w' := by
  subst hdt hzz
  clear htz
  have HC0 := hide hC
  clear hC
  have HE0 := hide hE
  clear hE
  have hT := Bs_toList
  have h450 : ByteArray.toList { data := #[45, 48] } = [45, 48] := Bs_toList [45, 48]
  obtain ⟨q, hq⟩ : ∃ q, w.heap.size = q := ⟨_, rfl⟩
  obtain ⟨w1, hw1⟩ : ∃ x, w.alloc (.cells #[.int .i64 0, .int .i64 0, .int .i64 0, .string { data := #[] }] 36) = x := ⟨_, rfl⟩
  have HR : Hid (Whole w1 q 36 #[.int .i64 0, .int .i64 0, .int .i64 0, .string { data := #[] }]) := by show Whole _ _ _ _; rw [← hw1, ← hq]; exact Whole.new w _ _
  have HB : Hid (Below q w w1) := by show Below _ _ _; rw [← hw1, ← hq]; exact (Below.refl _ _).alloc (Nat.le_refl _) _
  obtain ⟨c0, c1, c2, c3, f0, f1, f2, f3⟩ := cells4 HR.out
  go_enter Try.func27, Try.ntmps27
  go_wp2_with (first | (go_at_call 24; refine (rletter_any _ _).mono ?_; rintro en w' ⟨rfl, rfl⟩) | (go_at_call 33; refine (hP _).mono ?_; rintro en w' ⟨rfl, rfl⟩))
  refine bodyPost_ret (v := .tuple #[.agg eC, .int .i64 eE]) ?_ rfl ⟨rfl, by first | exact below4 HB.out _ _ _ _ | (rw [hq]; exact below4 HB.out _ _ _ _)⟩
  simp [results, Try.f27, go_sem, c0, c1, c2, c3, HC0.out, HE0.out, Bs]

set_option maxRecDepth 100000 in
set_option maxHeartbeats 400000 in
theorem num_pC0 (l : List UInt8) (i k : Nat) (t d : List UInt8) (n : Nat) (xz tz : Int) (eE : Int) (eC : Array Value) (hlen : ∀ (W : World) (ty : TypeId), (Builtin.len_ #[9] ty #[.string (Bs l)]).run Try.prog W = .ok (.int .i64 (l.length : Int)) W)
    (hsl : ∀ W, (Instr.slice 9 (.string (Bs l)) (some (.int .i64 (i : Int))) (some (.int .i64 (k : Int))) none).run Try.prog W = .ok (.string (Bs t)) W)
    (hix0 : ∀ W, (Instr.index 9 (.string (Bs d)) (.int .i64 0)).run Try.prog W = .ok (.int .u8 xz) W)
    (hld : ∀ (W : World) (ty : TypeId), (Builtin.len_ #[9] ty #[.string (Bs d)]).run Try.prog W = .ok (.int .i64 (n : Int)) W)
    (htz : ∀ W, (Instr.index 9 (.string (Bs t)) (.int .i64 0)).run Try.prog W = .ok (.int .u8 tz) W) (hzz : tz = xz) (h45 : (xz == 45) = false) (hdt : d = t) (h1 : ¬ 1 < (n : Int)) (h2 : (t == [45, 48]) = false) (hk2 : (k : Int) < (l.length : Int)) (cz : Int) (hcz : ∀ W, (Instr.index 9 (.string (Bs l)) (.int .i64 (k : Int))).run Try.prog W = .ok (.int .u8 cz) W) (hlz : letZ cz = true) (hE : eE = 3) (hC : eC = #[.int .i64 0, .int .i64 0, .int .i64 0, .string (Bs [])]) (w : World) : Calls Try.prog 27 #[.string (Bs l), .int .i64 (i : Int), .int .i64 (k : Int)] w fun e w' =>
    e = .returned (.tuple #[.agg eC, .int .i64 eE]) ∧ Below w.heap.size w w' := by
  subst hdt hzz
  clear htz
  have HC0 := hide hC
  clear hC
  have HE0 := hide hE
  clear hE
  have hT := Bs_toList
  have h450 : ByteArray.toList { data := #[45, 48] } = [45, 48] := Bs_toList [45, 48]
  obtain ⟨q, hq⟩ : ∃ q, w.heap.size = q := ⟨_, rfl⟩
  obtain ⟨w1, hw1⟩ : ∃ x, w.alloc (.cells #[.int .i64 0, .int .i64 0, .int .i64 0, .string { data := #[] }] 36) = x := ⟨_, rfl⟩
  have HR : Hid (Whole w1 q 36 #[.int .i64 0, .int .i64 0, .int .i64 0, .string { data := #[] }]) := by show Whole _ _ _ _; rw [← hw1, ← hq]; exact Whole.new w _ _
  have HB : Hid (Below q w w1) := by show Below _ _ _; rw [← hw1, ← hq]; exact (Below.refl _ _).alloc (Nat.le_refl _) _
  obtain ⟨c0, c1, c2, c3, f0, f1, f2, f3⟩ := cells4 HR.out
  go_enter Try.func27, Try.ntmps27
  go_wp2_with (first | (go_at_call 24; refine (rletter_any _ _).mono ?_; rintro en w' ⟨rfl, rfl⟩) | (go_at_call 33; refine (hP _).mono ?_; rintro en w' ⟨rfl, rfl⟩))
  refine bodyPost_ret (v := .tuple #[.agg eC, .int .i64 eE]) ?_ rfl ⟨rfl, by first | exact below4 HB.out _ _ _ _ | (rw [hq]; exact below4 HB.out _ _ _ _)⟩
  simp [results, Try.f27, go_sem, c0, c1, c2, c3, HC0.out, HE0.out, Bs]

set_option maxRecDepth 100000 in
set_option maxHeartbeats 400000 in
theorem num_pD0Y (l : List UInt8) (i k : Nat) (t d : List UInt8) (n : Nat) (xz tz : Int) (eE : Int) (eC : Array Value) (hlen : ∀ (W : World) (ty : TypeId), (Builtin.len_ #[9] ty #[.string (Bs l)]).run Try.prog W = .ok (.int .i64 (l.length : Int)) W)
    (hsl : ∀ W, (Instr.slice 9 (.string (Bs l)) (some (.int .i64 (i : Int))) (some (.int .i64 (k : Int))) none).run Try.prog W = .ok (.string (Bs t)) W)
    (hix0 : ∀ W, (Instr.index 9 (.string (Bs d)) (.int .i64 0)).run Try.prog W = .ok (.int .u8 xz) W)
    (hld : ∀ (W : World) (ty : TypeId), (Builtin.len_ #[9] ty #[.string (Bs d)]).run Try.prog W = .ok (.int .i64 (n : Int)) W)
    (htz : ∀ W, (Instr.index 9 (.string (Bs t)) (.int .i64 0)).run Try.prog W = .ok (.int .u8 tz) W) (hzz : tz = xz) (h45 : (xz == 45) = false) (hdt : d = t) (h1 : ¬ 1 < (n : Int)) (h2 : (t == [45, 48]) = false) (hk2 : (k : Int) < (l.length : Int)) (cz : Int) (hcz : ∀ W, (Instr.index 9 (.string (Bs l)) (.int .i64 (k : Int))).run Try.prog W = .ok (.int .u8 cz) W) (hlz : letZ cz = false) (hP : ∀ W, Calls Try.prog 33 #[.string (Bs t)] W fun e w' => e = .returned (.tuple #[.int .i64 (parseI t), .bool true]) ∧ w' = W) (hE : eE = 0) (hC : eC = #[.int .i64 2, .int .i64 (i : Int), .int .i64 (parseI t), .string (Bs [])]) (w : World) : Calls Try.prog 27 #[.string (Bs l), .int .i64 (i : Int), .int .i64 (k : Int)] w fun e w' =>
    e = .returned (.tuple #[.agg eC, .int .i64 eE]) ∧ Below w.heap.size w w' := by
  subst hdt hzz
  clear htz
  have HC0 := hide hC
  clear hC
  have HE0 := hide hE
  clear hE
  have hT := Bs_toList
  have h450 : ByteArray.toList { data := #[45, 48] } = [45, 48] := Bs_toList [45, 48]
  obtain ⟨q, hq⟩ : ∃ q, w.heap.size = q := ⟨_, rfl⟩
  obtain ⟨w1, hw1⟩ : ∃ x, w.alloc (.cells #[.int .i64 0, .int .i64 0, .int .i64 0, .string { data := #[] }] 36) = x := ⟨_, rfl⟩
  have HR : Hid (Whole w1 q 36 #[.int .i64 0, .int .i64 0, .int .i64 0, .string { data := #[] }]) := by show Whole _ _ _ _; rw [← hw1, ← hq]; exact Whole.new w _ _
  have HB : Hid (Below q w w1) := by show Below _ _ _; rw [← hw1, ← hq]; exact (Below.refl _ _).alloc (Nat.le_refl _) _
  obtain ⟨c0, c1, c2, c3, f0, f1, f2, f3⟩ := cells4 HR.out
  go_enter Try.func27, Try.ntmps27
  go_wp2_with (first | (go_at_call 24; refine (rletter_any _ _).mono ?_; rintro en w' ⟨rfl, rfl⟩) | (go_at_call 33; refine (hP _).mono ?_; rintro en w' ⟨rfl, rfl⟩))
  refine bodyPost_ret (v := .tuple #[.agg eC, .int .i64 eE]) ?_ rfl ⟨rfl, by first | exact below4 HB.out _ _ _ _ | (rw [hq]; exact below4 HB.out _ _ _ _)⟩
  simp [results, Try.f27, go_sem, c0, c1, c2, c3, HC0.out, HE0.out, Bs]

set_option maxRecDepth 100000 in
set_option maxHeartbeats 400000 in
theorem num_pE0Y (l : List UInt8) (i k : Nat) (t d : List UInt8) (n : Nat) (xz tz : Int) (eE : Int) (eC : Array Value) (hlen : ∀ (W : World) (ty : TypeId), (Builtin.len_ #[9] ty #[.string (Bs l)]).run Try.prog W = .ok (.int .i64 (l.length : Int)) W)
    (hsl : ∀ W, (Instr.slice 9 (.string (Bs l)) (some (.int .i64 (i : Int))) (some (.int .i64 (k : Int))) none).run Try.prog W = .ok (.string (Bs t)) W)
    (hix0 : ∀ W, (Instr.index 9 (.string (Bs d)) (.int .i64 0)).run Try.prog W = .ok (.int .u8 xz) W)
    (hld : ∀ (W : World) (ty : TypeId), (Builtin.len_ #[9] ty #[.string (Bs d)]).run Try.prog W = .ok (.int .i64 (n : Int)) W)
    (htz : ∀ W, (Instr.index 9 (.string (Bs t)) (.int .i64 0)).run Try.prog W = .ok (.int .u8 tz) W) (hzz : tz = xz) (h45 : (xz == 45) = false) (hdt : d = t) (h1 : ¬ 1 < (n : Int)) (h2 : (t == [45, 48]) = false) (hk2 : (k : Int) < (l.length : Int)) (cz : Int) (hcz : ∀ W, (Instr.index 9 (.string (Bs l)) (.int .i64 (k : Int))).run Try.prog W = .ok (.int .u8 cz) W) (hlz : letZ cz = false) (hP : ∀ W, Calls Try.prog 33 #[.string (Bs t)] W fun e w' => e = .returned (.tuple #[.int .i64 (parseI t), .bool false]) ∧ w' = W) (hE : eE = 10) (hC : eC = #[.int .i64 0, .int .i64 0, .int .i64 0, .string (Bs [])]) (w : World) : Calls Try.prog 27 #[.string (Bs l), .int .i64 (i : Int), .int .i64 (k : Int)] w fun e w' =>
    e = .returned (.tuple #[.agg eC, .int .i64 eE]) ∧ Below w.heap.size w w' := by
  subst hdt hzz
  clear htz
  have HC0 := hide hC
  clear hC
  have HE0 := hide hE
  clear hE
  have hT := Bs_toList
  have h450 : ByteArray.toList { data := #[45, 48] } = [45, 48] := Bs_toList [45, 48]
  obtain ⟨q, hq⟩ : ∃ q, w.heap.size = q := ⟨_, rfl⟩
  obtain ⟨w1, hw1⟩ : ∃ x, w.alloc (.cells #[.int .i64 0, .int .i64 0, .int .i64 0, .string { data := #[] }] 36) = x := ⟨_, rfl⟩
  have HR : Hid (Whole w1 q 36 #[.int .i64 0, .int .i64 0, .int .i64 0, .string { data := #[] }]) := by show Whole _ _ _ _; rw [← hw1, ← hq]; exact Whole.new w _ _
  have HB : Hid (Below q w w1) := by show Below _ _ _; rw [← hw1, ← hq]; exact (Below.refl _ _).alloc (Nat.le_refl _) _
  obtain ⟨c0, c1, c2, c3, f0, f1, f2, f3⟩ := cells4 HR.out
  go_enter Try.func27, Try.ntmps27
  go_wp2_with (first | (go_at_call 24; refine (rletter_any _ _).mono ?_; rintro en w' ⟨rfl, rfl⟩) | (go_at_call 33; refine (hP _).mono ?_; rintro en w' ⟨rfl, rfl⟩))
  refine bodyPost_ret (v := .tuple #[.agg eC, .int .i64 eE]) ?_ rfl ⟨rfl, by first | exact below4 HB.out _ _ _ _ | (rw [hq]; exact below4 HB.out _ _ _ _)⟩
  simp [results, Try.f27, go_sem, c0, c1, c2, c3, HC0.out, HE0.out, Bs]

set_option maxRecDepth 100000 in
set_option maxHeartbeats 400000 in
theorem num_pD0N (l : List UInt8) (i k : Nat) (t d : List UInt8) (n : Nat) (xz tz : Int) (eE : Int) (eC : Array Value) (hlen : ∀ (W : World) (ty : TypeId), (Builtin.len_ #[9] ty #[.string (Bs l)]).run Try.prog W = .ok (.int .i64 (l.length : Int)) W)
    (hsl : ∀ W, (Instr.slice 9 (.string (Bs l)) (some (.int .i64 (i : Int))) (some (.int .i64 (k : Int))) none).run Try.prog W = .ok (.string (Bs t)) W)
    (hix0 : ∀ W, (Instr.index 9 (.string (Bs d)) (.int .i64 0)).run Try.prog W = .ok (.int .u8 xz) W)
    (hld : ∀ (W : World) (ty : TypeId), (Builtin.len_ #[9] ty #[.string (Bs d)]).run Try.prog W = .ok (.int .i64 (n : Int)) W)
    (htz : ∀ W, (Instr.index 9 (.string (Bs t)) (.int .i64 0)).run Try.prog W = .ok (.int .u8 tz) W) (hzz : tz = xz) (h45 : (xz == 45) = false) (hdt : d = t) (h1 : ¬ 1 < (n : Int)) (h2 : (t == [45, 48]) = false) (hk2 : ¬ (k : Int) < (l.length : Int)) (hP : ∀ W, Calls Try.prog 33 #[.string (Bs t)] W fun e w' => e = .returned (.tuple #[.int .i64 (parseI t), .bool true]) ∧ w' = W) (hE : eE = 0) (hC : eC = #[.int .i64 2, .int .i64 (i : Int), .int .i64 (parseI t), .string (Bs [])]) (w : World) : Calls Try.prog 27 #[.string (Bs l), .int .i64 (i : Int), .int .i64 (k : Int)] w fun e w' =>
    e = .returned (.tuple #[.agg eC, .int .i64 eE]) ∧ Below w.heap.size w w' := by
  subst hdt hzz
  clear htz
  have HC0 := hide hC
  clear hC
  have HE0 := hide hE
  clear hE
  have hT := Bs_toList
  have h450 : ByteArray.toList { data := #[45, 48] } = [45, 48] := Bs_toList [45, 48]
  obtain ⟨q, hq⟩ : ∃ q, w.heap.size = q := ⟨_, rfl⟩
  obtain ⟨w1, hw1⟩ : ∃ x, w.alloc (.cells #[.int .i64 0, .int .i64 0, .int .i64 0, .string { data := #[] }] 36) = x := ⟨_, rfl⟩
  have HR : Hid (Whole w1 q 36 #[.int .i64 0, .int .i64 0, .int .i64 0, .string { data := #[] }]) := by show Whole _ _ _ _; rw [← hw1, ← hq]; exact Whole.new w _ _
  have HB : Hid (Below q w w1) := by show Below _ _ _; rw [← hw1, ← hq]; exact (Below.refl _ _).alloc (Nat.le_refl _) _
  obtain ⟨c0, c1, c2, c3, f0, f1, f2, f3⟩ := cells4 HR.out
  go_enter Try.func27, Try.ntmps27
  go_wp2_with (first | (go_at_call 24; refine (rletter_any _ _).mono ?_; rintro en w' ⟨rfl, rfl⟩) | (go_at_call 33; refine (hP _).mono ?_; rintro en w' ⟨rfl, rfl⟩))
  refine bodyPost_ret (v := .tuple #[.agg eC, .int .i64 eE]) ?_ rfl ⟨rfl, by first | exact below4 HB.out _ _ _ _ | (rw [hq]; exact below4 HB.out _ _ _ _)⟩
  simp [results, Try.f27, go_sem, c0, c1, c2, c3, HC0.out, HE0.out, Bs]

set_option maxRecDepth 100000 in
set_option maxHeartbeats 400000 in
theorem num_pE0N (l : List UInt8) (i k : Nat) (t d : List UInt8) (n : Nat) (xz tz : Int) (eE : Int) (eC : Array Value) (hlen : ∀ (W : World) (ty : TypeId), (Builtin.len_ #[9] ty #[.string (Bs l)]).run Try.prog W = .ok (.int .i64 (l.length : Int)) W)
    (hsl : ∀ W, (Instr.slice 9 (.string (Bs l)) (some (.int .i64 (i : Int))) (some (.int .i64 (k : Int))) none).run Try.prog W = .ok (.string (Bs t)) W)
    (hix0 : ∀ W, (Instr.index 9 (.string (Bs d)) (.int .i64 0)).run Try.prog W = .ok (.int .u8 xz) W)
    (hld : ∀ (W : World) (ty : TypeId), (Builtin.len_ #[9] ty #[.string (Bs d)]).run Try.prog W = .ok (.int .i64 (n : Int)) W)
    (htz : ∀ W, (Instr.index 9 (.string (Bs t)) (.int .i64 0)).run Try.prog W = .ok (.int .u8 tz) W) (hzz : tz = xz) (h45 : (xz == 45) = false) (hdt : d = t) (h1 : ¬ 1 < (n : Int)) (h2 : (t == [45, 48]) = false) (hk2 : ¬ (k : Int) < (l.length : Int)) (hP : ∀ W, Calls Try.prog 33 #[.string (Bs t)] W fun e w' => e = .returned (.tuple #[.int .i64 (parseI t), .bool false]) ∧ w' = W) (hE : eE = 10) (hC : eC = #[.int .i64 0, .int .i64 0, .int .i64 0, .string (Bs [])]) (w : World) : Calls Try.prog 27 #[.string (Bs l), .int .i64 (i : Int), .int .i64 (k : Int)] w fun e w' =>
    e = .returned (.tuple #[.agg eC, .int .i64 eE]) ∧ Below w.heap.size w w' := by
  subst hdt hzz
  clear htz
  have HC0 := hide hC
  clear hC
  have HE0 := hide hE
  clear hE
  have hT := Bs_toList
  have h450 : ByteArray.toList { data := #[45, 48] } = [45, 48] := Bs_toList [45, 48]
  obtain ⟨q, hq⟩ : ∃ q, w.heap.size = q := ⟨_, rfl⟩
  obtain ⟨w1, hw1⟩ : ∃ x, w.alloc (.cells #[.int .i64 0, .int .i64 0, .int .i64 0, .string { data := #[] }] 36) = x := ⟨_, rfl⟩
  have HR : Hid (Whole w1 q 36 #[.int .i64 0, .int .i64 0, .int .i64 0, .string { data := #[] }]) := by show Whole _ _ _ _; rw [← hw1, ← hq]; exact Whole.new w _ _
  have HB : Hid (Below q w w1) := by show Below _ _ _; rw [← hw1, ← hq]; exact (Below.refl _ _).alloc (Nat.le_refl _) _
  obtain ⟨c0, c1, c2, c3, f0, f1, f2, f3⟩ := cells4 HR.out
  go_enter Try.func27, Try.ntmps27
  go_wp2_with (first | (go_at_call 24; refine (rletter_any _ _).mono ?_; rintro en w' ⟨rfl, rfl⟩) | (go_at_call 33; refine (hP _).mono ?_; rintro en w' ⟨rfl, rfl⟩))
  refine bodyPost_ret (v := .tuple #[.agg eC, .int .i64 eE]) ?_ rfl ⟨rfl, by first | exact below4 HB.out _ _ _ _ | (rw [hq]; exact below4 HB.out _ _ _ _)⟩
  simp [results, Try.f27, go_sem, c0, c1, c2, c3, HC0.out, HE0.out, Bs]
end Go.Proofs.Ytijibieeajakoaa

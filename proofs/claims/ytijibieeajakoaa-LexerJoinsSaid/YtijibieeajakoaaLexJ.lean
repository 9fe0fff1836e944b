/-
  Layer 13 (lexer): the reference's next, a walk for each way.
-/
import Derived.Test.YtijibieeajakoaaLexI
namespace Go.Proofs.Ytijibieeajakoaa
open Go.RowKit

set_option maxRecDepth 100000 in
set_option maxHeartbeats 1000000 in
theorem next_long (l : List UInt8) (i : Nat) (cz : Int) (hlen : ∀ (W : World) (ty : TypeId), (Builtin.len_ #[9] ty #[.string (Bs l)]).run Try.prog W = .ok (.int .i64 (l.length : Int)) W)
    (him : i < l.length) (hm : (l.length : Int) ≤ 900000) (hix : ∀ W, (Instr.index 9 (.string (Bs l)) (.int .i64 (i : Int))).run Try.prog W = .ok (.int .u8 cz) W) (hL : letZ cz = true) (k : Nat) (hE : ∀ W, Calls Try.prog 25 #[.string (Bs l), .int .i64 (i : Int), .bool true] W fun e w' => e = .returned (.int .i64 (k : Int)) ∧ w' = W) (hki : (i : Int) ≤ (k : Int)) (hkm : (k : Int) ≤ 900000) (h24 : 24 < (k : Int) - (i : Int)) (w : World) : Calls Try.prog 16 #[.string (Bs l), .int .i64 (i : Int)] w fun e w' =>
    e = .returned (.tuple #[.agg #[.int .i64 0, .int .i64 0, .int .i64 0, .string (Bs [])], .int .i64 0, .int .i64 6]) ∧ Below w.heap.size w w' := by
  obtain ⟨q, hq⟩ : ∃ q, w.heap.size = q := ⟨_, rfl⟩
  obtain ⟨w1, hw1⟩ : ∃ x, w.alloc (.cells #[.int .i64 0, .int .i64 0, .int .i64 0, .string { data := #[] }] 36) = x := ⟨_, rfl⟩
  have HR : Hid (Whole w1 q 36 #[.int .i64 0, .int .i64 0, .int .i64 0, .string { data := #[] }]) := by show Whole _ _ _ _; rw [← hw1, ← hq]; exact Whole.new w _ _
  have HB : Hid (Below q w w1) := by show Below _ _ _; rw [← hw1, ← hq]; exact (Below.refl _ _).alloc (Nat.le_refl _) _
  obtain ⟨c0, c1, c2, c3, f0, f1, f2, f3⟩ := cells4 HR.out
  go_enter Try.func16, Try.ntmps16
  go_wp2_with (first | (go_at_call 24; refine (rletter_any _ _).mono ?_; rintro en w' ⟨rfl, rfl⟩) | (go_at_call 25; refine (hE _).mono ?_; rintro en w' ⟨rfl, rfl⟩))
  refine bodyPost_ret (v := .tuple #[.agg #[.int .i64 0, .int .i64 0, .int .i64 0, .string (Bs [])], .int .i64 0, .int .i64 6]) ?_ rfl ⟨rfl, by first | exact below4 HB.out _ _ _ _ | (rw [hq]; exact below4 HB.out _ _ _ _)⟩
  simp [results, Try.f16, go_sem, c0, c1, c2, c3, Bs]

set_option maxRecDepth 100000 in
set_option maxHeartbeats 1000000 in
theorem next_word (l : List UInt8) (i : Nat) (cz : Int) (hlen : ∀ (W : World) (ty : TypeId), (Builtin.len_ #[9] ty #[.string (Bs l)]).run Try.prog W = .ok (.int .i64 (l.length : Int)) W)
    (him : i < l.length) (hm : (l.length : Int) ≤ 900000) (hix : ∀ W, (Instr.index 9 (.string (Bs l)) (.int .i64 (i : Int))).run Try.prog W = .ok (.int .u8 cz) W) (hL : letZ cz = true) (k : Nat) (hE : ∀ W, Calls Try.prog 25 #[.string (Bs l), .int .i64 (i : Int), .bool true] W fun e w' => e = .returned (.int .i64 (k : Int)) ∧ w' = W) (hki : (i : Int) ≤ (k : Int)) (hkm : (k : Int) ≤ 900000) (h24 : ¬ 24 < (k : Int) - (i : Int)) (tt : List UInt8) (hsl : ∀ W, (Instr.slice 9 (.string (Bs l)) (some (.int .i64 (i : Int))) (some (.int .i64 (k : Int))) none).run Try.prog W = .ok (.string (Bs tt)) W) (w : World) : Calls Try.prog 16 #[.string (Bs l), .int .i64 (i : Int)] w fun e w' =>
    e = .returned (.tuple #[.agg #[.int .i64 1, .int .i64 (i : Int), .int .i64 0, .string (Bs tt)], .int .i64 (k : Int), .int .i64 0]) ∧ Below w.heap.size w w' := by
  obtain ⟨q, hq⟩ : ∃ q, w.heap.size = q := ⟨_, rfl⟩
  obtain ⟨w1, hw1⟩ : ∃ x, w.alloc (.cells #[.int .i64 0, .int .i64 0, .int .i64 0, .string { data := #[] }] 36) = x := ⟨_, rfl⟩
  have HR : Hid (Whole w1 q 36 #[.int .i64 0, .int .i64 0, .int .i64 0, .string { data := #[] }]) := by show Whole _ _ _ _; rw [← hw1, ← hq]; exact Whole.new w _ _
  have HB : Hid (Below q w w1) := by show Below _ _ _; rw [← hw1, ← hq]; exact (Below.refl _ _).alloc (Nat.le_refl _) _
  obtain ⟨c0, c1, c2, c3, f0, f1, f2, f3⟩ := cells4 HR.out
  go_enter Try.func16, Try.ntmps16
  go_wp2_with (first | (go_at_call 24; refine (rletter_any _ _).mono ?_; rintro en w' ⟨rfl, rfl⟩) | (go_at_call 25; refine (hE _).mono ?_; rintro en w' ⟨rfl, rfl⟩))
  refine bodyPost_ret (v := .tuple #[.agg #[.int .i64 1, .int .i64 (i : Int), .int .i64 0, .string (Bs tt)], .int .i64 (k : Int), .int .i64 0]) ?_ rfl ⟨rfl, by first | exact below4 HB.out _ _ _ _ | (rw [hq]; exact below4 HB.out _ _ _ _)⟩
  simp [results, Try.f16, go_sem, c0, c1, c2, c3, Bs]

set_option maxRecDepth 100000 in
set_option maxHeartbeats 1000000 in
theorem next_digit (l : List UInt8) (i : Nat) (cz : Int) (hlen : ∀ (W : World) (ty : TypeId), (Builtin.len_ #[9] ty #[.string (Bs l)]).run Try.prog W = .ok (.int .i64 (l.length : Int)) W)
    (him : i < l.length) (hm : (l.length : Int) ≤ 900000) (hix : ∀ W, (Instr.index 9 (.string (Bs l)) (.int .i64 (i : Int))).run Try.prog W = .ok (.int .u8 cz) W) (hL : letZ cz = false) (hD : digZ cz = true) (k : Nat) (hE : ∀ W, Calls Try.prog 25 #[.string (Bs l), .int .i64 ((i : Int) + 1), .bool false] W fun e w' => e = .returned (.int .i64 (k : Int)) ∧ w' = W) (na nb nc ne : Int) (ns : ByteArray) (hN : ∀ W, Calls Try.prog 27 #[.string (Bs l), .int .i64 (i : Int), .int .i64 (k : Int)] W fun e w' => e = .returned (.tuple #[.agg #[.int .i64 na, .int .i64 nb, .int .i64 nc, .string ns], .int .i64 ne]) ∧ Below W.heap.size W w') (w : World) : Calls Try.prog 16 #[.string (Bs l), .int .i64 (i : Int)] w fun e w' =>
    e = .returned (.tuple #[.agg #[.int .i64 na, .int .i64 nb, .int .i64 nc, .string ns], .int .i64 (k : Int), .int .i64 ne]) ∧ Below w.heap.size w w' := by
  obtain ⟨q, hq⟩ : ∃ q, w.heap.size = q := ⟨_, rfl⟩
  obtain ⟨w1, hw1⟩ : ∃ x, w.alloc (.cells #[.int .i64 0, .int .i64 0, .int .i64 0, .string { data := #[] }] 36) = x := ⟨_, rfl⟩
  have HR : Hid (Whole w1 q 36 #[.int .i64 0, .int .i64 0, .int .i64 0, .string { data := #[] }]) := by show Whole _ _ _ _; rw [← hw1, ← hq]; exact Whole.new w _ _
  have HB : Hid (Below q w w1) := by show Below _ _ _; rw [← hw1, ← hq]; exact (Below.refl _ _).alloc (Nat.le_refl _) _
  obtain ⟨c0, c1, c2, c3, f0, f1, f2, f3⟩ := cells4 HR.out
  go_enter Try.func16, Try.ntmps16
  go_wp2_with (first | (go_at_call 24; refine (rletter_any _ _).mono ?_; rintro en w' ⟨rfl, rfl⟩) | (go_at_call 26; refine (rdigit_any _ _).mono ?_; rintro en w' ⟨rfl, rfl⟩) | (go_at_call 25; refine (hE _).mono ?_; rintro en w' ⟨rfl, rfl⟩) | (go_at_call 27; refine (hN _).mono ?_; rintro en w' ⟨rfl, hb⟩; obtain ⟨w5, h5⟩ : ∃ x, w'.alloc (.cells #[.int .i64 na, .int .i64 nb, .int .i64 nc, .string ns] 36) = x := ⟨_, rfl⟩; have HR5 := h5 ▸ (HR.out.below' hb).alloc (.cells #[.int .i64 na, .int .i64 nb, .int .i64 nc, .string ns] 36); have HN5 : Whole w5 w'.heap.size 36 #[.int .i64 na, .int .i64 nb, .int .i64 nc, .string ns] := h5 ▸ Whole.new w' _ _; have HB5 : Below q w w5 := h5 ▸ (bel HB.out HR.out hb).alloc (Nat.le_of_lt (HR.out.below' hb).lt) _; replace HB := hide HB5; clear c0 c1 c2 c3 f0 f1 f2 f3; obtain ⟨c0, c1, c2, c3, f0, f1, f2, f3⟩ := cells4 HR5; obtain ⟨d0, d1, d2, d3, -, -, -, -⟩ := cells4 HN5; clear HR HR5 HN5 HB5 hb))
  refine bodyPost_ret (v := .tuple #[.agg #[.int .i64 na, .int .i64 nb, .int .i64 nc, .string ns], .int .i64 (k : Int), .int .i64 ne]) ?_ rfl ⟨rfl, by first | exact below4 HB.out _ _ _ _ | (rw [hq]; exact below4 HB.out _ _ _ _)⟩
  simp [results, Try.f16, go_sem, c0, c1, c2, c3, Bs]

set_option maxRecDepth 100000 in
set_option maxHeartbeats 1000000 in
theorem next_minus (l : List UInt8) (i : Nat) (cz : Int) (hlen : ∀ (W : World) (ty : TypeId), (Builtin.len_ #[9] ty #[.string (Bs l)]).run Try.prog W = .ok (.int .i64 (l.length : Int)) W)
    (him : i < l.length) (hm : (l.length : Int) ≤ 900000) (hix : ∀ W, (Instr.index 9 (.string (Bs l)) (.int .i64 (i : Int))).run Try.prog W = .ok (.int .u8 cz) W) (hL : letZ cz = false) (hD : digZ cz = false) (h45 : cz = 45) (hlt : (i : Int) + 1 < (l.length : Int)) (dz : Int) (hix1 : ∀ W, (Instr.index 9 (.string (Bs l)) (.int .i64 ((i : Int) + 1))).run Try.prog W = .ok (.int .u8 dz) W) (hD2 : digZ dz = true) (k : Nat) (hE : ∀ W, Calls Try.prog 25 #[.string (Bs l), .int .i64 ((i : Int) + 1), .bool false] W fun e w' => e = .returned (.int .i64 (k : Int)) ∧ w' = W) (na nb nc ne : Int) (ns : ByteArray) (hN : ∀ W, Calls Try.prog 27 #[.string (Bs l), .int .i64 (i : Int), .int .i64 (k : Int)] W fun e w' => e = .returned (.tuple #[.agg #[.int .i64 na, .int .i64 nb, .int .i64 nc, .string ns], .int .i64 ne]) ∧ Below W.heap.size W w') (w : World) : Calls Try.prog 16 #[.string (Bs l), .int .i64 (i : Int)] w fun e w' =>
    e = .returned (.tuple #[.agg #[.int .i64 na, .int .i64 nb, .int .i64 nc, .string ns], .int .i64 (k : Int), .int .i64 ne]) ∧ Below w.heap.size w w' := by
  obtain ⟨q, hq⟩ : ∃ q, w.heap.size = q := ⟨_, rfl⟩
  obtain ⟨w1, hw1⟩ : ∃ x, w.alloc (.cells #[.int .i64 0, .int .i64 0, .int .i64 0, .string { data := #[] }] 36) = x := ⟨_, rfl⟩
  have HR : Hid (Whole w1 q 36 #[.int .i64 0, .int .i64 0, .int .i64 0, .string { data := #[] }]) := by show Whole _ _ _ _; rw [← hw1, ← hq]; exact Whole.new w _ _
  have HB : Hid (Below q w w1) := by show Below _ _ _; rw [← hw1, ← hq]; exact (Below.refl _ _).alloc (Nat.le_refl _) _
  obtain ⟨c0, c1, c2, c3, f0, f1, f2, f3⟩ := cells4 HR.out
  subst h45
  go_enter Try.func16, Try.ntmps16
  go_wp2_with (first | (go_at_call 24; refine (rletter_any _ _).mono ?_; rintro en w' ⟨rfl, rfl⟩) | (go_at_call 26; refine (rdigit_any _ _).mono ?_; rintro en w' ⟨rfl, rfl⟩) | (go_at_call 25; refine (hE _).mono ?_; rintro en w' ⟨rfl, rfl⟩) | (go_at_call 27; refine (hN _).mono ?_; rintro en w' ⟨rfl, hb⟩; obtain ⟨w5, h5⟩ : ∃ x, w'.alloc (.cells #[.int .i64 na, .int .i64 nb, .int .i64 nc, .string ns] 36) = x := ⟨_, rfl⟩; have HR5 := h5 ▸ (HR.out.below' hb).alloc (.cells #[.int .i64 na, .int .i64 nb, .int .i64 nc, .string ns] 36); have HN5 : Whole w5 w'.heap.size 36 #[.int .i64 na, .int .i64 nb, .int .i64 nc, .string ns] := h5 ▸ Whole.new w' _ _; have HB5 : Below q w w5 := h5 ▸ (bel HB.out HR.out hb).alloc (Nat.le_of_lt (HR.out.below' hb).lt) _; replace HB := hide HB5; clear c0 c1 c2 c3 f0 f1 f2 f3; obtain ⟨c0, c1, c2, c3, f0, f1, f2, f3⟩ := cells4 HR5; obtain ⟨d0, d1, d2, d3, -, -, -, -⟩ := cells4 HN5; clear HR HR5 HN5 HB5 hb))
  refine bodyPost_ret (v := .tuple #[.agg #[.int .i64 na, .int .i64 nb, .int .i64 nc, .string ns], .int .i64 (k : Int), .int .i64 ne]) ?_ rfl ⟨rfl, by first | exact below4 HB.out _ _ _ _ | (rw [hq]; exact below4 HB.out _ _ _ _)⟩
  simp [results, Try.f16, go_sem, c0, c1, c2, c3, Bs]

set_option maxRecDepth 100000 in
set_option maxHeartbeats 1000000 in
theorem next_p40 (l : List UInt8) (i : Nat) (cz : Int) (hlen : ∀ (W : World) (ty : TypeId), (Builtin.len_ #[9] ty #[.string (Bs l)]).run Try.prog W = .ok (.int .i64 (l.length : Int)) W)
    (him : i < l.length) (hm : (l.length : Int) ≤ 900000) (hix : ∀ W, (Instr.index 9 (.string (Bs l)) (.int .i64 (i : Int))).run Try.prog W = .ok (.int .u8 cz) W) (hP : cz = 40) (tt : List UInt8) (hsl : ∀ W, (Instr.slice 9 (.string (Bs l)) (some (.int .i64 (i : Int))) (some (.int .i64 ((i : Int) + 1))) none).run Try.prog W = .ok (.string (Bs tt)) W) (w : World) : Calls Try.prog 16 #[.string (Bs l), .int .i64 (i : Int)] w fun e w' =>
    e = .returned (.tuple #[.agg #[.int .i64 3, .int .i64 (i : Int), .int .i64 0, .string (Bs tt)], .int .i64 ((i : Int) + 1), .int .i64 0]) ∧ Below w.heap.size w w' := by
  obtain ⟨q, hq⟩ : ∃ q, w.heap.size = q := ⟨_, rfl⟩
  obtain ⟨w1, hw1⟩ : ∃ x, w.alloc (.cells #[.int .i64 0, .int .i64 0, .int .i64 0, .string { data := #[] }] 36) = x := ⟨_, rfl⟩
  have HR : Hid (Whole w1 q 36 #[.int .i64 0, .int .i64 0, .int .i64 0, .string { data := #[] }]) := by show Whole _ _ _ _; rw [← hw1, ← hq]; exact Whole.new w _ _
  have HB : Hid (Below q w w1) := by show Below _ _ _; rw [← hw1, ← hq]; exact (Below.refl _ _).alloc (Nat.le_refl _) _
  obtain ⟨c0, c1, c2, c3, f0, f1, f2, f3⟩ := cells4 HR.out
  subst hP
  have hL : letZ 40 = false := rfl
  have hD : digZ 40 = false := rfl
  go_enter Try.func16, Try.ntmps16
  go_wp2_with (first | (go_at_call 24; refine (rletter_any _ _).mono ?_; rintro en w' ⟨rfl, rfl⟩) | (go_at_call 26; refine (rdigit_any _ _).mono ?_; rintro en w' ⟨rfl, rfl⟩))
  refine bodyPost_ret (v := .tuple #[.agg #[.int .i64 3, .int .i64 (i : Int), .int .i64 0, .string (Bs tt)], .int .i64 ((i : Int) + 1), .int .i64 0]) ?_ rfl ⟨rfl, by first | exact below4 HB.out _ _ _ _ | (rw [hq]; exact below4 HB.out _ _ _ _)⟩
  simp [results, Try.f16, go_sem, c0, c1, c2, c3, Bs]

set_option maxRecDepth 100000 in
set_option maxHeartbeats 1000000 in
theorem next_p41 (l : List UInt8) (i : Nat) (cz : Int) (hlen : ∀ (W : World) (ty : TypeId), (Builtin.len_ #[9] ty #[.string (Bs l)]).run Try.prog W = .ok (.int .i64 (l.length : Int)) W)
    (him : i < l.length) (hm : (l.length : Int) ≤ 900000) (hix : ∀ W, (Instr.index 9 (.string (Bs l)) (.int .i64 (i : Int))).run Try.prog W = .ok (.int .u8 cz) W) (hP : cz = 41) (tt : List UInt8) (hsl : ∀ W, (Instr.slice 9 (.string (Bs l)) (some (.int .i64 (i : Int))) (some (.int .i64 ((i : Int) + 1))) none).run Try.prog W = .ok (.string (Bs tt)) W) (w : World) : Calls Try.prog 16 #[.string (Bs l), .int .i64 (i : Int)] w fun e w' =>
    e = .returned (.tuple #[.agg #[.int .i64 3, .int .i64 (i : Int), .int .i64 0, .string (Bs tt)], .int .i64 ((i : Int) + 1), .int .i64 0]) ∧ Below w.heap.size w w' := by
  obtain ⟨q, hq⟩ : ∃ q, w.heap.size = q := ⟨_, rfl⟩
  obtain ⟨w1, hw1⟩ : ∃ x, w.alloc (.cells #[.int .i64 0, .int .i64 0, .int .i64 0, .string { data := #[] }] 36) = x := ⟨_, rfl⟩
  have HR : Hid (Whole w1 q 36 #[.int .i64 0, .int .i64 0, .int .i64 0, .string { data := #[] }]) := by show Whole _ _ _ _; rw [← hw1, ← hq]; exact Whole.new w _ _
  have HB : Hid (Below q w w1) := by show Below _ _ _; rw [← hw1, ← hq]; exact (Below.refl _ _).alloc (Nat.le_refl _) _
  obtain ⟨c0, c1, c2, c3, f0, f1, f2, f3⟩ := cells4 HR.out
  subst hP
  have hL : letZ 41 = false := rfl
  have hD : digZ 41 = false := rfl
  go_enter Try.func16, Try.ntmps16
  go_wp2_with (first | (go_at_call 24; refine (rletter_any _ _).mono ?_; rintro en w' ⟨rfl, rfl⟩) | (go_at_call 26; refine (rdigit_any _ _).mono ?_; rintro en w' ⟨rfl, rfl⟩))
  refine bodyPost_ret (v := .tuple #[.agg #[.int .i64 3, .int .i64 (i : Int), .int .i64 0, .string (Bs tt)], .int .i64 ((i : Int) + 1), .int .i64 0]) ?_ rfl ⟨rfl, by first | exact below4 HB.out _ _ _ _ | (rw [hq]; exact below4 HB.out _ _ _ _)⟩
  simp [results, Try.f16, go_sem, c0, c1, c2, c3, Bs]

set_option maxRecDepth 100000 in
set_option maxHeartbeats 1000000 in
theorem next_p61 (l : List UInt8) (i : Nat) (cz : Int) (hlen : ∀ (W : World) (ty : TypeId), (Builtin.len_ #[9] ty #[.string (Bs l)]).run Try.prog W = .ok (.int .i64 (l.length : Int)) W)
    (him : i < l.length) (hm : (l.length : Int) ≤ 900000) (hix : ∀ W, (Instr.index 9 (.string (Bs l)) (.int .i64 (i : Int))).run Try.prog W = .ok (.int .u8 cz) W) (hP : cz = 61) (tt : List UInt8) (hsl : ∀ W, (Instr.slice 9 (.string (Bs l)) (some (.int .i64 (i : Int))) (some (.int .i64 ((i : Int) + 1))) none).run Try.prog W = .ok (.string (Bs tt)) W) (w : World) : Calls Try.prog 16 #[.string (Bs l), .int .i64 (i : Int)] w fun e w' =>
    e = .returned (.tuple #[.agg #[.int .i64 3, .int .i64 (i : Int), .int .i64 0, .string (Bs tt)], .int .i64 ((i : Int) + 1), .int .i64 0]) ∧ Below w.heap.size w w' := by
  obtain ⟨q, hq⟩ : ∃ q, w.heap.size = q := ⟨_, rfl⟩
  obtain ⟨w1, hw1⟩ : ∃ x, w.alloc (.cells #[.int .i64 0, .int .i64 0, .int .i64 0, .string { data := #[] }] 36) = x := ⟨_, rfl⟩
  have HR : Hid (Whole w1 q 36 #[.int .i64 0, .int .i64 0, .int .i64 0, .string { data := #[] }]) := by show Whole _ _ _ _; rw [← hw1, ← hq]; exact Whole.new w _ _
  have HB : Hid (Below q w w1) := by show Below _ _ _; rw [← hw1, ← hq]; exact (Below.refl _ _).alloc (Nat.le_refl _) _
  obtain ⟨c0, c1, c2, c3, f0, f1, f2, f3⟩ := cells4 HR.out
  subst hP
  have hL : letZ 61 = false := rfl
  have hD : digZ 61 = false := rfl
  go_enter Try.func16, Try.ntmps16
  go_wp2_with (first | (go_at_call 24; refine (rletter_any _ _).mono ?_; rintro en w' ⟨rfl, rfl⟩) | (go_at_call 26; refine (rdigit_any _ _).mono ?_; rintro en w' ⟨rfl, rfl⟩))
  refine bodyPost_ret (v := .tuple #[.agg #[.int .i64 3, .int .i64 (i : Int), .int .i64 0, .string (Bs tt)], .int .i64 ((i : Int) + 1), .int .i64 0]) ?_ rfl ⟨rfl, by first | exact below4 HB.out _ _ _ _ | (rw [hq]; exact below4 HB.out _ _ _ _)⟩
  simp [results, Try.f16, go_sem, c0, c1, c2, c3, Bs]

set_option maxRecDepth 100000 in
set_option maxHeartbeats 1000000 in
theorem next_minusEnd (l : List UInt8) (i : Nat) (cz : Int) (hlen : ∀ (W : World) (ty : TypeId), (Builtin.len_ #[9] ty #[.string (Bs l)]).run Try.prog W = .ok (.int .i64 (l.length : Int)) W)
    (him : i < l.length) (hm : (l.length : Int) ≤ 900000) (hix : ∀ W, (Instr.index 9 (.string (Bs l)) (.int .i64 (i : Int))).run Try.prog W = .ok (.int .u8 cz) W) (hL : letZ cz = false) (hD : digZ cz = false) (h45 : cz = 45) (hlt : ¬ (i : Int) + 1 < (l.length : Int)) (w : World) : Calls Try.prog 16 #[.string (Bs l), .int .i64 (i : Int)] w fun e w' =>
    e = .returned (.tuple #[.agg #[.int .i64 0, .int .i64 0, .int .i64 0, .string (Bs [])], .int .i64 0, .int .i64 12]) ∧ Below w.heap.size w w' := by
  obtain ⟨q, hq⟩ : ∃ q, w.heap.size = q := ⟨_, rfl⟩
  obtain ⟨w1, hw1⟩ : ∃ x, w.alloc (.cells #[.int .i64 0, .int .i64 0, .int .i64 0, .string { data := #[] }] 36) = x := ⟨_, rfl⟩
  have HR : Hid (Whole w1 q 36 #[.int .i64 0, .int .i64 0, .int .i64 0, .string { data := #[] }]) := by show Whole _ _ _ _; rw [← hw1, ← hq]; exact Whole.new w _ _
  have HB : Hid (Below q w w1) := by show Below _ _ _; rw [← hw1, ← hq]; exact (Below.refl _ _).alloc (Nat.le_refl _) _
  obtain ⟨c0, c1, c2, c3, f0, f1, f2, f3⟩ := cells4 HR.out
  subst h45
  go_enter Try.func16, Try.ntmps16
  go_wp2_with (first | (go_at_call 24; refine (rletter_any _ _).mono ?_; rintro en w' ⟨rfl, rfl⟩) | (go_at_call 26; refine (rdigit_any _ _).mono ?_; rintro en w' ⟨rfl, rfl⟩))
  refine bodyPost_ret (v := .tuple #[.agg #[.int .i64 0, .int .i64 0, .int .i64 0, .string (Bs [])], .int .i64 0, .int .i64 12]) ?_ rfl ⟨rfl, by first | exact below4 HB.out _ _ _ _ | (rw [hq]; exact below4 HB.out _ _ _ _)⟩
  simp [results, Try.f16, go_sem, c0, c1, c2, c3, Bs]

set_option maxRecDepth 100000 in
set_option maxHeartbeats 1000000 in
theorem next_minusNo (l : List UInt8) (i : Nat) (cz : Int) (hlen : ∀ (W : World) (ty : TypeId), (Builtin.len_ #[9] ty #[.string (Bs l)]).run Try.prog W = .ok (.int .i64 (l.length : Int)) W)
    (him : i < l.length) (hm : (l.length : Int) ≤ 900000) (hix : ∀ W, (Instr.index 9 (.string (Bs l)) (.int .i64 (i : Int))).run Try.prog W = .ok (.int .u8 cz) W) (hL : letZ cz = false) (hD : digZ cz = false) (h45 : cz = 45) (hlt : (i : Int) + 1 < (l.length : Int)) (dz : Int) (hix1 : ∀ W, (Instr.index 9 (.string (Bs l)) (.int .i64 ((i : Int) + 1))).run Try.prog W = .ok (.int .u8 dz) W) (hD2 : digZ dz = false) (w : World) : Calls Try.prog 16 #[.string (Bs l), .int .i64 (i : Int)] w fun e w' =>
    e = .returned (.tuple #[.agg #[.int .i64 0, .int .i64 0, .int .i64 0, .string (Bs [])], .int .i64 0, .int .i64 12]) ∧ Below w.heap.size w w' := by
  obtain ⟨q, hq⟩ : ∃ q, w.heap.size = q := ⟨_, rfl⟩
  obtain ⟨w1, hw1⟩ : ∃ x, w.alloc (.cells #[.int .i64 0, .int .i64 0, .int .i64 0, .string { data := #[] }] 36) = x := ⟨_, rfl⟩
  have HR : Hid (Whole w1 q 36 #[.int .i64 0, .int .i64 0, .int .i64 0, .string { data := #[] }]) := by show Whole _ _ _ _; rw [← hw1, ← hq]; exact Whole.new w _ _
  have HB : Hid (Below q w w1) := by show Below _ _ _; rw [← hw1, ← hq]; exact (Below.refl _ _).alloc (Nat.le_refl _) _
  obtain ⟨c0, c1, c2, c3, f0, f1, f2, f3⟩ := cells4 HR.out
  subst h45
  go_enter Try.func16, Try.ntmps16
  go_wp2_with (first | (go_at_call 24; refine (rletter_any _ _).mono ?_; rintro en w' ⟨rfl, rfl⟩) | (go_at_call 26; refine (rdigit_any _ _).mono ?_; rintro en w' ⟨rfl, rfl⟩))
  refine bodyPost_ret (v := .tuple #[.agg #[.int .i64 0, .int .i64 0, .int .i64 0, .string (Bs [])], .int .i64 0, .int .i64 12]) ?_ rfl ⟨rfl, by first | exact below4 HB.out _ _ _ _ | (rw [hq]; exact below4 HB.out _ _ _ _)⟩
  simp [results, Try.f16, go_sem, c0, c1, c2, c3, Bs]

set_option maxRecDepth 100000 in
set_option maxHeartbeats 1000000 in
theorem next_none (l : List UInt8) (i : Nat) (cz : Int) (hlen : ∀ (W : World) (ty : TypeId), (Builtin.len_ #[9] ty #[.string (Bs l)]).run Try.prog W = .ok (.int .i64 (l.length : Int)) W)
    (him : i < l.length) (hm : (l.length : Int) ≤ 900000) (hix : ∀ W, (Instr.index 9 (.string (Bs l)) (.int .i64 (i : Int))).run Try.prog W = .ok (.int .u8 cz) W) (hL : letZ cz = false) (hD : digZ cz = false) (h45 : (cz == 45) = false) (h40 : (cz == 40) = false) (h41 : (cz == 41) = false) (h61 : (cz == 61) = false) (w : World) : Calls Try.prog 16 #[.string (Bs l), .int .i64 (i : Int)] w fun e w' =>
    e = .returned (.tuple #[.agg #[.int .i64 0, .int .i64 0, .int .i64 0, .string (Bs [])], .int .i64 0, .int .i64 12]) ∧ Below w.heap.size w w' := by
  obtain ⟨q, hq⟩ : ∃ q, w.heap.size = q := ⟨_, rfl⟩
  obtain ⟨w1, hw1⟩ : ∃ x, w.alloc (.cells #[.int .i64 0, .int .i64 0, .int .i64 0, .string { data := #[] }] 36) = x := ⟨_, rfl⟩
  have HR : Hid (Whole w1 q 36 #[.int .i64 0, .int .i64 0, .int .i64 0, .string { data := #[] }]) := by show Whole _ _ _ _; rw [← hw1, ← hq]; exact Whole.new w _ _
  have HB : Hid (Below q w w1) := by show Below _ _ _; rw [← hw1, ← hq]; exact (Below.refl _ _).alloc (Nat.le_refl _) _
  obtain ⟨c0, c1, c2, c3, f0, f1, f2, f3⟩ := cells4 HR.out
  go_enter Try.func16, Try.ntmps16
  go_wp2_with (first | (go_at_call 24; refine (rletter_any _ _).mono ?_; rintro en w' ⟨rfl, rfl⟩) | (go_at_call 26; refine (rdigit_any _ _).mono ?_; rintro en w' ⟨rfl, rfl⟩))
  refine bodyPost_ret (v := .tuple #[.agg #[.int .i64 0, .int .i64 0, .int .i64 0, .string (Bs [])], .int .i64 0, .int .i64 12]) ?_ rfl ⟨rfl, by first | exact below4 HB.out _ _ _ _ | (rw [hq]; exact below4 HB.out _ _ _ _)⟩
  simp [results, Try.f16, go_sem, c0, c1, c2, c3, Bs]
end Go.Proofs.Ytijibieeajakoaa

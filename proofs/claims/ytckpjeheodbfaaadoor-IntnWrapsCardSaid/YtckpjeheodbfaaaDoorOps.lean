import Derived.Test.YtckpjeheodbfaaaDoorAdd
import Derived.Test.YtckpjeheodbfaaaDoorMulMath
namespace Go.Proofs.YtckpjeheodbfaaaDoor
open Go.RowKit

/-- What Sub says besides: true if the wrapped difference is another number than the 64-bit difference. -/
theorem sub_case1 {t a b : Int} (hs : ¬ wrapI t (wrap64 (wrapI t a - wrapI t b)) = wrap64 (wrapI t a - wrapI t b)) : true = subO t a b := by
  have h := sub_over t _ _ (wrap_in t a) (wrap_in t b)
  exact (outI_true (by
    rcases Classical.em (minI t ≤ wrapI t a - wrapI t b ∧ wrapI t a - wrapI t b ≤ maxI t) with g | g
    · exact absurd (h.2 g).1 hs
    · omega)).symm
theorem sub_case2 {t a b : Int} (hs : wrapI t (wrap64 (wrapI t a - wrapI t b)) = wrap64 (wrapI t a - wrapI t b)) (hb : Bool)
    (hd : hb = false ↔ (¬ (wrapI t a < 0 ↔ wrapI t b < 0) → (wrap64 (wrapI t a - wrapI t b) < 0 ↔ wrapI t a < 0))) : hb = subO t a b := by
  have h := sub_over t _ _ (wrap_in t a) (wrap_in t b)
  cases hb
  · exact (outI_false (h.1 ⟨hs, hd.1 rfl⟩)).symm
  · refine (outI_true ?_).symm
    rcases Classical.em (minI t ≤ wrapI t a - wrapI t b ∧ wrapI t a - wrapI t b ≤ maxI t) with g | g
    · exact absurd (hd.2 (h.2 g).2) (by simp)
    · omega

theorem sub_any (t a b : Int) (w : World) (hT : Tab w) :
    Calls Tryd.prog 20 #[.int .i64 t, .int .i64 a, .int .i64 b] w fun e w' => e = .returned (.tuple #[.int .i64 (subS t a b), .bool (subO t a b)]) ∧ Below w.heap.size w w' := by
  have hpos := hT.pos
  go_enter Tryd.func20, Tryd.ntmps20
  go_wp2_with fail
  refine (wrapAll_boxes t a b w hT).mono ?_
  rintro e w' ⟨rfl, rfl⟩
  have hT' := hT.below (boxes_below0 (.int .i64 (wrapI t a)) (.int .i64 (wrapI t b)) #[.pointer (some ⟨w.heap.size, 0, none⟩), .pointer (some ⟨w.heap.size + 1, 0, none⟩)] 2 2 40 w)
  go_wp2_with (go_at_call 9; refine (wrap_any _ _ _ hT').mono ?_; rintro e w' ⟨rfl, rfl⟩)
  clear hT' hT
  by_cases hs : wrapI t (wrap64 (wrapI t a - wrapI t b)) = wrap64 (wrapI t a - wrapI t b)
  · have hs1 : (!(wrapI t (wrap64 (wrapI t a - wrapI t b)) == wrap64 (wrapI t a - wrapI t b))) = false := by simpa using hs
    have hs2 : (wrapI t (wrap64 (wrapI t a - wrapI t b)) != wrap64 (wrapI t a - wrapI t b)) = false := by simpa using hs
    have HS := hide hs
    clear hs
    by_cases hx : wrapI t a < 0 <;> by_cases hy : wrapI t b < 0
    all_goals
      go_quiet (fail)
      go_wp2
      go_ret2
      exact ⟨ret_ib (wrap_wrap64 _ _) (sub_case2 HS.out _ (by simp [*]; try omega)), boxes_below _ _ _ _ _ _ _ _⟩
  · have hs1 : (!(wrapI t (wrap64 (wrapI t a - wrapI t b)) == wrap64 (wrapI t a - wrapI t b))) = true := by simpa using hs
    have hs2 : (wrapI t (wrap64 (wrapI t a - wrapI t b)) != wrap64 (wrapI t a - wrapI t b)) = true := by simpa using hs
    have HS := hide hs
    clear hs
    go_quiet (fail)
    go_wp2
    go_ret2
    exact ⟨ret_ib (wrap_wrap64 _ _) (sub_case1 HS.out), boxes_below _ _ _ _ _ _ _ _⟩


theorem ret_bool {p q : Bool} (h : p = q) : Ending.returned (.bool p) = .returned (.bool q) := by rw [h]
theorem leaves_any (a b : Int) (w : World) (ha : -9223372036854775808 ≤ a ∧ a ≤ 9223372036854775807) (hb : -9223372036854775808 ≤ b ∧ b ≤ 9223372036854775807) :
    Calls Tryd.prog 39 #[.int .i64 a, .int .i64 b] w fun e w' => e = .returned (.bool (outI 4 (a * b))) ∧ w = w' := by
  have HA := hide ha
  have HB := hide hb
  clear ha hb
  by_cases h1 : a = -1
  · have h2 : (a == -1) = true := by simpa using h1
    have H1 := hide h1
    clear h1
    go_enter Tryd.func39, Tryd.ntmps39
    go_wp2
    go_ret
    exact ⟨ret_bool (leaves_minus H1.out HB.out), rfl⟩
  · have h2 : (a == -1) = false := by simpa using h1
    have H1 := hide h1
    clear h1
    by_cases h0 : a = 0
    · have h3 : (a == 0) = true := by simpa using h0
      have h4 : (a != 0) = false := by simpa using h0
      have H0 := hide h0
      clear h0
      go_enter Tryd.func39, Tryd.ntmps39
      go_wp2
      go_ret
      exact ⟨ret_bool (leaves_zero H0.out), rfl⟩
    · have h3 : (a == 0) = false := by simpa using h0
      have h4 : (a != 0) = true := by simpa using h0
      go_enter Tryd.func39, Tryd.ntmps39
      go_wp2
      go_ret
      exact ⟨ret_bool (leaves_else H1.out h0 HA.out), rfl⟩

theorem mul_any (t a b : Int) (w : World) (hT : Tab w) :
    Calls Tryd.prog 22 #[.int .i64 t, .int .i64 a, .int .i64 b] w fun e w' => e = .returned (.tuple #[.int .i64 (mulS t a b), .bool (mulO t a b)]) ∧ Below w.heap.size w w' := by
  have hpos := hT.pos
  have hra := hide (wrap_range t a)
  have hrb := hide (wrap_range t b)
  have hT' := hT.below (boxes_below0 (.int .i64 (wrapI t a)) (.int .i64 (wrapI t b)) #[.pointer (some ⟨w.heap.size, 0, none⟩), .pointer (some ⟨w.heap.size + 1, 0, none⟩)] 2 2 40 w)
  by_cases hs : wrapI t (wrap64 (wrapI t a * wrapI t b)) = wrap64 (wrapI t a * wrapI t b)
  · have hs1 : (wrapI t (wrap64 (wrapI t a * wrapI t b)) == wrap64 (wrapI t a * wrapI t b)) = true := by simpa using hs
    have hs2 : (wrapI t (wrap64 (wrapI t a * wrapI t b)) != wrap64 (wrapI t a * wrapI t b)) = false := by simpa using hs
    have HS := hide hs
    clear hs
    go_enter Tryd.func22, Tryd.ntmps22
    go_wp2_with fail
    refine (wrapAll_boxes t a b w hT).mono ?_
    rintro e w' ⟨rfl, rfl⟩
    go_wp2_with (first | (go_at_call 9; refine (wrap_any _ _ _ hT').mono ?_; rintro e w' ⟨rfl, rfl⟩) | (go_at_call 39; refine (leaves_any _ _ _ hra.out hrb.out).mono ?_; rintro e w' ⟨rfl, rfl⟩))
    go_ret2
    exact ⟨ret_ib (wrap_wrap64 _ _) (mul_case2 HS.out), boxes_below0 _ _ _ _ _ _ _⟩
  · have hs1 : (wrapI t (wrap64 (wrapI t a * wrapI t b)) == wrap64 (wrapI t a * wrapI t b)) = false := by simpa using hs
    have hs2 : (wrapI t (wrap64 (wrapI t a * wrapI t b)) != wrap64 (wrapI t a * wrapI t b)) = true := by simpa using hs
    have HS := hide hs
    clear hs
    go_enter Tryd.func22, Tryd.ntmps22
    go_wp2_with fail
    refine (wrapAll_boxes t a b w hT).mono ?_
    rintro e w' ⟨rfl, rfl⟩
    go_wp2_with (go_at_call 9; refine (wrap_any _ _ _ hT').mono ?_; rintro e w' ⟨rfl, rfl⟩)
    go_ret2
    exact ⟨ret_ib (wrap_wrap64 _ _) (mul_case1 HS.out), boxes_below0 _ _ _ _ _ _ _⟩

theorem shl_yes (t a n : Int) (w : World) (hT : Tab w) (h : unsI t n < bitsI t) :
    Calls Tryd.prog 24 #[.int .i64 t, .int .i64 a, .int .i64 n] w fun e w' => e = .returned (.tuple #[.int .i64 (shlS t a n), .bool true]) ∧ w = w' := by
  have hu0 : 0 ≤ unsI t n := uns_nonneg t n
  have hu1 : unsI t n < 64 := by have := bits_range t; omega
  have hd : decide (unsI t n < bitsI t) = true := by simpa using h
  clear h
  go_enter Tryd.func24, Tryd.ntmps24
  go_wp2_with (first | (go_at_call 41; refine (shift_any _ _ _ hT).mono ?_; rintro e w' ⟨rfl, rfl⟩) | (go_at_call 9; refine (wrap_any _ _ _ hT).mono ?_; rintro e w' ⟨rfl, rfl⟩))
  go_ret2
  exact ⟨ret_ib (wrap_wrap64 _ _) rfl, rfl⟩
theorem shl_no (t a n : Int) (w : World) (hT : Tab w) (h : bitsI t ≤ unsI t n) :
    Calls Tryd.prog 24 #[.int .i64 t, .int .i64 a, .int .i64 n] w fun e w' => e = .returned (.tuple #[.int .i64 0, .bool false]) ∧ w = w' := by
  have hu0 : 0 ≤ unsI t n := uns_nonneg t n
  have hd : decide (unsI t n < bitsI t) = false := by simpa using h
  clear h
  go_enter Tryd.func24, Tryd.ntmps24
  go_wp2_with (first | (go_at_call 41; refine (shift_any _ _ _ hT).mono ?_; rintro e w' ⟨rfl, rfl⟩) | (go_at_call 9; refine (wrap_any _ _ _ hT).mono ?_; rintro e w' ⟨rfl, rfl⟩))
  go_ret2
  exact ⟨rfl, rfl⟩
theorem lshr_yes (t a n : Int) (w : World) (hT : Tab w) (h : unsI t n < bitsI t) :
    Calls Tryd.prog 26 #[.int .i64 t, .int .i64 a, .int .i64 n] w fun e w' => e = .returned (.tuple #[.int .i64 (lshrS t a n), .bool true]) ∧ w = w' := by
  have hu0 : 0 ≤ unsI t n := uns_nonneg t n
  have hu1 : unsI t n < 64 := by have := bits_range t; omega
  have hd : decide (unsI t n < bitsI t) = true := by simpa using h
  clear h
  go_enter Tryd.func26, Tryd.ntmps26
  go_wp2_with (first | (go_at_call 41; refine (shift_any _ _ _ hT).mono ?_; rintro e w' ⟨rfl, rfl⟩) | (go_at_call 9; refine (wrap_any _ _ _ hT).mono ?_; rintro e w' ⟨rfl, rfl⟩) | (go_at_call 10; refine (uns_any _ _ _ hT).mono ?_; rintro e w' ⟨rfl, rfl⟩))
  go_ret2
  exact ⟨ret_ib (wrap_wrap64 _ _) rfl, rfl⟩
theorem lshr_no (t a n : Int) (w : World) (hT : Tab w) (h : bitsI t ≤ unsI t n) :
    Calls Tryd.prog 26 #[.int .i64 t, .int .i64 a, .int .i64 n] w fun e w' => e = .returned (.tuple #[.int .i64 0, .bool false]) ∧ w = w' := by
  have hu0 : 0 ≤ unsI t n := uns_nonneg t n
  have hd : decide (unsI t n < bitsI t) = false := by simpa using h
  clear h
  go_enter Tryd.func26, Tryd.ntmps26
  go_wp2_with (first | (go_at_call 41; refine (shift_any _ _ _ hT).mono ?_; rintro e w' ⟨rfl, rfl⟩) | (go_at_call 9; refine (wrap_any _ _ _ hT).mono ?_; rintro e w' ⟨rfl, rfl⟩) | (go_at_call 10; refine (uns_any _ _ _ hT).mono ?_; rintro e w' ⟨rfl, rfl⟩))
  go_ret2
  exact ⟨rfl, rfl⟩
theorem ashr_yes (t a n : Int) (w : World) (hT : Tab w) (h : unsI t n < bitsI t) :
    Calls Tryd.prog 28 #[.int .i64 t, .int .i64 a, .int .i64 n] w fun e w' => e = .returned (.tuple #[.int .i64 (ashrS t a n), .bool true]) ∧ w = w' := by
  have hu0 : 0 ≤ unsI t n := uns_nonneg t n
  have hu1 : unsI t n < 64 := by have := bits_range t; omega
  have hd : decide (unsI t n < bitsI t) = true := by simpa using h
  clear h
  go_enter Tryd.func28, Tryd.ntmps28
  go_wp2_with (first | (go_at_call 41; refine (shift_any _ _ _ hT).mono ?_; rintro e w' ⟨rfl, rfl⟩) | (go_at_call 9; refine (wrap_any _ _ _ hT).mono ?_; rintro e w' ⟨rfl, rfl⟩))
  go_ret2
  exact ⟨rfl, rfl⟩
theorem ashr_no (t a n : Int) (w : World) (hT : Tab w) (h : bitsI t ≤ unsI t n) :
    Calls Tryd.prog 28 #[.int .i64 t, .int .i64 a, .int .i64 n] w fun e w' => e = .returned (.tuple #[.int .i64 0, .bool false]) ∧ w = w' := by
  have hu0 : 0 ≤ unsI t n := uns_nonneg t n
  have hd : decide (unsI t n < bitsI t) = false := by simpa using h
  clear h
  go_enter Tryd.func28, Tryd.ntmps28
  go_wp2_with (first | (go_at_call 41; refine (shift_any _ _ _ hT).mono ?_; rintro e w' ⟨rfl, rfl⟩) | (go_at_call 9; refine (wrap_any _ _ _ hT).mono ?_; rintro e w' ⟨rfl, rfl⟩))
  go_ret2
  exact ⟨rfl, rfl⟩
theorem sdiv_yes (t a b : Int) (w : World) (hT : Tab w) (h : (wrapI t b == 0) = false) :
    Calls Tryd.prog 30 #[.int .i64 t, .int .i64 a, .int .i64 b] w fun e w' => e = .returned (.tuple #[.int .i64 (divS t a b), .bool true]) ∧ Below w.heap.size w w' := by
  have hpos := hT.pos
  have h' : ¬ wrapI t b = 0 := by simpa using h
  go_enter Tryd.func30, Tryd.ntmps30
  go_wp2_with fail
  refine (wrapAll_boxes t a b w hT).mono ?_
  rintro e w' ⟨rfl, rfl⟩
  have hT' := hT.below (boxes_below0 (.int .i64 (wrapI t a)) (.int .i64 (wrapI t b)) #[.pointer (some ⟨w.heap.size, 0, none⟩), .pointer (some ⟨w.heap.size + 1, 0, none⟩)] 2 2 40 w)
  go_wp2_with (go_at_call 9; refine (wrap_any _ _ _ hT').mono ?_; rintro e w' ⟨rfl, rfl⟩)
  go_ret2
  exact ⟨ret_ib (wrap_wrap64 _ _) rfl, boxes_below0 _ _ _ _ _ _ _⟩
theorem sdiv_no (t a b : Int) (w : World) (hT : Tab w) (h : (wrapI t b == 0) = true) :
    Calls Tryd.prog 30 #[.int .i64 t, .int .i64 a, .int .i64 b] w fun e w' => e = .returned (.tuple #[.int .i64 0, .bool false]) ∧ Below w.heap.size w w' := by
  have hpos := hT.pos
  go_enter Tryd.func30, Tryd.ntmps30
  go_wp2_with fail
  refine (wrapAll_boxes t a b w hT).mono ?_
  rintro e w' ⟨rfl, rfl⟩
  have hT' := hT.below (boxes_below0 (.int .i64 (wrapI t a)) (.int .i64 (wrapI t b)) #[.pointer (some ⟨w.heap.size, 0, none⟩), .pointer (some ⟨w.heap.size + 1, 0, none⟩)] 2 2 40 w)
  go_wp2_with (go_at_call 9; refine (wrap_any _ _ _ hT').mono ?_; rintro e w' ⟨rfl, rfl⟩)
  go_ret2
  exact ⟨rfl, boxes_below0 _ _ _ _ _ _ _⟩
theorem srem_yes (t a b : Int) (w : World) (hT : Tab w) (h : (wrapI t b == 0) = false) :
    Calls Tryd.prog 31 #[.int .i64 t, .int .i64 a, .int .i64 b] w fun e w' => e = .returned (.tuple #[.int .i64 (remS t a b), .bool true]) ∧ Below w.heap.size w w' := by
  have hpos := hT.pos
  have h' : ¬ wrapI t b = 0 := by simpa using h
  go_enter Tryd.func31, Tryd.ntmps31
  go_wp2_with fail
  refine (wrapAll_boxes t a b w hT).mono ?_
  rintro e w' ⟨rfl, rfl⟩
  have hT' := hT.below (boxes_below0 (.int .i64 (wrapI t a)) (.int .i64 (wrapI t b)) #[.pointer (some ⟨w.heap.size, 0, none⟩), .pointer (some ⟨w.heap.size + 1, 0, none⟩)] 2 2 40 w)
  go_wp2_with (go_at_call 9; refine (wrap_any _ _ _ hT').mono ?_; rintro e w' ⟨rfl, rfl⟩)
  go_ret2
  exact ⟨rfl, boxes_below0 _ _ _ _ _ _ _⟩
theorem srem_no (t a b : Int) (w : World) (hT : Tab w) (h : (wrapI t b == 0) = true) :
    Calls Tryd.prog 31 #[.int .i64 t, .int .i64 a, .int .i64 b] w fun e w' => e = .returned (.tuple #[.int .i64 0, .bool false]) ∧ Below w.heap.size w w' := by
  have hpos := hT.pos
  go_enter Tryd.func31, Tryd.ntmps31
  go_wp2_with fail
  refine (wrapAll_boxes t a b w hT).mono ?_
  rintro e w' ⟨rfl, rfl⟩
  have hT' := hT.below (boxes_below0 (.int .i64 (wrapI t a)) (.int .i64 (wrapI t b)) #[.pointer (some ⟨w.heap.size, 0, none⟩), .pointer (some ⟨w.heap.size + 1, 0, none⟩)] 2 2 40 w)
  go_wp2_with (go_at_call 9; refine (wrap_any _ _ _ hT').mono ?_; rintro e w' ⟨rfl, rfl⟩)
  go_ret2
  exact ⟨rfl, boxes_below0 _ _ _ _ _ _ _⟩

theorem ult_any (t a b : Int) (w : World) (hT : Tab w) :
    Calls Tryd.prog 34 #[.int .i64 t, .int .i64 a, .int .i64 b] w fun e w' => e = .returned (.bool (decide (unsI t a < unsI t b))) ∧ w = w' := by
  go_enter Tryd.func34, Tryd.ntmps34
  go_wp2_with fail
  refine (uns_any _ _ _ hT).mono ?_
  rintro e w' ⟨rfl, rfl⟩
  go_wp2_with fail
  refine (uns_any _ _ _ hT).mono ?_
  rintro e w' ⟨rfl, rfl⟩
  go_wp2_with fail
  go_ret
  exact ⟨rfl, rfl⟩
theorem zext_any (f t n : Int) (w : World) (hT : Tab w) :
    Calls Tryd.prog 36 #[.int .i64 f, .int .i64 t, .int .i64 n] w fun e w' => e = .returned (.int .i64 (wrapI t (unsI f n))) ∧ w = w' := by
  go_enter Tryd.func36, Tryd.ntmps36
  go_wp2_with (first | (go_at_call 9; refine (wrap_any _ _ _ hT).mono ?_; rintro e w' ⟨rfl, rfl⟩) | (go_at_call 10; refine (uns_any _ _ _ hT).mono ?_; rintro e w' ⟨rfl, rfl⟩))
  go_ret
  exact ⟨ret_int (wrap_wrap64 _ _), rfl⟩

end Go.Proofs.YtckpjeheodbfaaaDoor

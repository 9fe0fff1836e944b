import Derived.Test.YtjeinmccahbpgaaDoorAdd
import Derived.Test.YtjeinmccahbpgaaDoorMulMath
namespace Go.Proofs.YtjeinmccahbpgaaDoor
open Go.RowKit

/-- What Sub says besides: true if the wrapped difference is another number than the 64-bit difference. -/
theorem sub_case1 {t a b : Int} (hs : ¬ wrapI t (wrap64 (wrapI t a - wrapI t b)) = wrap64 (wrapI t a - wrapI t b)) : true = subO t a b := by
  have h := sub_over t _ _ (wrap_in t a) (wrap_in t b)
  exact (outI_true (by
    rcases Classical.em (minI t ≤ wrapI t a - wrapI t b ∧ wrapI t a - wrapI t b ≤ maxI t) with g | g
    · exact absurd (h.2 g).1 hs
    · omega)).symm
theorem sub_case2 {t a b : Int} (hs : wrapI t (wrap64 (wrapI t a - wrapI t b)) = wrap64 (wrapI t a - wrapI t b)) (hb : Bool)
    (hd : hb = false ↔ (¬ (wrapI t a < 0 ↔ wrapI t b < 0) → (wrap64 (wrapI t a - wrapI t b) < 0 ↔ wrapI t a < 0))) : hb = subO t a b := by
  have h := sub_over t _ _ (wrap_in t a) (wrap_in t b)
  cases hb
  · exact (outI_false (h.1 ⟨hs, hd.1 rfl⟩)).symm
  · refine (outI_true ?_).symm
    rcases Classical.em (minI t ≤ wrapI t a - wrapI t b ∧ wrapI t a - wrapI t b ≤ maxI t) with g | g
    · exact absurd (hd.2 (h.2 g).2) (by simp)
    · omega

theorem sub_any (t a b : Int) (w : World) (hT : Tab w) :
    Calls Tryd.prog 117 #[.int .i64 t, .int .i64 a, .int .i64 b] w fun e w' => e = .returned (.tuple #[.int .i64 (subS t a b), .bool (subO t a b)]) ∧ Below w.heap.size w w' := by
  have hpos := hT.pos
  go_enter Tryd.func117, Tryd.ntmps117
  go_wp2_with fail
  refine (wrapAll_boxes t a b w hT).mono ?_
  rintro e w' ⟨rfl, rfl⟩
  have hT' := hT.below (boxes_below0 (.int .i64 (wrapI t a)) (.int .i64 (wrapI t b)) #[.pointer (some ⟨w.heap.size, 0, none⟩), .pointer (some ⟨w.heap.size + 1, 0, none⟩)] 2 2 118 w)
  go_wp2_with (go_at_call 51; refine (wrap_any _ _ _ hT').mono ?_; rintro e w' ⟨rfl, rfl⟩)
  clear hT' hT
  by_cases hs : wrapI t (wrap64 (wrapI t a - wrapI t b)) = wrap64 (wrapI t a - wrapI t b)
  · have hs1 : (!(wrapI t (wrap64 (wrapI t a - wrapI t b)) == wrap64 (wrapI t a - wrapI t b))) = false := by simpa using hs
    have hs2 : (wrapI t (wrap64 (wrapI t a - wrapI t b)) != wrap64 (wrapI t a - wrapI t b)) = false := by simpa using hs
    have HS := hide hs
    clear hs
    by_cases hx : wrapI t a < 0 <;> by_cases hy : wrapI t b < 0
    all_goals
      go_quiet (fail)
      go_wp2
      go_ret2
      exact ⟨ret_ib (wrap_wrap64 _ _) (sub_case2 HS.out _ (by simp [*]; try omega)), boxes_below _ _ _ _ _ _ _ _⟩
  · have hs1 : (!(wrapI t (wrap64 (wrapI t a - wrapI t b)) == wrap64 (wrapI t a - wrapI t b))) = true := by simpa using hs
    have hs2 : (wrapI t (wrap64 (wrapI t a - wrapI t b)) != wrap64 (wrapI t a - wrapI t b)) = true := by simpa using hs
    have HS := hide hs
    clear hs
    go_quiet (fail)
    go_wp2
    go_ret2
    exact ⟨ret_ib (wrap_wrap64 _ _) (sub_case1 HS.out), boxes_below _ _ _ _ _ _ _ _⟩


theorem ret_bool {p q : Bool} (h : p = q) : Ending.returned (.bool p) = .returned (.bool q) := by rw [h]
theorem leaves_any (a b : Int) (w : World) (ha : -9223372036854775808 ≤ a ∧ a ≤ 9223372036854775807) (hb : -9223372036854775808 ≤ b ∧ b ≤ 9223372036854775807) :
    Calls Tryd.prog 129 #[.int .i64 a, .int .i64 b] w fun e w' => e = .returned (.bool (outI 4 (a * b))) ∧ w = w' := by
  have HA := hide ha
  have HB := hide hb
  clear ha hb
  by_cases h1 : a = -1
  · have h2 : (a == -1) = true := by simpa using h1
    have H1 := hide h1
    clear h1
    go_enter Tryd.func129, Tryd.ntmps129
    go_wp2
    go_ret
    exact ⟨ret_bool (leaves_minus H1.out HB.out), rfl⟩
  · have h2 : (a == -1) = false := by simpa using h1
    have H1 := hide h1
    clear h1
    by_cases h0 : a = 0
    · have h3 : (a == 0) = true := by simpa using h0
      have h4 : (a != 0) = false := by simpa using h0
      have H0 := hide h0
      clear h0
      go_enter Tryd.func129, Tryd.ntmps129
      go_wp2
      go_ret
      exact ⟨ret_bool (leaves_zero H0.out), rfl⟩
    · have h3 : (a == 0) = false := by simpa using h0
      have h4 : (a != 0) = true := by simpa using h0
      go_enter Tryd.func129, Tryd.ntmps129
      go_wp2
      go_ret
      exact ⟨ret_bool (leaves_else H1.out h0 HA.out), rfl⟩

theorem mul_any (t a b : Int) (w : World) (hT : Tab w) :
    Calls Tryd.prog 118 #[.int .i64 t, .int .i64 a, .int .i64 b] w fun e w' => e = .returned (.tuple #[.int .i64 (mulS t a b), .bool (mulO t a b)]) ∧ Below w.heap.size w w' := by
  have hpos := hT.pos
  have hra := hide (wrap_range t a)
  have hrb := hide (wrap_range t b)
  have hT' := hT.below (boxes_below0 (.int .i64 (wrapI t a)) (.int .i64 (wrapI t b)) #[.pointer (some ⟨w.heap.size, 0, none⟩), .pointer (some ⟨w.heap.size + 1, 0, none⟩)] 2 2 118 w)
  by_cases hs : wrapI t (wrap64 (wrapI t a * wrapI t b)) = wrap64 (wrapI t a * wrapI t b)
  · have hs1 : (wrapI t (wrap64 (wrapI t a * wrapI t b)) == wrap64 (wrapI t a * wrapI t b)) = true := by simpa using hs
    have hs2 : (wrapI t (wrap64 (wrapI t a * wrapI t b)) != wrap64 (wrapI t a * wrapI t b)) = false := by simpa using hs
    have HS := hide hs
    clear hs
    go_enter Tryd.func118, Tryd.ntmps118
    go_wp2_with fail
    refine (wrapAll_boxes t a b w hT).mono ?_
    rintro e w' ⟨rfl, rfl⟩
    go_wp2_with (first | (go_at_call 51; refine (wrap_any _ _ _ hT').mono ?_; rintro e w' ⟨rfl, rfl⟩) | (go_at_call 129; refine (leaves_any _ _ _ hra.out hrb.out).mono ?_; rintro e w' ⟨rfl, rfl⟩))
    go_ret2
    exact ⟨ret_ib (wrap_wrap64 _ _) (mul_case2 HS.out), boxes_below0 _ _ _ _ _ _ _⟩
  · have hs1 : (wrapI t (wrap64 (wrapI t a * wrapI t b)) == wrap64 (wrapI t a * wrapI t b)) = false := by simpa using hs
    have hs2 : (wrapI t (wrap64 (wrapI t a * wrapI t b)) != wrap64 (wrapI t a * wrapI t b)) = true := by simpa using hs
    have HS := hide hs
    clear hs
    go_enter Tryd.func118, Tryd.ntmps118
    go_wp2_with fail
    refine (wrapAll_boxes t a b w hT).mono ?_
    rintro e w' ⟨rfl, rfl⟩
    go_wp2_with (go_at_call 51; refine (wrap_any _ _ _ hT').mono ?_; rintro e w' ⟨rfl, rfl⟩)
    go_ret2
    exact ⟨ret_ib (wrap_wrap64 _ _) (mul_case1 HS.out), boxes_below0 _ _ _ _ _ _ _⟩

end Go.Proofs.YtjeinmccahbpgaaDoor

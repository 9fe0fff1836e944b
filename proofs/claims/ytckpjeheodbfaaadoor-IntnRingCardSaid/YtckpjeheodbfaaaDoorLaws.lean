import Derived.Test.YtckpjeheodbfaaaDoorRef2
import Derived.Test.YtckpjeheodbfaaaDoorRef3
namespace Go.Proofs.YtckpjeheodbfaaaDoor
open Go.RowKit

theorem add_at (t a b s : Int) (o : Bool) (h : addS t a b = s ∧ addO t a b = o) (w : World) (hT : Tab w) :
    Calls Tryd.prog 18 #[.int .i64 t, .int .i64 a, .int .i64 b] w fun e w' => e = .returned (.tuple #[.int .i64 s, .bool o]) ∧ Below w.heap.size w w' := by
  obtain ⟨rfl, rfl⟩ := h; exact add_any t a b w hT
theorem mul_at (t a b s : Int) (o : Bool) (h : mulS t a b = s ∧ mulO t a b = o) (w : World) (hT : Tab w) :
    Calls Tryd.prog 22 #[.int .i64 t, .int .i64 a, .int .i64 b] w fun e w' => e = .returned (.tuple #[.int .i64 s, .bool o]) ∧ Below w.heap.size w w' := by
  obtain ⟨rfl, rfl⟩ := h; exact mul_any t a b w hT
theorem lshr_at (t a n s : Int) (h : unsI t n < bitsI t) (hs : lshrS t a n = s) (w : World) (hT : Tab w) :
    Calls Tryd.prog 26 #[.int .i64 t, .int .i64 a, .int .i64 n] w fun e w' => e = .returned (.tuple #[.int .i64 s, .bool true]) ∧ w = w' := by
  subst hs; exact lshr_yes t a n w hT h
theorem zext_at (f t n s : Int) (hs : wrapI t (unsI f n) = s) (w : World) (hT : Tab w) :
    Calls Tryd.prog 36 #[.int .i64 f, .int .i64 t, .int .i64 n] w fun e w' => e = .returned (.int .i64 s) ∧ w = w' := by
  subst hs; exact zext_any f t n w hT

theorem ex_add : addS 2 127 1 = -128 ∧ addO 2 127 1 = true := by decide
theorem ex_mul : mulS 4 (-9223372036854775808) (-1) = -9223372036854775808 ∧ mulO 4 (-9223372036854775808) (-1) = true := by decide
theorem ex_lshr : unsI 2 4 < bitsI 2 ∧ lshrS 2 (-1) 4 = 15 := by decide
theorem ex_shl : bitsI 3 ≤ unsI 3 32 := by decide
theorem ex_zext : wrapI 3 (unsI 2 (-1)) = 255 := by decide

/-- The examples of the chapter. -/
theorem awake_any (w : World) (hT : Tab w) :
    Calls Tryd.prog 15 #[] w fun e w' => e = .returned (.bool true) ∧ Below w.heap.size w w' := by
  go_enter Tryd.func15, Tryd.ntmps15
  go_wp2_with fail
  refine (add_at _ _ _ _ _ ex_add _ hT).mono ?_
  rintro e w1 ⟨rfl, hb1⟩
  have hT1 := hT.below hb1
  go_wp2_with fail
  refine (mul_at _ _ _ _ _ ex_mul _ hT1).mono ?_
  rintro e w2 ⟨rfl, hb2⟩
  have hT2 := hT1.below hb2
  have hB := hb1.trans (hb2.mono hb1.size)
  clear hb1 hb2 hT1 hT
  go_wp2_with fail
  refine (lshr_at _ _ _ _ ex_lshr.1 ex_lshr.2 _ hT2).mono ?_
  rintro e w' ⟨rfl, rfl⟩
  go_wp2_with fail
  refine (shl_no _ _ _ _ hT2 ex_shl).mono ?_
  rintro e w' ⟨rfl, rfl⟩
  go_wp2_with fail
  refine (zext_at _ _ _ _ ex_zext _ hT2).mono ?_
  rintro e w' ⟨rfl, rfl⟩
  go_wp2_with fail
  refine (bits_at 1 1 rfl _ hT2).mono ?_
  rintro e w' ⟨rfl, rfl⟩
  go_wp2_with fail
  go_ret
  exact ⟨rfl, hB⟩

/-- Wrapped operands give the same results. -/
theorem wrap_again (t n : Int) : wrapI t (wrapI t n) = wrapI t n := wrap_id (wrap_in t n)
theorem add_again (t a b : Int) : addS t (wrapI t a) (wrapI t b) = addS t a b ∧ addO t (wrapI t a) (wrapI t b) = addO t a b := by
  unfold addS addO; rw [wrap_again, wrap_again]; exact ⟨rfl, rfl⟩
theorem sub_again (t a b : Int) : subS t (wrapI t a) (wrapI t b) = subS t a b ∧ subO t (wrapI t a) (wrapI t b) = subO t a b := by
  unfold subS subO; rw [wrap_again, wrap_again]; exact ⟨rfl, rfl⟩
theorem mul_again (t a b : Int) : mulS t (wrapI t a) (wrapI t b) = mulS t a b ∧ mulO t (wrapI t a) (wrapI t b) = mulO t a b := by
  unfold mulS mulO; rw [wrap_again, wrap_again]; exact ⟨rfl, rfl⟩
theorem sub_at (t a b s : Int) (o : Bool) (h : subS t a b = s ∧ subO t a b = o) (w : World) (hT : Tab w) :
    Calls Tryd.prog 20 #[.int .i64 t, .int .i64 a, .int .i64 b] w fun e w' => e = .returned (.tuple #[.int .i64 s, .bool o]) ∧ Below w.heap.size w w' := by
  obtain ⟨rfl, rfl⟩ := h; exact sub_any t a b w hT

/-! ### Congruence modulo the type's modulus -/
theorem cong_add {m a b c d : Int} (h : a % m = c % m) (g : b % m = d % m) : (a + b) % m = (c + d) % m := by rw [Int.add_emod, h, g, ← Int.add_emod]
theorem cong_sub {m a b c d : Int} (h : a % m = c % m) (g : b % m = d % m) : (a - b) % m = (c - d) % m := by rw [Int.sub_emod, h, g, ← Int.sub_emod]
theorem cong_mul {m a b c d : Int} (h : a % m = c % m) (g : b % m = d % m) : (a * b) % m = (c * d) % m := by rw [Int.mul_emod, h, g, ← Int.mul_emod]
theorem addS_mod (t a b : Int) : addS t a b % modI t = (a + b) % modI t := by
  unfold addS; rw [wrap_mod]; exact cong_add (wrap_mod t a) (wrap_mod t b)
theorem mulS_mod (t a b : Int) : mulS t a b % modI t = (a * b) % modI t := by
  unfold mulS; rw [wrap_mod]; exact cong_mul (wrap_mod t a) (wrap_mod t b)
theorem addS_eq {t a b n : Int} (h : (a + b) % modI t = n % modI t) : addS t a b = wrapI t n := by
  unfold addS; exact wrap_congr ((cong_add (wrap_mod t a) (wrap_mod t b)).trans h)
theorem subS_eq {t a b n : Int} (h : (a - b) % modI t = n % modI t) : subS t a b = wrapI t n := by
  unfold subS; exact wrap_congr ((cong_sub (wrap_mod t a) (wrap_mod t b)).trans h)
theorem mulS_eq {t a b n : Int} (h : (a * b) % modI t = n % modI t) : mulS t a b = wrapI t n := by
  unfold mulS; exact wrap_congr ((cong_mul (wrap_mod t a) (wrap_mod t b)).trans h)
/-- Quotient times divisor plus remainder is the dividend. -/
theorem div_back (t a b : Int) : addS t (mulS t (divS t a b) b) (remS t a b) = wrapI t a := by
  refine addS_eq ?_
  have h : (wrapI t a).tdiv (wrapI t b) * wrapI t b + (wrapI t a).tmod (wrapI t b) = wrapI t a := by
    rw [Int.mul_comm]; exact Int.mul_tdiv_add_tmod _ _
  have g : (mulS t (divS t a b) b + remS t a b) % modI t = ((wrapI t a).tdiv (wrapI t b) * wrapI t b + (wrapI t a).tmod (wrapI t b)) % modI t := by
    refine cong_add ?_ rfl
    rw [mulS_mod]
    refine cong_mul ?_ (wrap_mod t b).symm
    unfold divS; exact wrap_mod t _
  rw [g, h]; exact wrap_mod t a
theorem sub_back (t a b : Int) : subS t (addS t a b) b = wrapI t a := by
  refine subS_eq ?_
  rw [cong_sub (addS_mod t a b) (d := b) rfl]
  congr 1; omega
theorem mul_dist (t a b c : Int) : mulS t (addS t a b) c = addS t (mulS t a c) (mulS t b c) := by
  rw [mulS_eq (n := (a + b) * c) (cong_mul (addS_mod t a b) rfl), addS_eq (n := (a + b) * c)]
  rw [cong_add (mulS_mod t a c) (mulS_mod t b c), Int.add_mul]
theorem add_swap (t a b : Int) : addS t b a = addS t a b ∧ addO t b a = addO t a b := by
  unfold addS addO; rw [Int.add_comm]; exact ⟨rfl, rfl⟩
theorem mul_swap (t a b : Int) : mulS t b a = mulS t a b ∧ mulO t b a = mulO t a b := by
  unfold mulS mulO; rw [Int.mul_comm]; exact ⟨rfl, rfl⟩
theorem uns_of_wrap {t a b : Int} (h : wrapI t a = wrapI t b) : unsI t a = unsI t b := by
  unfold unsI; rw [← wrap_mod t a, ← wrap_mod t b, h]
theorem wrap_of_uns {t a b : Int} (h : unsI t a = unsI t b) : wrapI t a = wrapI t b := wrap_congr h

end Go.Proofs.YtckpjeheodbfaaaDoor

import Derived.Test.YtckpjeheodbfaaaDoorRef
namespace Go.Proofs.YtckpjeheodbfaaaDoor
open Go.RowKit

theorem rmul_same (t a b : Int) (w : World) (hz : (bitsI t == 0) = false) (ha : (wrapI t a == 0) = false) (hb : (wrapI t b == 0) = false) (hs : (decide (wrapI t a < 0) == decide (wrapI t b < 0)) = true) :
    Calls Tryd.prog 23 #[.int .i64 t, .int .i64 a, .int .i64 b] w fun e w' => e = .returned (.tuple #[.int .i64 (mulS t a b), .bool (mulO t a b)]) ∧ w = w' := by
  have hra := hide (wrap_range t a)
  have hrb := hide (wrap_range t b)
  have hrm := hide (minmax_range t)
  have hb' : ¬ wrapI t b = 0 := by simpa using hb
  have hs' : (decide (wrapI t a < 0) != decide (wrapI t b < 0)) = false := by simpa using hs
  go_enter Tryd.func23, Tryd.ntmps23
  go_wp2_with fail
  refine (rwrap_any _ _ _).mono ?_
  rintro e w' ⟨rfl, rfl⟩
  go_wp2_with fail
  refine (rwrap_any _ _ _).mono ?_
  rintro e w' ⟨rfl, rfl⟩
  go_wp2_with fail
  refine (rbits_any t _).mono ?_
  rintro e w' ⟨rfl, rfl⟩
  go_wp2_with fail
  refine (rmax_any t _).mono ?_
  rintro e w' ⟨rfl, rfl⟩
  go_wp2_with fail
  refine (mag_any _ _ hrm.out.2.1 hrm.out.2.2).mono ?_
  rintro e w' ⟨rfl, rfl⟩
  go_wp2_with fail
  refine (mag_any _ _ hra.out.1 hra.out.2).mono ?_
  rintro e w' ⟨rfl, rfl⟩
  go_wp2_with fail
  refine (mag_any _ _ hrb.out.1 hrb.out.2).mono ?_
  rintro e w' ⟨rfl, rfl⟩
  go_wp2_with fail
  refine (rwrap_any _ _ _).mono ?_
  rintro e w' ⟨rfl, rfl⟩
  go_wp2_with fail
  go_ret2
  exact ⟨ret_ib (wrap_wrap64 _ _) (mulo_same (by simpa using ha) hb' (signs_same hs)), rfl⟩
theorem rmul_other (t a b : Int) (w : World) (hz : (bitsI t == 0) = false) (ha : (wrapI t a == 0) = false) (hb : (wrapI t b == 0) = false) (hs : (decide (wrapI t a < 0) == decide (wrapI t b < 0)) = false) :
    Calls Tryd.prog 23 #[.int .i64 t, .int .i64 a, .int .i64 b] w fun e w' => e = .returned (.tuple #[.int .i64 (mulS t a b), .bool (mulO t a b)]) ∧ w = w' := by
  have hra := hide (wrap_range t a)
  have hrb := hide (wrap_range t b)
  have hrm := hide (minmax_range t)
  have hb' : ¬ wrapI t b = 0 := by simpa using hb
  have hs' : (decide (wrapI t a < 0) != decide (wrapI t b < 0)) = true := by simpa using hs
  go_enter Tryd.func23, Tryd.ntmps23
  go_wp2_with fail
  refine (rwrap_any _ _ _).mono ?_
  rintro e w' ⟨rfl, rfl⟩
  go_wp2_with fail
  refine (rwrap_any _ _ _).mono ?_
  rintro e w' ⟨rfl, rfl⟩
  go_wp2_with fail
  refine (rbits_any t _).mono ?_
  rintro e w' ⟨rfl, rfl⟩
  go_wp2_with fail
  refine (rmax_any t _).mono ?_
  rintro e w' ⟨rfl, rfl⟩
  go_wp2_with fail
  refine (mag_any _ _ hrm.out.2.1 hrm.out.2.2).mono ?_
  rintro e w' ⟨rfl, rfl⟩
  go_wp2_with fail
  refine (rmin_any t _).mono ?_
  rintro e w' ⟨rfl, rfl⟩
  go_wp2_with fail
  refine (mag_any _ _ hrm.out.1.1 hrm.out.1.2).mono ?_
  rintro e w' ⟨rfl, rfl⟩
  go_wp2_with fail
  refine (mag_any _ _ hra.out.1 hra.out.2).mono ?_
  rintro e w' ⟨rfl, rfl⟩
  go_wp2_with fail
  refine (mag_any _ _ hrb.out.1 hrb.out.2).mono ?_
  rintro e w' ⟨rfl, rfl⟩
  go_wp2_with fail
  refine (rwrap_any _ _ _).mono ?_
  rintro e w' ⟨rfl, rfl⟩
  go_wp2_with fail
  go_ret2
  exact ⟨ret_ib (wrap_wrap64 _ _) (mulo_other (by simpa using ha) hb' (signs_other hs)), rfl⟩
theorem rsdiv_same (t a b : Int) (w : World) (hb : (wrapI t b == 0) = false) (hs : (decide (wrapI t a < 0) == decide (wrapI t b < 0)) = true) :
    Calls Tryd.prog 32 #[.int .i64 t, .int .i64 a, .int .i64 b] w fun e w' => e = .returned (.tuple #[.int .i64 (divS t a b), .bool true]) ∧ w = w' := by
  have hra := hide (wrap_range t a)
  have hrb := hide (wrap_range t b)
  have hb' : ¬ wrapI t b = 0 := by simpa using hb
  have hs' : (decide (wrapI t a < 0) != decide (wrapI t b < 0)) = false := by simpa using hs
  go_enter Tryd.func32, Tryd.ntmps32
  go_wp2_with fail
  refine (rwrap_any _ _ _).mono ?_
  rintro e w' ⟨rfl, rfl⟩
  go_wp2_with fail
  refine (rwrap_any _ _ _).mono ?_
  rintro e w' ⟨rfl, rfl⟩
  go_wp2_with fail
  refine (mag_any _ _ hra.out.1 hra.out.2).mono ?_
  rintro e w' ⟨rfl, rfl⟩
  go_wp2_with fail
  refine (mag_any _ _ hrb.out.1 hrb.out.2).mono ?_
  rintro e w' ⟨rfl, rfl⟩
  go_wp2_with fail
  refine (rwrap_any _ _ _).mono ?_
  rintro e w' ⟨rfl, rfl⟩
  go_wp2_with fail
  go_ret2
  exact ⟨ret_ib (div_same (signs_same hs)) rfl, rfl⟩
theorem rsdiv_other (t a b : Int) (w : World) (hb : (wrapI t b == 0) = false) (hs : (decide (wrapI t a < 0) == decide (wrapI t b < 0)) = false) :
    Calls Tryd.prog 32 #[.int .i64 t, .int .i64 a, .int .i64 b] w fun e w' => e = .returned (.tuple #[.int .i64 (divS t a b), .bool true]) ∧ w = w' := by
  have hra := hide (wrap_range t a)
  have hrb := hide (wrap_range t b)
  have hb' : ¬ wrapI t b = 0 := by simpa using hb
  have hs' : (decide (wrapI t a < 0) != decide (wrapI t b < 0)) = true := by simpa using hs
  go_enter Tryd.func32, Tryd.ntmps32
  go_wp2_with fail
  refine (rwrap_any _ _ _).mono ?_
  rintro e w' ⟨rfl, rfl⟩
  go_wp2_with fail
  refine (rwrap_any _ _ _).mono ?_
  rintro e w' ⟨rfl, rfl⟩
  go_wp2_with fail
  refine (mag_any _ _ hra.out.1 hra.out.2).mono ?_
  rintro e w' ⟨rfl, rfl⟩
  go_wp2_with fail
  refine (mag_any _ _ hrb.out.1 hrb.out.2).mono ?_
  rintro e w' ⟨rfl, rfl⟩
  go_wp2_with fail
  refine (rwrap_any _ _ _).mono ?_
  rintro e w' ⟨rfl, rfl⟩
  go_wp2_with fail
  go_ret2
  exact ⟨ret_ib (div_other (signs_other hs)) rfl, rfl⟩
theorem rsrem_neg (t a b : Int) (w : World) (hb : (wrapI t b == 0) = false) (hx : wrapI t a < 0) :
    Calls Tryd.prog 33 #[.int .i64 t, .int .i64 a, .int .i64 b] w fun e w' => e = .returned (.tuple #[.int .i64 (remS t a b), .bool true]) ∧ w = w' := by
  have hra := hide (wrap_range t a)
  have hrb := hide (wrap_range t b)
  have hb' : ¬ wrapI t b = 0 := by simpa using hb
  go_enter Tryd.func33, Tryd.ntmps33
  go_wp2_with fail
  refine (rwrap_any _ _ _).mono ?_
  rintro e w' ⟨rfl, rfl⟩
  go_wp2_with fail
  refine (rwrap_any _ _ _).mono ?_
  rintro e w' ⟨rfl, rfl⟩
  go_wp2_with fail
  refine (mag_any _ _ hra.out.1 hra.out.2).mono ?_
  rintro e w' ⟨rfl, rfl⟩
  go_wp2_with fail
  refine (mag_any _ _ hrb.out.1 hrb.out.2).mono ?_
  rintro e w' ⟨rfl, rfl⟩
  go_wp2_with fail
  refine (rwrap_any _ _ _).mono ?_
  rintro e w' ⟨rfl, rfl⟩
  go_wp2_with fail
  go_ret2
  exact ⟨ret_ib (rem_case1 hx) rfl, rfl⟩
theorem rsrem_pos (t a b : Int) (w : World) (hb : (wrapI t b == 0) = false) (hx : ¬ wrapI t a < 0) :
    Calls Tryd.prog 33 #[.int .i64 t, .int .i64 a, .int .i64 b] w fun e w' => e = .returned (.tuple #[.int .i64 (remS t a b), .bool true]) ∧ w = w' := by
  have hra := hide (wrap_range t a)
  have hrb := hide (wrap_range t b)
  have hb' : ¬ wrapI t b = 0 := by simpa using hb
  go_enter Tryd.func33, Tryd.ntmps33
  go_wp2_with fail
  refine (rwrap_any _ _ _).mono ?_
  rintro e w' ⟨rfl, rfl⟩
  go_wp2_with fail
  refine (rwrap_any _ _ _).mono ?_
  rintro e w' ⟨rfl, rfl⟩
  go_wp2_with fail
  refine (mag_any _ _ hra.out.1 hra.out.2).mono ?_
  rintro e w' ⟨rfl, rfl⟩
  go_wp2_with fail
  refine (mag_any _ _ hrb.out.1 hrb.out.2).mono ?_
  rintro e w' ⟨rfl, rfl⟩
  go_wp2_with fail
  refine (rwrap_any _ _ _).mono ?_
  rintro e w' ⟨rfl, rfl⟩
  go_wp2_with fail
  go_ret2
  exact ⟨ret_ib (rem_case2 (by omega)) rfl, rfl⟩

theorem rsdiv_no (t a b : Int) (w : World) (hb : (wrapI t b == 0) = true) :
    Calls Tryd.prog 32 #[.int .i64 t, .int .i64 a, .int .i64 b] w fun e w' => e = .returned (.tuple #[.int .i64 0, .bool false]) ∧ w = w' := by
  go_enter Tryd.func32, Tryd.ntmps32
  go_wp2_with fail
  refine (rwrap_any _ _ _).mono ?_
  rintro e w' ⟨rfl, rfl⟩
  go_wp2_with fail
  refine (rwrap_any _ _ _).mono ?_
  rintro e w' ⟨rfl, rfl⟩
  go_wp2_with fail
  go_ret2
  exact ⟨rfl, rfl⟩
theorem rsrem_no (t a b : Int) (w : World) (hb : (wrapI t b == 0) = true) :
    Calls Tryd.prog 33 #[.int .i64 t, .int .i64 a, .int .i64 b] w fun e w' => e = .returned (.tuple #[.int .i64 0, .bool false]) ∧ w = w' := by
  go_enter Tryd.func33, Tryd.ntmps33
  go_wp2_with fail
  refine (rwrap_any _ _ _).mono ?_
  rintro e w' ⟨rfl, rfl⟩
  go_wp2_with fail
  refine (rwrap_any _ _ _).mono ?_
  rintro e w' ⟨rfl, rfl⟩
  go_wp2_with fail
  go_ret2
  exact ⟨rfl, rfl⟩

/-- Mul, Sdiv and Srem of the document, for all operands. -/
theorem rmul_any (t a b : Int) (w : World) :
    Calls Tryd.prog 23 #[.int .i64 t, .int .i64 a, .int .i64 b] w fun e w' => e = .returned (.tuple #[.int .i64 (mulS t a b), .bool (mulO t a b)]) ∧ w = w' := by
  by_cases h : bitsI t = 0 ∨ wrapI t a = 0 ∨ wrapI t b = 0
  · exact rmul_zero t a b w h
  · have h1 : (bitsI t == 0) = false := by simpa using fun e => h (.inl e)
    have h2 : (wrapI t a == 0) = false := by simpa using fun e => h (.inr (.inl e))
    have h3 : (wrapI t b == 0) = false := by simpa using fun e => h (.inr (.inr e))
    cases hs : (decide (wrapI t a < 0) == decide (wrapI t b < 0))
    · exact rmul_other t a b w h1 h2 h3 hs
    · exact rmul_same t a b w h1 h2 h3 hs
theorem rsdiv_yes (t a b : Int) (w : World) (hb : (wrapI t b == 0) = false) :
    Calls Tryd.prog 32 #[.int .i64 t, .int .i64 a, .int .i64 b] w fun e w' => e = .returned (.tuple #[.int .i64 (divS t a b), .bool true]) ∧ w = w' := by
  cases hs : (decide (wrapI t a < 0) == decide (wrapI t b < 0))
  · exact rsdiv_other t a b w hb hs
  · exact rsdiv_same t a b w hb hs
theorem rsrem_yes (t a b : Int) (w : World) (hb : (wrapI t b == 0) = false) :
    Calls Tryd.prog 33 #[.int .i64 t, .int .i64 a, .int .i64 b] w fun e w' => e = .returned (.tuple #[.int .i64 (remS t a b), .bool true]) ∧ w = w' := by
  by_cases hx : wrapI t a < 0
  · exact rsrem_neg t a b w hb hx
  · exact rsrem_pos t a b w hb hx

end Go.Proofs.YtckpjeheodbfaaaDoor

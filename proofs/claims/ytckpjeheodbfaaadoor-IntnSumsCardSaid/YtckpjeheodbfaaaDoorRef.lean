import Derived.Test.YtckpjeheodbfaaaDoorOps
namespace Go.Proofs.YtckpjeheodbfaaaDoor
open Go.RowKit

theorem rnone_at (t : Int) (h : t ≠ 1 ∧ t ≠ 2 ∧ t ≠ 3 ∧ t ≠ 4) (w : World) :
    Calls Tryd.prog 14 #[.int .i64 t] w fun e w' => e = .returned (.int .i64 0) ∧ w = w' := rbits_at t 0 (bitsI_none h) w

theorem rult_any (t a b : Int) (w : World) :
    Calls Tryd.prog 35 #[.int .i64 t, .int .i64 a, .int .i64 b] w fun e w' => e = .returned (.bool (decide (unsI t a < unsI t b))) ∧ w = w' := by
  go_enter Tryd.func35, Tryd.ntmps35
  go_wp2_with fail
  refine (runs_any _ _ _).mono ?_
  rintro e w' ⟨rfl, rfl⟩
  go_wp2_with fail
  refine (runs_any _ _ _).mono ?_
  rintro e w' ⟨rfl, rfl⟩
  go_wp2_with fail
  go_ret
  exact ⟨rfl, rfl⟩
theorem rzext_any (f t n : Int) (w : World) :
    Calls Tryd.prog 37 #[.int .i64 f, .int .i64 t, .int .i64 n] w fun e w' => e = .returned (.int .i64 (wrapI t (unsI f n))) ∧ w = w' := by
  go_enter Tryd.func37, Tryd.ntmps37
  go_wp2_with (first | (go_at_call 13; refine (runs_any _ _ _).mono ?_; rintro e w' ⟨rfl, rfl⟩) | (go_at_call 12; refine (rwrap_any _ _ _).mono ?_; rintro e w' ⟨rfl, rfl⟩))
  go_ret
  exact ⟨ret_int (wrap_wrap64 _ _), rfl⟩

/-- The document's Add. -/
theorem radd_any (t a b : Int) (w : World) :
    Calls Tryd.prog 19 #[.int .i64 t, .int .i64 a, .int .i64 b] w fun e w' => e = .returned (.tuple #[.int .i64 (addS t a b), .bool (addO t a b)]) ∧ w = w' := by
  by_cases hz : bitsI t = 0
  · have hb := hide hz
    clear hz
    go_enter Tryd.func19, Tryd.ntmps19
    go_wp2_with fail
    refine (rwrap_any _ _ _).mono ?_
    rintro e w' ⟨rfl, rfl⟩
    go_wp2_with fail
    refine (rwrap_any _ _ _).mono ?_
    rintro e w' ⟨rfl, rfl⟩
    go_wp2_with fail
    refine (rbits_at t 0 hb.out _).mono ?_
    rintro e w' ⟨rfl, rfl⟩
    go_wp2_with fail
    go_ret2
    exact ⟨ret_ib (wrap_zero hb.out _).symm (out_zero hb.out (by rw [wrap_zero hb.out, wrap_zero hb.out]; rfl)).symm, rfl⟩
  · have hb1 : (bitsI t == 0) = false := by simpa using hz
    clear hz
    go_enter Tryd.func19, Tryd.ntmps19
    go_wp2_with fail
    refine (rwrap_any _ _ _).mono ?_
    rintro e w' ⟨rfl, rfl⟩
    go_wp2_with fail
    refine (rwrap_any _ _ _).mono ?_
    rintro e w' ⟨rfl, rfl⟩
    go_wp2_with fail
    refine (rbits_any t _).mono ?_
    rintro e w' ⟨rfl, rfl⟩
    go_wp2_with (first | (go_at_call 12; refine (rwrap_any _ _ _).mono ?_; rintro e w' ⟨rfl, rfl⟩) | (go_at_call 17; refine (rmax_any _ _).mono ?_; rintro e w' ⟨rfl, rfl⟩) | (go_at_call 16; refine (rmin_any _ _).mono ?_; rintro e w' ⟨rfl, rfl⟩))
    all_goals go_ret2
    all_goals exact ⟨ret_ib (wrap_wrap64 _ _) (radd_close (by simp; omega)), rfl⟩

/-- The document's Sub. -/
theorem rsub_any (t a b : Int) (w : World) :
    Calls Tryd.prog 21 #[.int .i64 t, .int .i64 a, .int .i64 b] w fun e w' => e = .returned (.tuple #[.int .i64 (subS t a b), .bool (subO t a b)]) ∧ w = w' := by
  by_cases hz : bitsI t = 0
  · have hb := hide hz
    clear hz
    go_enter Tryd.func21, Tryd.ntmps21
    go_wp2_with fail
    refine (rwrap_any _ _ _).mono ?_
    rintro e w' ⟨rfl, rfl⟩
    go_wp2_with fail
    refine (rwrap_any _ _ _).mono ?_
    rintro e w' ⟨rfl, rfl⟩
    go_wp2_with fail
    refine (rbits_at t 0 hb.out _).mono ?_
    rintro e w' ⟨rfl, rfl⟩
    go_wp2_with fail
    go_ret2
    exact ⟨ret_ib (wrap_zero hb.out _).symm (out_zero hb.out (by rw [wrap_zero hb.out, wrap_zero hb.out]; rfl)).symm, rfl⟩
  · have hb1 : (bitsI t == 0) = false := by simpa using hz
    clear hz
    go_enter Tryd.func21, Tryd.ntmps21
    go_wp2_with fail
    refine (rwrap_any _ _ _).mono ?_
    rintro e w' ⟨rfl, rfl⟩
    go_wp2_with fail
    refine (rwrap_any _ _ _).mono ?_
    rintro e w' ⟨rfl, rfl⟩
    go_wp2_with fail
    refine (rbits_any t _).mono ?_
    rintro e w' ⟨rfl, rfl⟩
    go_wp2_with (first | (go_at_call 12; refine (rwrap_any _ _ _).mono ?_; rintro e w' ⟨rfl, rfl⟩) | (go_at_call 17; refine (rmax_any _ _).mono ?_; rintro e w' ⟨rfl, rfl⟩) | (go_at_call 16; refine (rmin_any _ _).mono ?_; rintro e w' ⟨rfl, rfl⟩))
    all_goals go_ret2
    all_goals exact ⟨ret_ib (wrap_wrap64 _ _) (rsub_close (by simp; omega)), rfl⟩


/-- The document's Mul. -/
theorem rmul_zero (t a b : Int) (w : World) (h : bitsI t = 0 ∨ wrapI t a = 0 ∨ wrapI t b = 0) :
    Calls Tryd.prog 23 #[.int .i64 t, .int .i64 a, .int .i64 b] w fun e w' => e = .returned (.tuple #[.int .i64 (mulS t a b), .bool (mulO t a b)]) ∧ w = w' := by
  have hx : mulS t a b = 0 ∧ mulO t a b = false := mul_zero_facts h
  have HX := hide hx
  clear hx
  have H := hide h
  clear h
  by_cases hz : bitsI t = 0
  · have HZ := hide hz
    clear hz
    go_enter Tryd.func23, Tryd.ntmps23
    go_wp2_with fail
    refine (rwrap_any _ _ _).mono ?_
    rintro e w' ⟨rfl, rfl⟩
    go_wp2_with fail
    refine (rwrap_any _ _ _).mono ?_
    rintro e w' ⟨rfl, rfl⟩
    go_wp2_with fail
    refine (rbits_at t 0 HZ.out _).mono ?_
    rintro e w' ⟨rfl, rfl⟩
    go_wp2_with fail
    go_ret2
    exact ⟨ret_ib HX.out.1.symm HX.out.2.symm, rfl⟩
  · have hb1 : (bitsI t == 0) = false := by simpa using hz
    by_cases ha : wrapI t a = 0
    · have ha1 : (wrapI t a == 0) = true := by simpa using ha
      clear hz ha
      go_enter Tryd.func23, Tryd.ntmps23
      go_wp2_with fail
      refine (rwrap_any _ _ _).mono ?_
      rintro e w' ⟨rfl, rfl⟩
      go_wp2_with fail
      refine (rwrap_any _ _ _).mono ?_
      rintro e w' ⟨rfl, rfl⟩
      go_wp2_with fail
      refine (rbits_any t _).mono ?_
      rintro e w' ⟨rfl, rfl⟩
      go_wp2_with fail
      go_ret2
      exact ⟨ret_ib HX.out.1.symm HX.out.2.symm, rfl⟩
    · have ha1 : (wrapI t a == 0) = false := by simpa using ha
      have hb : (wrapI t b == 0) = true := by
        rcases H.out with h | h | h
        · exact absurd h hz
        · exact absurd h ha
        · simpa using h
      clear hz ha
      go_enter Tryd.func23, Tryd.ntmps23
      go_wp2_with fail
      refine (rwrap_any _ _ _).mono ?_
      rintro e w' ⟨rfl, rfl⟩
      go_wp2_with fail
      refine (rwrap_any _ _ _).mono ?_
      rintro e w' ⟨rfl, rfl⟩
      go_wp2_with fail
      refine (rbits_any t _).mono ?_
      rintro e w' ⟨rfl, rfl⟩
      go_wp2_with fail
      go_ret2
      exact ⟨ret_ib HX.out.1.symm HX.out.2.symm, rfl⟩

end Go.Proofs.YtckpjeheodbfaaaDoor

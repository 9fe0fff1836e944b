import Derived.Test.YtckpjeheodbfaaaDoorRows
import Derived.Test.YtckpjeheodbfaaaDoorMath
import Derived.ProofKit
import Derived.OpenShut
import Derived.Handy
import Derived.Test.YtckpjeheodbfaaaDoorKit
namespace Go.Proofs.YtckpjeheodbfaaaDoor
open Go.RowKit

/-- The table of widths lies in block 0. -/
structure Tab (w : World) : Prop where
  c0 : w.cell? ⟨0, 0, none⟩ = some (.int .i64 0)
  c1 : w.cell? ⟨0, 1, none⟩ = some (.int .i64 1)
  c2 : w.cell? ⟨0, 2, none⟩ = some (.int .i64 8)
  c3 : w.cell? ⟨0, 3, none⟩ = some (.int .i64 32)
  c4 : w.cell? ⟨0, 4, none⟩ = some (.int .i64 64)


theorem ret_int {k : IntKind} {a b : Int} (h : a = b) : Ending.returned (.int k a) = .returned (.int k b) := by rw [h]

theorem bits_any (t : Int) (w : World) (hT : Tab w) :
    Calls Tryd.prog 11 #[.int .i64 t] w fun e w' => e = .returned (.int .i64 (bitsI t)) ∧ w = w' := by
  obtain ⟨c0, c1, c2, c3, c4⟩ := hT
  by_cases hn : t < 0
  · go_enter Tryd.func11, Tryd.ntmps11
    go_wp2
    go_ret
    exact ⟨ret_int (by unfold bitsI; show (0 : Int) = _; repeat rw [if_neg (by omega)]), rfl⟩
  · by_cases h5 : 5 ≤ t
    · go_enter Tryd.func11, Tryd.ntmps11
      go_wp2
      go_ret
      exact ⟨ret_int (by unfold bitsI; show (0 : Int) = _; repeat rw [if_neg (by omega)]), rfl⟩
    · have : t = 0 ∨ t = 1 ∨ t = 2 ∨ t = 3 ∨ t = 4 := by omega
      clear hn h5
      rcases this with rfl | rfl | rfl | rfl | rfl
      all_goals
        go_enter Tryd.func11, Tryd.ntmps11
        go_wp2
        go_ret
        exact ⟨rfl, rfl⟩

theorem bits_at (t b : Int) (h : bitsI t = b) (w : World) (hT : Tab w) :
    Calls Tryd.prog 11 #[.int .i64 t] w fun e w' => e = .returned (.int .i64 b) ∧ w = w' := by
  subst h; exact bits_any t w hT

theorem wrap_any (t n : Int) (w : World) (hT : Tab w) :
    Calls Tryd.prog 9 #[.int .i64 t, .int .i64 n] w fun e w' => e = .returned (.int .i64 (wrapI t n)) ∧ w = w' := by
  rcases kinds t with rfl | rfl | rfl | rfl | h
  · go_enter Tryd.func9, Tryd.ntmps9
    go_wp2
    go_ret
    exact ⟨ret_int (by rw [wrapI_1]; exact and_one_i64 n), rfl⟩
  · go_enter Tryd.func9, Tryd.ntmps9
    go_wp2_with (go_at_call 11; refine (bits_at 2 8 rfl _ hT).mono ?_; rintro e w' ⟨rfl, rfl⟩)
    go_ret
    exact ⟨ret_int (by rw [wrapI_2]; show wrap64 _ / _ = _; unfold wrap64; omega), rfl⟩
  · go_enter Tryd.func9, Tryd.ntmps9
    go_wp2_with (go_at_call 11; refine (bits_at 3 32 rfl _ hT).mono ?_; rintro e w' ⟨rfl, rfl⟩)
    go_ret
    exact ⟨ret_int (by rw [wrapI_3]; show wrap64 _ / _ = _; unfold wrap64; omega), rfl⟩
  · go_enter Tryd.func9, Tryd.ntmps9
    go_wp2_with (go_at_call 11; refine (bits_at 4 64 rfl _ hT).mono ?_; rintro e w' ⟨rfl, rfl⟩)
    go_ret
    exact ⟨ret_int (by rw [wrapI_4]), rfl⟩
  · have h1 : (t == 1) = false := by simpa using h.1
    have hb := hide (bitsI_none h)
    have hz := hide (wrapI_none h n)
    clear h
    go_enter Tryd.func9, Tryd.ntmps9
    go_wp2_with (go_at_call 11; refine (bits_at t 0 hb.out _ hT).mono ?_; rintro e w' ⟨rfl, rfl⟩)
    go_ret
    exact ⟨ret_int (by rw [hz.out]; show wrap64 _ / _ = _; unfold wrap64; omega), rfl⟩

theorem uns_any (t n : Int) (w : World) (hT : Tab w) :
    Calls Tryd.prog 10 #[.int .i64 t, .int .i64 n] w fun e w' => e = .returned (.int .u64 (unsI t n)) ∧ w = w' := by
  rcases kinds t with rfl | rfl | rfl | rfl | h
  · go_enter Tryd.func10, Tryd.ntmps10
    go_wp2_with (go_at_call 11; refine (bits_at 1 1 rfl _ hT).mono ?_; rintro e w' ⟨rfl, rfl⟩)
    go_ret
    exact ⟨ret_int (by rw [unsI_1]; show IntKind.u64.wrap _ / _ = _; simp only [IntKind.wrap_u64]; omega), rfl⟩
  · go_enter Tryd.func10, Tryd.ntmps10
    go_wp2_with (go_at_call 11; refine (bits_at 2 8 rfl _ hT).mono ?_; rintro e w' ⟨rfl, rfl⟩)
    go_ret
    exact ⟨ret_int (by rw [unsI_2]; show IntKind.u64.wrap _ / _ = _; simp only [IntKind.wrap_u64]; omega), rfl⟩
  · go_enter Tryd.func10, Tryd.ntmps10
    go_wp2_with (go_at_call 11; refine (bits_at 3 32 rfl _ hT).mono ?_; rintro e w' ⟨rfl, rfl⟩)
    go_ret
    exact ⟨ret_int (by rw [unsI_3]; show IntKind.u64.wrap _ / _ = _; simp only [IntKind.wrap_u64]; omega), rfl⟩
  · go_enter Tryd.func10, Tryd.ntmps10
    go_wp2_with (go_at_call 11; refine (bits_at 4 64 rfl _ hT).mono ?_; rintro e w' ⟨rfl, rfl⟩)
    go_ret
    exact ⟨ret_int (by rw [unsI_4]; show IntKind.u64.wrap _ = _; simp only [IntKind.wrap_u64]; omega), rfl⟩
  · have hb := hide (bitsI_none h)
    have hz := hide (unsI_none h n)
    clear h
    go_enter Tryd.func10, Tryd.ntmps10
    go_wp2_with (go_at_call 11; refine (bits_at t 0 hb.out _ hT).mono ?_; rintro e w' ⟨rfl, rfl⟩)
    go_ret
    exact ⟨ret_int (by rw [hz.out]; show IntKind.u64.wrap _ / _ = _; simp only [IntKind.wrap_u64]; omega), rfl⟩


/-! ### The document's own answers -/
theorem tmod_u64 (n m : Int) (hm : m = 2 ∨ m = 256 ∨ m = 4294967296) : (IntKind.u64.wrap n).tmod m = n % m := by
  rw [Int.tmod_eq_emod_of_nonneg (by simp only [IntKind.wrap_u64]; omega), IntKind.wrap_u64]
  rcases hm with rfl | rfl | rfl <;> omega

theorem rbits_any (t : Int) (w : World) :
    Calls Tryd.prog 14 #[.int .i64 t] w fun e w' => e = .returned (.int .i64 (bitsI t)) ∧ w = w' := by
  rcases kinds t with rfl | rfl | rfl | rfl | h
  · go_enter Tryd.func14, Tryd.ntmps14
    go_wp2
    go_ret
    exact ⟨rfl, rfl⟩
  · go_enter Tryd.func14, Tryd.ntmps14
    go_wp2
    go_ret
    exact ⟨rfl, rfl⟩
  · go_enter Tryd.func14, Tryd.ntmps14
    go_wp2
    go_ret
    exact ⟨rfl, rfl⟩
  · go_enter Tryd.func14, Tryd.ntmps14
    go_wp2
    go_ret
    exact ⟨rfl, rfl⟩
  · have hb := hide (bitsI_none h)
    obtain ⟨h1, h2, h3, h4⟩ := h
    have g1 : (t == 1) = false := by simpa using h1
    have g2 : (t == 2) = false := by simpa using h2
    have g3 : (t == 3) = false := by simpa using h3
    have g4 : (t == 4) = false := by simpa using h4
    clear h1 h2 h3 h4
    go_enter Tryd.func14, Tryd.ntmps14
    go_wp2
    go_ret
    exact ⟨ret_int hb.out.symm, rfl⟩
theorem rbits_at (t b : Int) (h : bitsI t = b) (w : World) :
    Calls Tryd.prog 14 #[.int .i64 t] w fun e w' => e = .returned (.int .i64 b) ∧ w = w' := by
  subst h; exact rbits_any t w

theorem runs_any (t n : Int) (w : World) :
    Calls Tryd.prog 13 #[.int .i64 t, .int .i64 n] w fun e w' => e = .returned (.int .u64 (unsI t n)) ∧ w = w' := by
  rcases kinds t with rfl | rfl | rfl | rfl | h
  · go_enter Tryd.func13, Tryd.ntmps13
    go_wp2_with (go_at_call 14; refine (rbits_at 1 1 rfl _).mono ?_; rintro e w' ⟨rfl, rfl⟩)
    go_ret
    exact ⟨ret_int (by rw [unsI_1]; show (IntKind.u64.wrap n).tmod 2 = _; exact tmod_u64 n 2 (by omega)), rfl⟩
  · go_enter Tryd.func13, Tryd.ntmps13
    go_wp2_with (go_at_call 14; refine (rbits_at 2 8 rfl _).mono ?_; rintro e w' ⟨rfl, rfl⟩)
    go_ret
    exact ⟨ret_int (by rw [unsI_2]; show (IntKind.u64.wrap n).tmod 256 = _; exact tmod_u64 n 256 (by omega)), rfl⟩
  · go_enter Tryd.func13, Tryd.ntmps13
    go_wp2_with (go_at_call 14; refine (rbits_at 3 32 rfl _).mono ?_; rintro e w' ⟨rfl, rfl⟩)
    go_ret
    exact ⟨ret_int (by rw [unsI_3]; show (IntKind.u64.wrap n).tmod 4294967296 = _; exact tmod_u64 n 4294967296 (by omega)), rfl⟩
  · go_enter Tryd.func13, Tryd.ntmps13
    go_wp2_with (go_at_call 14; refine (rbits_at 4 64 rfl _).mono ?_; rintro e w' ⟨rfl, rfl⟩)
    go_ret
    exact ⟨ret_int (by rw [unsI_4]; show IntKind.u64.wrap n = _; exact IntKind.wrap_u64 n), rfl⟩
  · have hb := hide (bitsI_none h)
    have hz := hide (unsI_none h n)
    clear h
    go_enter Tryd.func13, Tryd.ntmps13
    go_wp2_with (go_at_call 14; refine (rbits_at t 0 hb.out _).mono ?_; rintro e w' ⟨rfl, rfl⟩)
    go_ret
    exact ⟨ret_int (by rw [hz.out]), rfl⟩

theorem rwrap_any (t n : Int) (w : World) :
    Calls Tryd.prog 12 #[.int .i64 t, .int .i64 n] w fun e w' => e = .returned (.int .i64 (wrapI t n)) ∧ w = w' := by
  rcases kinds t with rfl | rfl | rfl | rfl | h
  · go_enter Tryd.func12, Tryd.ntmps12
    go_wp2_with (first | (go_at_call 14; refine (rbits_at 1 1 rfl _).mono ?_; rintro e w' ⟨rfl, rfl⟩) | (go_at_call 13; refine (runs_any _ _ _).mono ?_; rintro e w' ⟨rfl, rfl⟩))
    all_goals go_ret
    all_goals exact ⟨ret_int (by show wrap64 (unsI 1 n) = _; rw [unsI_1, wrapI_1]; unfold wrap64; omega), rfl⟩
  · go_enter Tryd.func12, Tryd.ntmps12
    go_wp2_with (first | (go_at_call 14; refine (rbits_at 2 8 rfl _).mono ?_; rintro e w' ⟨rfl, rfl⟩) | (go_at_call 13; refine (runs_any _ _ _).mono ?_; rintro e w' ⟨rfl, rfl⟩))
    all_goals go_ret
    · have h1 : 128 ≤ unsI 2 n := by assumption
      exact ⟨ret_int (by show wrap64 (wrap64 (unsI 2 n) - 256) = _; rw [unsI_2] at *; rw [wrapI_2]; unfold wrap64; omega), rfl⟩
    · have h1 : unsI 2 n < 128 := by assumption
      exact ⟨ret_int (by show wrap64 (unsI 2 n) = _; rw [unsI_2] at *; rw [wrapI_2]; unfold wrap64; omega), rfl⟩
  · go_enter Tryd.func12, Tryd.ntmps12
    go_wp2_with (first | (go_at_call 14; refine (rbits_at 3 32 rfl _).mono ?_; rintro e w' ⟨rfl, rfl⟩) | (go_at_call 13; refine (runs_any _ _ _).mono ?_; rintro e w' ⟨rfl, rfl⟩))
    all_goals go_ret
    · have h1 : 2147483648 ≤ unsI 3 n := by assumption
      exact ⟨ret_int (by show wrap64 (wrap64 (unsI 3 n) - 4294967296) = _; rw [unsI_3] at *; rw [wrapI_3]; unfold wrap64; omega), rfl⟩
    · have h1 : unsI 3 n < 2147483648 := by assumption
      exact ⟨ret_int (by show wrap64 (unsI 3 n) = _; rw [unsI_3] at *; rw [wrapI_3]; unfold wrap64; omega), rfl⟩
  · go_enter Tryd.func12, Tryd.ntmps12
    go_wp2_with (first | (go_at_call 14; refine (rbits_at 4 64 rfl _).mono ?_; rintro e w' ⟨rfl, rfl⟩) | (go_at_call 13; refine (runs_any _ _ _).mono ?_; rintro e w' ⟨rfl, rfl⟩))
    all_goals go_ret
    all_goals exact ⟨ret_int (by show wrap64 (unsI 4 n) = _; rw [unsI_4, wrapI_4]; unfold wrap64; omega), rfl⟩
  · have hb := hide (bitsI_none h)
    have hz := hide (unsI_none h n)
    have hz' := hide (wrapI_none h n)
    clear h
    go_enter Tryd.func12, Tryd.ntmps12
    go_wp2_with (first | (go_at_call 14; refine (rbits_at t 0 hb.out _).mono ?_; rintro e w' ⟨rfl, rfl⟩) | (go_at_call 13; refine (runs_any _ _ _).mono ?_; rintro e w' ⟨rfl, rfl⟩))
    all_goals go_ret
    all_goals exact ⟨ret_int (by show wrap64 (unsI t n) = _; rw [hz.out, hz'.out]; unfold wrap64; omega), rfl⟩

theorem rmin_any (t : Int) (w : World) :
    Calls Tryd.prog 16 #[.int .i64 t] w fun e w' => e = .returned (.int .i64 (minI t)) ∧ w = w' := by
  rcases kinds t with rfl | rfl | rfl | rfl | h
  · go_enter Tryd.func16, Tryd.ntmps16
    go_wp2_with (go_at_call 14; refine (rbits_at 1 1 rfl _).mono ?_; rintro e w' ⟨rfl, rfl⟩)
    all_goals go_ret
    all_goals exact ⟨rfl, rfl⟩
  · go_enter Tryd.func16, Tryd.ntmps16
    go_wp2_with (go_at_call 14; refine (rbits_at 2 8 rfl _).mono ?_; rintro e w' ⟨rfl, rfl⟩)
    all_goals go_ret
    all_goals exact ⟨rfl, rfl⟩
  · go_enter Tryd.func16, Tryd.ntmps16
    go_wp2_with (go_at_call 14; refine (rbits_at 3 32 rfl _).mono ?_; rintro e w' ⟨rfl, rfl⟩)
    all_goals go_ret
    all_goals exact ⟨rfl, rfl⟩
  · go_enter Tryd.func16, Tryd.ntmps16
    go_wp2_with (go_at_call 14; refine (rbits_at 4 64 rfl _).mono ?_; rintro e w' ⟨rfl, rfl⟩)
    all_goals go_ret
    all_goals exact ⟨rfl, rfl⟩
  · have hb := hide (bitsI_none h)
    have hz := hide (offI_none h)
    clear h
    go_enter Tryd.func16, Tryd.ntmps16
    go_wp2_with (go_at_call 14; refine (rbits_at t 0 hb.out _).mono ?_; rintro e w' ⟨rfl, rfl⟩)
    all_goals go_ret
    all_goals exact ⟨ret_int (by unfold minI; rw [hz.out]; rfl), rfl⟩
theorem rmin_at (t b : Int) (h : minI t = b) (w : World) :
    Calls Tryd.prog 16 #[.int .i64 t] w fun e w' => e = .returned (.int .i64 b) ∧ w = w' := by
  subst h; exact rmin_any t w

theorem rmax_any (t : Int) (w : World) :
    Calls Tryd.prog 17 #[.int .i64 t] w fun e w' => e = .returned (.int .i64 (maxI t)) ∧ w = w' := by
  rcases kinds t with rfl | rfl | rfl | rfl | h
  · go_enter Tryd.func17, Tryd.ntmps17
    go_wp2_with (go_at_call 14; refine (rbits_at 1 1 rfl _).mono ?_; rintro e w' ⟨rfl, rfl⟩)
    all_goals go_ret
    all_goals exact ⟨rfl, rfl⟩
  · go_enter Tryd.func17, Tryd.ntmps17
    go_wp2_with (first | (go_at_call 14; refine (rbits_at 2 8 rfl _).mono ?_; rintro e w' ⟨rfl, rfl⟩) | (go_at_call 16; refine (rmin_at 2 (-128) rfl _).mono ?_; rintro e w' ⟨rfl, rfl⟩))
    all_goals go_ret
    all_goals exact ⟨rfl, rfl⟩
  · go_enter Tryd.func17, Tryd.ntmps17
    go_wp2_with (first | (go_at_call 14; refine (rbits_at 3 32 rfl _).mono ?_; rintro e w' ⟨rfl, rfl⟩) | (go_at_call 16; refine (rmin_at 3 (-2147483648) rfl _).mono ?_; rintro e w' ⟨rfl, rfl⟩))
    all_goals go_ret
    all_goals exact ⟨rfl, rfl⟩
  · go_enter Tryd.func17, Tryd.ntmps17
    go_wp2_with (first | (go_at_call 14; refine (rbits_at 4 64 rfl _).mono ?_; rintro e w' ⟨rfl, rfl⟩) | (go_at_call 16; refine (rmin_at 4 (-9223372036854775808) rfl _).mono ?_; rintro e w' ⟨rfl, rfl⟩))
    all_goals go_ret
    all_goals exact ⟨rfl, rfl⟩
  · have hb := hide (bitsI_none h)
    have hz := hide (offI_none h)
    have hm := hide (modI_none h)
    clear h
    go_enter Tryd.func17, Tryd.ntmps17
    go_wp2_with (go_at_call 14; refine (rbits_at t 0 hb.out _).mono ?_; rintro e w' ⟨rfl, rfl⟩)
    all_goals go_ret
    all_goals exact ⟨ret_int (by unfold maxI; rw [hz.out, hm.out]; rfl), rfl⟩

/-- The absolute value. -/
theorem mag_any (n : Int) (w : World) (h0 : -9223372036854775808 ≤ n) (h1 : n ≤ 9223372036854775807) :
    Calls Tryd.prog 40 #[.int .i64 n] w fun e w' => e = .returned (.int .u64 (n.natAbs : Int)) ∧ w = w' := by
  by_cases hn : n < 0
  · go_enter Tryd.func40, Tryd.ntmps40
    go_wp2
    go_ret
    exact ⟨ret_int (by show IntKind.u64.wrap (-IntKind.u64.wrap n) = _; simp only [IntKind.wrap_u64]; omega), rfl⟩
  · go_enter Tryd.func40, Tryd.ntmps40
    go_wp2
    go_ret
    exact ⟨ret_int (by show n = _; omega), rfl⟩

/-- The shift amount, in both programs. -/
theorem amount_yes (t n : Int) (w : World) (h : unsI t n < bitsI t) :
    Calls Tryd.prog 42 #[.int .i64 t, .int .i64 n] w fun e w' => e = .returned (.tuple #[.int .i64 (unsI t n), .bool true]) ∧ w = w' := by
  have hs := shape t
  have hu0 : 0 ≤ unsI t n := uns_nonneg t n
  have hu1 : unsI t n < 64 := by omega
  have hb0 : 0 ≤ bitsI t := by omega
  have hb1 : bitsI t ≤ 64 := by omega
  clear hs
  go_enter Tryd.func42, Tryd.ntmps42
  go_wp2_with (first | (go_at_call 14; refine (rbits_any _ _).mono ?_; rintro e w' ⟨rfl, rfl⟩) | (go_at_call 13; refine (runs_any _ _ _).mono ?_; rintro e w' ⟨rfl, rfl⟩))
  go_ret2
  exact ⟨rfl, rfl⟩
theorem amount_no (t n : Int) (w : World) (h : bitsI t ≤ unsI t n) :
    Calls Tryd.prog 42 #[.int .i64 t, .int .i64 n] w fun e w' => e = .returned (.tuple #[.int .i64 0, .bool false]) ∧ w = w' := by
  have hs := shape t
  have hu0 : 0 ≤ unsI t n := uns_nonneg t n
  have hb0 : 0 ≤ bitsI t := by omega
  have hb1 : bitsI t ≤ 64 := by omega
  clear hs
  go_enter Tryd.func42, Tryd.ntmps42
  go_wp2_with (first | (go_at_call 14; refine (rbits_any _ _).mono ?_; rintro e w' ⟨rfl, rfl⟩) | (go_at_call 13; refine (runs_any _ _ _).mono ?_; rintro e w' ⟨rfl, rfl⟩))
  go_ret2
  exact ⟨rfl, rfl⟩
theorem shift_any (t n : Int) (w : World) (hT : Tab w) :
    Calls Tryd.prog 41 #[.int .i64 t, .int .i64 n] w fun e w' => e = .returned (.tuple #[.int .u64 (unsI t n), .bool (decide (unsI t n < bitsI t))]) ∧ w = w' := by
  have hs := shape t
  have hb : 0 ≤ bitsI t ∧ bitsI t ≤ 64 := by omega
  obtain ⟨hb0, hb1⟩ := hb
  clear hs
  go_enter Tryd.func41, Tryd.ntmps41
  go_wp2_with (first | (go_at_call 11; refine (bits_any _ _ hT).mono ?_; rintro e w' ⟨rfl, rfl⟩) | (go_at_call 10; refine (uns_any _ _ _ hT).mono ?_; rintro e w' ⟨rfl, rfl⟩))
  go_ret2
  exact ⟨rfl, rfl⟩

end Go.Proofs.YtckpjeheodbfaaaDoor

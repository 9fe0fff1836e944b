import Derived.Test.YtnhaanjpcnnifaaDoorRows
import Derived.Test.YtnhaanjpcnnifaaDoorMath
import Derived.ProofKit
import Derived.OpenShut
import Derived.Handy
import Derived.Test.YtnhaanjpcnnifaaDoorKit
namespace Go.Proofs.YtnhaanjpcnnifaaDoor
open Go.RowKit

/-- The table of widths lies in its block. -/
structure Tab (w : World) : Prop where
  c0 : w.cell? ⟨4, 0, none⟩ = some (.int .i64 0)
  c1 : w.cell? ⟨4, 1, none⟩ = some (.int .i64 1)
  c2 : w.cell? ⟨4, 2, none⟩ = some (.int .i64 8)
  c3 : w.cell? ⟨4, 3, none⟩ = some (.int .i64 32)
  c4 : w.cell? ⟨4, 4, none⟩ = some (.int .i64 64)


theorem ret_int {k : IntKind} {a b : Int} (h : a = b) : Ending.returned (.int k a) = .returned (.int k b) := by rw [h]

theorem bits_any (t : Int) (w : World) (hT : Tab w) :
    Calls Tryd.prog 108 #[.int .i64 t] w fun e w' => e = .returned (.int .i64 (bitsI t)) ∧ w = w' := by
  obtain ⟨c0, c1, c2, c3, c4⟩ := hT
  by_cases hn : t < 0
  · go_enter Tryd.func108, Tryd.ntmps108
    go_wp2
    go_ret
    exact ⟨ret_int (by unfold bitsI; show (0 : Int) = _; repeat rw [if_neg (by omega)]), rfl⟩
  · by_cases h5 : 5 ≤ t
    · go_enter Tryd.func108, Tryd.ntmps108
      go_wp2
      go_ret
      exact ⟨ret_int (by unfold bitsI; show (0 : Int) = _; repeat rw [if_neg (by omega)]), rfl⟩
    · have : t = 0 ∨ t = 1 ∨ t = 2 ∨ t = 3 ∨ t = 4 := by omega
      clear hn h5
      rcases this with rfl | rfl | rfl | rfl | rfl
      all_goals
        go_enter Tryd.func108, Tryd.ntmps108
        go_wp2
        go_ret
        exact ⟨rfl, rfl⟩

theorem bits_at (t b : Int) (h : bitsI t = b) (w : World) (hT : Tab w) :
    Calls Tryd.prog 108 #[.int .i64 t] w fun e w' => e = .returned (.int .i64 b) ∧ w = w' := by
  subst h; exact bits_any t w hT

theorem wrap_any (t n : Int) (w : World) (hT : Tab w) :
    Calls Tryd.prog 89 #[.int .i64 t, .int .i64 n] w fun e w' => e = .returned (.int .i64 (wrapI t n)) ∧ w = w' := by
  rcases kinds t with rfl | rfl | rfl | rfl | h
  · go_enter Tryd.func89, Tryd.ntmps89
    go_wp2
    go_ret
    exact ⟨ret_int (by rw [wrapI_1]; exact and_one_i64 n), rfl⟩
  · go_enter Tryd.func89, Tryd.ntmps89
    go_wp2_with (go_at_call 108; refine (bits_at 2 8 rfl _ hT).mono ?_; rintro e w' ⟨rfl, rfl⟩)
    go_ret
    exact ⟨ret_int (by rw [wrapI_2]; show wrap64 _ / _ = _; unfold wrap64; omega), rfl⟩
  · go_enter Tryd.func89, Tryd.ntmps89
    go_wp2_with (go_at_call 108; refine (bits_at 3 32 rfl _ hT).mono ?_; rintro e w' ⟨rfl, rfl⟩)
    go_ret
    exact ⟨ret_int (by rw [wrapI_3]; show wrap64 _ / _ = _; unfold wrap64; omega), rfl⟩
  · go_enter Tryd.func89, Tryd.ntmps89
    go_wp2_with (go_at_call 108; refine (bits_at 4 64 rfl _ hT).mono ?_; rintro e w' ⟨rfl, rfl⟩)
    go_ret
    exact ⟨ret_int (by rw [wrapI_4]), rfl⟩
  · have h1 : (t == 1) = false := by simpa using h.1
    have hb := hide (bitsI_none h)
    have hz := hide (wrapI_none h n)
    clear h
    go_enter Tryd.func89, Tryd.ntmps89
    go_wp2_with (go_at_call 108; refine (bits_at t 0 hb.out _ hT).mono ?_; rintro e w' ⟨rfl, rfl⟩)
    go_ret
    exact ⟨ret_int (by rw [hz.out]; show wrap64 _ / _ = _; unfold wrap64; omega), rfl⟩

/-! ### The document's own answers -/
theorem tmod_u64 (n m : Int) (hm : m = 2 ∨ m = 256 ∨ m = 4294967296) : (IntKind.u64.wrap n).tmod m = n % m := by
  rw [Int.tmod_eq_emod_of_nonneg (by simp only [IntKind.wrap_u64]; omega), IntKind.wrap_u64]
  rcases hm with rfl | rfl | rfl <;> omega

theorem rbits_any (t : Int) (w : World) :
    Calls Tryd.prog 94 #[.int .i64 t] w fun e w' => e = .returned (.int .i64 (bitsI t)) ∧ w = w' := by
  rcases kinds t with rfl | rfl | rfl | rfl | h
  · go_enter Tryd.func94, Tryd.ntmps94
    go_wp2
    go_ret
    exact ⟨rfl, rfl⟩
  · go_enter Tryd.func94, Tryd.ntmps94
    go_wp2
    go_ret
    exact ⟨rfl, rfl⟩
  · go_enter Tryd.func94, Tryd.ntmps94
    go_wp2
    go_ret
    exact ⟨rfl, rfl⟩
  · go_enter Tryd.func94, Tryd.ntmps94
    go_wp2
    go_ret
    exact ⟨rfl, rfl⟩
  · have hb := hide (bitsI_none h)
    obtain ⟨h1, h2, h3, h4⟩ := h
    have g1 : (t == 1) = false := by simpa using h1
    have g2 : (t == 2) = false := by simpa using h2
    have g3 : (t == 3) = false := by simpa using h3
    have g4 : (t == 4) = false := by simpa using h4
    clear h1 h2 h3 h4
    go_enter Tryd.func94, Tryd.ntmps94
    go_wp2
    go_ret
    exact ⟨ret_int hb.out.symm, rfl⟩
theorem rbits_at (t b : Int) (h : bitsI t = b) (w : World) :
    Calls Tryd.prog 94 #[.int .i64 t] w fun e w' => e = .returned (.int .i64 b) ∧ w = w' := by
  subst h; exact rbits_any t w

theorem runs_any (t n : Int) (w : World) :
    Calls Tryd.prog 95 #[.int .i64 t, .int .i64 n] w fun e w' => e = .returned (.int .u64 (unsI t n)) ∧ w = w' := by
  rcases kinds t with rfl | rfl | rfl | rfl | h
  · go_enter Tryd.func95, Tryd.ntmps95
    go_wp2_with (go_at_call 94; refine (rbits_at 1 1 rfl _).mono ?_; rintro e w' ⟨rfl, rfl⟩)
    go_ret
    exact ⟨ret_int (by rw [unsI_1]; show (IntKind.u64.wrap n).tmod 2 = _; exact tmod_u64 n 2 (by omega)), rfl⟩
  · go_enter Tryd.func95, Tryd.ntmps95
    go_wp2_with (go_at_call 94; refine (rbits_at 2 8 rfl _).mono ?_; rintro e w' ⟨rfl, rfl⟩)
    go_ret
    exact ⟨ret_int (by rw [unsI_2]; show (IntKind.u64.wrap n).tmod 256 = _; exact tmod_u64 n 256 (by omega)), rfl⟩
  · go_enter Tryd.func95, Tryd.ntmps95
    go_wp2_with (go_at_call 94; refine (rbits_at 3 32 rfl _).mono ?_; rintro e w' ⟨rfl, rfl⟩)
    go_ret
    exact ⟨ret_int (by rw [unsI_3]; show (IntKind.u64.wrap n).tmod 4294967296 = _; exact tmod_u64 n 4294967296 (by omega)), rfl⟩
  · go_enter Tryd.func95, Tryd.ntmps95
    go_wp2_with (go_at_call 94; refine (rbits_at 4 64 rfl _).mono ?_; rintro e w' ⟨rfl, rfl⟩)
    go_ret
    exact ⟨ret_int (by rw [unsI_4]; show IntKind.u64.wrap n = _; exact IntKind.wrap_u64 n), rfl⟩
  · have hb := hide (bitsI_none h)
    have hz := hide (unsI_none h n)
    clear h
    go_enter Tryd.func95, Tryd.ntmps95
    go_wp2_with (go_at_call 94; refine (rbits_at t 0 hb.out _).mono ?_; rintro e w' ⟨rfl, rfl⟩)
    go_ret
    exact ⟨ret_int (by rw [hz.out]), rfl⟩

theorem rwrap_any (t n : Int) (w : World) :
    Calls Tryd.prog 71 #[.int .i64 t, .int .i64 n] w fun e w' => e = .returned (.int .i64 (wrapI t n)) ∧ w = w' := by
  rcases kinds t with rfl | rfl | rfl | rfl | h
  · go_enter Tryd.func71, Tryd.ntmps71
    go_wp2_with (first | (go_at_call 94; refine (rbits_at 1 1 rfl _).mono ?_; rintro e w' ⟨rfl, rfl⟩) | (go_at_call 95; refine (runs_any _ _ _).mono ?_; rintro e w' ⟨rfl, rfl⟩))
    all_goals go_ret
    all_goals exact ⟨ret_int (by show wrap64 (unsI 1 n) = _; rw [unsI_1, wrapI_1]; unfold wrap64; omega), rfl⟩
  · go_enter Tryd.func71, Tryd.ntmps71
    go_wp2_with (first | (go_at_call 94; refine (rbits_at 2 8 rfl _).mono ?_; rintro e w' ⟨rfl, rfl⟩) | (go_at_call 95; refine (runs_any _ _ _).mono ?_; rintro e w' ⟨rfl, rfl⟩))
    all_goals go_ret
    · have h1 : 128 ≤ unsI 2 n := by assumption
      exact ⟨ret_int (by show wrap64 (wrap64 (unsI 2 n) - 256) = _; rw [unsI_2] at *; rw [wrapI_2]; unfold wrap64; omega), rfl⟩
    · have h1 : unsI 2 n < 128 := by assumption
      exact ⟨ret_int (by show wrap64 (unsI 2 n) = _; rw [unsI_2] at *; rw [wrapI_2]; unfold wrap64; omega), rfl⟩
  · go_enter Tryd.func71, Tryd.ntmps71
    go_wp2_with (first | (go_at_call 94; refine (rbits_at 3 32 rfl _).mono ?_; rintro e w' ⟨rfl, rfl⟩) | (go_at_call 95; refine (runs_any _ _ _).mono ?_; rintro e w' ⟨rfl, rfl⟩))
    all_goals go_ret
    · have h1 : 2147483648 ≤ unsI 3 n := by assumption
      exact ⟨ret_int (by show wrap64 (wrap64 (unsI 3 n) - 4294967296) = _; rw [unsI_3] at *; rw [wrapI_3]; unfold wrap64; omega), rfl⟩
    · have h1 : unsI 3 n < 2147483648 := by assumption
      exact ⟨ret_int (by show wrap64 (unsI 3 n) = _; rw [unsI_3] at *; rw [wrapI_3]; unfold wrap64; omega), rfl⟩
  · go_enter Tryd.func71, Tryd.ntmps71
    go_wp2_with (first | (go_at_call 94; refine (rbits_at 4 64 rfl _).mono ?_; rintro e w' ⟨rfl, rfl⟩) | (go_at_call 95; refine (runs_any _ _ _).mono ?_; rintro e w' ⟨rfl, rfl⟩))
    all_goals go_ret
    all_goals exact ⟨ret_int (by show wrap64 (unsI 4 n) = _; rw [unsI_4, wrapI_4]; unfold wrap64; omega), rfl⟩
  · have hb := hide (bitsI_none h)
    have hz := hide (unsI_none h n)
    have hz' := hide (wrapI_none h n)
    clear h
    go_enter Tryd.func71, Tryd.ntmps71
    go_wp2_with (first | (go_at_call 94; refine (rbits_at t 0 hb.out _).mono ?_; rintro e w' ⟨rfl, rfl⟩) | (go_at_call 95; refine (runs_any _ _ _).mono ?_; rintro e w' ⟨rfl, rfl⟩))
    all_goals go_ret
    all_goals exact ⟨ret_int (by show wrap64 (unsI t n) = _; rw [hz.out, hz'.out]; unfold wrap64; omega), rfl⟩

end Go.Proofs.YtnhaanjpcnnifaaDoor

import Derived.Test.YtckpjeheodbfaaaDoorRef
namespace Go.Proofs.YtckpjeheodbfaaaDoor
open Go.RowKit

theorem amount_at (t n : Int) (m : Nat) (w : World) (h : unsI t n < bitsI t) (hm : unsI t n = m) :
    Calls Tryd.prog 42 #[.int .i64 t, .int .i64 n] w fun e w' => e = .returned (.tuple #[.int .i64 m, .bool true]) ∧ w = w' := by
  rw [← hm]; exact amount_yes t n w h
theorem uns_nat {t n : Int} (h : unsI t n < bitsI t) : ∃ m : Nat, unsI t n = m ∧ m < 64 := by
  have h0 := uns_nonneg t n
  have h1 := bits_range t
  exact ⟨(unsI t n).toNat, by omega, by omega⟩

theorem rshl_yes (t a n : Int) (w : World) (h : unsI t n < bitsI t) :
    Calls Tryd.prog 25 #[.int .i64 t, .int .i64 a, .int .i64 n] w fun e w' => e = .returned (.tuple #[.int .i64 (shlS t a n), .bool true]) ∧ w = w' := by
  obtain ⟨m, hm, hlt⟩ := uns_nat h
  have H := hide h
  have HM := hide hm
  have HU := hide (uns_range t a)
  clear h hm
  go_enter Tryd.func25, Tryd.ntmps25
  go_wp2_with fail
  refine (amount_at _ _ m _ H.out HM.out).mono ?_
  rintro e w' ⟨rfl, rfl⟩
  go_wp2_with fail
  refine (runs_any _ _ _).mono ?_
  rintro e w' ⟨rfl, rfl⟩
  go_wp2_with fail
  go_loop [10, 11] (fun u i => ∃ k : Nat, k ≤ m ∧ i = .int .i64 k ∧ u = .int .u64 (IntKind.u64.wrap (unsI t a * 2 ^ k))) (fun _ i => m - (intOf i).toNat)
  case atStart => exact ⟨0, Nat.zero_le _, rfl, by rw [Int.pow_zero, Int.mul_one, IntWalk.u64_in _ HU.out]⟩
  case round =>
    obtain ⟨k, hk, rfl, rfl⟩ := hrel
    by_cases hlt : k < m
    · go_wp2_with fail
      go_round
      case rel => exact ⟨k + 1, by omega, by go_num, by rw [shl_step]⟩
      case measure => simp [intOf]; omega
    · obtain rfl : k = m := by omega
      go_wp2_with (go_at_call 12; refine (rwrap_any _ _ _).mono ?_; rintro e w' ⟨rfl, rfl⟩)
      go_ret2
      exact ⟨ret_ib (by unfold shlS; rw [HM.out]; show wrapI t (wrap64 (IntKind.u64.wrap (unsI t a * 2 ^ k))) = _; rw [wrap_wrap64, wrap_u64, wrap_uns_mul]; rfl) rfl, rfl⟩

theorem rlshr_yes (t a n : Int) (w : World) (h : unsI t n < bitsI t) :
    Calls Tryd.prog 27 #[.int .i64 t, .int .i64 a, .int .i64 n] w fun e w' => e = .returned (.tuple #[.int .i64 (lshrS t a n), .bool true]) ∧ w = w' := by
  obtain ⟨m, hm, hlt⟩ := uns_nat h
  have H := hide h
  have HM := hide hm
  have HU := hide (uns_range t a)
  clear h hm
  go_enter Tryd.func27, Tryd.ntmps27
  go_wp2_with fail
  refine (amount_at _ _ m _ H.out HM.out).mono ?_
  rintro e w' ⟨rfl, rfl⟩
  go_wp2_with fail
  refine (runs_any _ _ _).mono ?_
  rintro e w' ⟨rfl, rfl⟩
  go_wp2_with fail
  go_loop [10, 11] (fun u i => ∃ k : Nat, k ≤ m ∧ i = .int .i64 k ∧ u = .int .u64 (unsI t a / 2 ^ k)) (fun _ i => m - (intOf i).toNat)
  case atStart => exact ⟨0, Nat.zero_le _, rfl, by rw [Int.pow_zero, Int.ediv_one]⟩
  case round =>
    obtain ⟨k, hk, rfl, rfl⟩ := hrel
    obtain ⟨r0, r1⟩ := shr_range (unsI t a) k HU.out
    by_cases hlt : k < m
    · go_wp2_with fail
      go_round
      case rel => exact ⟨k + 1, by omega, by go_num, by rw [← shr_step]⟩
      case measure => simp [intOf]; omega
    · obtain rfl : k = m := by omega
      go_wp2_with (go_at_call 12; refine (rwrap_any _ _ _).mono ?_; rintro e w' ⟨rfl, rfl⟩)
      go_ret2
      exact ⟨ret_ib (by unfold lshrS; rw [HM.out]; show wrapI t (wrap64 (unsI t a / 2 ^ k)) = _; rw [wrap_wrap64]; rfl) rfl, rfl⟩

theorem rashr_yes (t a n : Int) (w : World) (h : unsI t n < bitsI t) :
    Calls Tryd.prog 29 #[.int .i64 t, .int .i64 a, .int .i64 n] w fun e w' => e = .returned (.tuple #[.int .i64 (ashrS t a n), .bool true]) ∧ w = w' := by
  obtain ⟨m, hm, hlt⟩ := uns_nat h
  have H := hide h
  have HM := hide hm
  have HU := hide (wrap_range t a)
  clear h hm
  go_enter Tryd.func29, Tryd.ntmps29
  go_wp2_with fail
  refine (amount_at _ _ m _ H.out HM.out).mono ?_
  rintro e w' ⟨rfl, rfl⟩
  go_wp2_with fail
  refine (rwrap_any _ _ _).mono ?_
  rintro e w' ⟨rfl, rfl⟩
  go_wp2_with fail
  go_loop [1, 10] (fun v i => ∃ k : Nat, k ≤ m ∧ i = .int .i64 k ∧ v = .int .i64 (wrapI t a / 2 ^ k)) (fun _ i => m - (intOf i).toNat)
  case atStart => exact ⟨0, Nat.zero_le _, rfl, by rw [Int.pow_zero, Int.ediv_one]⟩
  case round =>
    obtain ⟨k, hk, rfl, rfl⟩ := hrel
    obtain ⟨r0, r1⟩ := sar_range (wrapI t a) k HU.out
    have hnext := hide (shr_step (wrapI t a) k)
    by_cases hlt : k < m
    · by_cases hv : wrapI t a / 2 ^ k < 0
      · go_wp2_with fail
        go_round
        case rel => exact ⟨k + 1, by omega, by go_num, by rw [← hnext.out]; generalize wrapI t a / 2 ^ k = v at *; go_num⟩
        case measure => simp [intOf]; omega
      · go_wp2_with fail
        go_round
        case rel => exact ⟨k + 1, by omega, by go_num, by rw [← hnext.out]⟩
        case measure => simp [intOf]; omega
    · obtain rfl : k = m := by omega
      go_wp2_with fail
      go_ret2
      exact ⟨ret_ib (by unfold ashrS; rw [HM.out]; rfl) rfl, rfl⟩

theorem rshl_no (t a n : Int) (w : World) (h : bitsI t ≤ unsI t n) :
    Calls Tryd.prog 25 #[.int .i64 t, .int .i64 a, .int .i64 n] w fun e w' => e = .returned (.tuple #[.int .i64 0, .bool false]) ∧ w = w' := by
  have H := hide h
  clear h
  go_enter Tryd.func25, Tryd.ntmps25
  go_wp2_with fail
  refine (amount_no _ _ _ H.out).mono ?_
  rintro e w' ⟨rfl, rfl⟩
  go_wp2_with fail
  go_ret2
  exact ⟨rfl, rfl⟩
theorem rlshr_no (t a n : Int) (w : World) (h : bitsI t ≤ unsI t n) :
    Calls Tryd.prog 27 #[.int .i64 t, .int .i64 a, .int .i64 n] w fun e w' => e = .returned (.tuple #[.int .i64 0, .bool false]) ∧ w = w' := by
  have H := hide h
  clear h
  go_enter Tryd.func27, Tryd.ntmps27
  go_wp2_with fail
  refine (amount_no _ _ _ H.out).mono ?_
  rintro e w' ⟨rfl, rfl⟩
  go_wp2_with fail
  go_ret2
  exact ⟨rfl, rfl⟩
theorem rashr_no (t a n : Int) (w : World) (h : bitsI t ≤ unsI t n) :
    Calls Tryd.prog 29 #[.int .i64 t, .int .i64 a, .int .i64 n] w fun e w' => e = .returned (.tuple #[.int .i64 0, .bool false]) ∧ w = w' := by
  have H := hide h
  clear h
  go_enter Tryd.func29, Tryd.ntmps29
  go_wp2_with fail
  refine (amount_no _ _ _ H.out).mono ?_
  rintro e w' ⟨rfl, rfl⟩
  go_wp2_with fail
  go_ret2
  exact ⟨rfl, rfl⟩

end Go.Proofs.YtckpjeheodbfaaaDoor

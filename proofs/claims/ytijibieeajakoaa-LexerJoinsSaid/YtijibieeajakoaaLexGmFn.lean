/-
  Layer 13 (lexer): the reference's ParseInt of a text in the form, case mFn.
-/
import Derived.Test.YtijibieeajakoaaLexG
namespace Go.Proofs.Ytijibieeajakoaa
open Go.RowKit

set_option maxRecDepth 100000 in
theorem rpi_mFn (d : List UInt8) (l : List UInt8) (hl : l = 45 :: d) (x : UInt8) (hx0 : d[0]? = some x) (hm : d.length + 1 ≤ 1000000) (hd : digLen d = d.length) (h19 : d.length ≤ 19) (hz : ¬ (1 < d.length ∧ (x.toNat : Int) = 48)) (hz2 : d ≠ [48]) (hle : 9223372036854775808 < num d) (w : World) : Calls Try.prog 33 #[.string (Bs l)] w fun e w' =>
    e = .returned (.tuple #[.int .i64 0, .bool false]) ∧ w' = w := by
  have hlen2 := lenS d (by unfold maxLen; omega)
  have hT := Bs_toList
  have h48 : ByteArray.toList { data := #[48] } = [48] := Bs_toList [48]
  have hne : d ≠ [] := by rintro rfl; simp at hx0
  have hpos : 0 < d.length := List.length_pos_iff.2 hne
  have hemp : d.isEmpty = false := by simpa using hne
  have hix0 : ∀ W, (Instr.index 9 (.string (Bs d)) (.int .i64 0)).run Try.prog W = .ok (.int .u8 (x.toNat : Int)) W := ix d 0 x hx0
  obtain ⟨xz, hxz⟩ : ∃ z : Int, (x.toNat : Int) = z := ⟨_, rfl⟩
  rw [hxz] at hix0
  have hlen := lenS l (by rw [hl]; unfold maxLen; simp; omega)
  obtain ⟨m, hm2⟩ : ∃ m, l.length = m := ⟨_, rfl⟩
  have hm3 : (0 : Int) < (m : Int) := by rw [← hm2, hl]; simp only [List.length_cons]; omega
  rw [hm2] at hlen
  have hixm : ∀ W, (Instr.index 9 (.string (Bs l)) (.int .i64 0)).run Try.prog W = .ok (.int .u8 45) W := by rw [hl]; exact ix0 45 d
  have hsl : ∀ W, (Instr.slice 9 (.string (Bs l)) (some (.int .i64 1)) none none).run Try.prog W = .ok (.string (Bs d)) W := fun W => by rw [hl]; exact slFrom (45 :: d) 1 (by simp) W
  clear hl hm2
  have hE : ∀ W, Calls Try.prog 25 #[.string (Bs d), .int .i64 0, .bool false] W fun e w' => e = .returned (.int .i64 (digLen d : Int)) ∧ w' = W := fun W => by
    have := end_any d 0 false (by omega) (Nat.zero_le _) W
    have e1 : endP false = isDig := by funext c; simp [endP]
    rw [e1, Nat.zero_add] at this
    exact this
  have hdg := hide (span_all hd)
  rw [hd] at hE
  obtain ⟨n, hn⟩ : ∃ n, d.length = n := ⟨_, rfl⟩
  have hd2 : ((n : Int) == (n : Int)) = true := by simp
  have hd3 : ((n : Int) != (n : Int)) = false := by simp
  have hixs : ∀ (k : Nat) c, d[k]? = some c → ∀ W, (Instr.index 9 (.string (Bs d)) (.int .i64 (k : Int))).run Try.prog W = .ok (.int .u8 (c.toNat : Int)) W := fun k c h => ix d k c h
  have HX := hide hixs
  have HN := hide hn
  have hnum := num_le19 h19 hdg.out
  have hnn : (0 : Int) ≤ (num d : Int) := by omega
  have hle' : (9223372036854775808 : Int) < (num d : Int) := by omega
  obtain ⟨y, hy⟩ : ∃ y : Int, (num d : Int) = y := ⟨_, rfl⟩
  rw [hy] at hle' hnn 
  rw [hn] at hlen2 h19 hE hz hpos
  have hp0 : (0 : Int) < (n : Int) := by omega
  have ht : (9223372036854775808 : Int) < y := by omega
  clear hle hle' hnum
  have HY := hide hy
  have h20 : ¬ (19 : Int) < (n : Int) := by omega
  rw [hxz] at hz
  have HZ := hide hz
  have h48d : (d == [48]) = false := by simpa using hz2
  clear hn hd hixs hy hz hx0 hxz hm hpos hz2
  by_cases h1 : (1 : Int) < (n : Int)
  · have h11 : (xz == 48) = false := by
      have := HZ.out
      simp only [beq_eq_false_iff_ne, ne_eq]
      intro h2
      exact this ⟨by omega, h2⟩
    clear HZ
    go_enter Try.func33, Try.ntmps33
    go_wp2_with (go_at_call 25; refine (hE _).mono ?_; rintro en w' ⟨rfl, rfl⟩)
    go_loop [6, 7] (fun u v => ∃ k : Nat, k ≤ n ∧ v = .int .i64 (k : Int) ∧ u = .int .u64 (num (d.take k) : Int)) (fun _ v => n - (intOf v).toNat)
    case atStart => exact ⟨0, Nat.zero_le _, rfl, by simp [num]⟩
    case round =>
      obtain ⟨k, hk, rfl, rfl⟩ := hrel
      rcases Nat.lt_or_ge k n with hlt | hge
      · obtain ⟨c, hc⟩ : ∃ c, d[k]? = some c := ⟨_, List.getElem?_eq_getElem (by rw [HN.out]; exact hlt)⟩
        have hix := HX.out k c hc
        have hcd := dig_num (hdg.out c (List.mem_of_getElem? hc))
        have hstep : num (d.take (k + 1)) = 10 * num (d.take k) + (c.toNat - 48) := by
          rw [List.take_add_one, hc]; exact num_snoc _ _
        have hlt2 : num (d.take k) < 1000000000000000000 := by
          have h2 := num_lt k (d.take k) (by rw [List.length_take, HN.out]; omega) (fun c hc => hdg.out c (List.mem_of_mem_take hc))
          have h3 : 10 ^ k ≤ 10 ^ 18 := Nat.pow_le_pow_right (by omega) (by omega)
          have h4 : (10 : Nat) ^ 18 = 1000000000000000000 := rfl
          omega
        obtain ⟨u, hu⟩ : ∃ u, num (d.take k) = u := ⟨_, rfl⟩
        obtain ⟨cn, hcx⟩ : ∃ z, c.toNat = z := ⟨_, rfl⟩
        rw [hu] at hstep hlt2 ⊢
        rw [hcx] at hstep hcd hix
        have hS := hide hstep
        clear hstep hcx hc hu
        go_wp2
        go_round
        case rel => exact ⟨k + 1, hlt, by go_num, by rw [hS.out]; congr 1; omega⟩
        case measure => simp [intOf]; omega
      · obtain rfl : k = n := by omega
        have hall : d.take k = d := List.take_of_length_le (by rw [HN.out]; exact Nat.le_refl _)
        rw [hall, HY.out]
        clear hall
        go_wp2
        go_ret2
        exact ⟨rfl, rfl⟩
  · clear HZ
    go_enter Try.func33, Try.ntmps33
    go_wp2_with (go_at_call 25; refine (hE _).mono ?_; rintro en w' ⟨rfl, rfl⟩)
    go_loop [6, 7] (fun u v => ∃ k : Nat, k ≤ n ∧ v = .int .i64 (k : Int) ∧ u = .int .u64 (num (d.take k) : Int)) (fun _ v => n - (intOf v).toNat)
    case atStart => exact ⟨0, Nat.zero_le _, rfl, by simp [num]⟩
    case round =>
      obtain ⟨k, hk, rfl, rfl⟩ := hrel
      rcases Nat.lt_or_ge k n with hlt | hge
      · obtain ⟨c, hc⟩ : ∃ c, d[k]? = some c := ⟨_, List.getElem?_eq_getElem (by rw [HN.out]; exact hlt)⟩
        have hix := HX.out k c hc
        have hcd := dig_num (hdg.out c (List.mem_of_getElem? hc))
        have hstep : num (d.take (k + 1)) = 10 * num (d.take k) + (c.toNat - 48) := by
          rw [List.take_add_one, hc]; exact num_snoc _ _
        have hlt2 : num (d.take k) < 1000000000000000000 := by
          have h2 := num_lt k (d.take k) (by rw [List.length_take, HN.out]; omega) (fun c hc => hdg.out c (List.mem_of_mem_take hc))
          have h3 : 10 ^ k ≤ 10 ^ 18 := Nat.pow_le_pow_right (by omega) (by omega)
          have h4 : (10 : Nat) ^ 18 = 1000000000000000000 := rfl
          omega
        obtain ⟨u, hu⟩ : ∃ u, num (d.take k) = u := ⟨_, rfl⟩
        obtain ⟨cn, hcx⟩ : ∃ z, c.toNat = z := ⟨_, rfl⟩
        rw [hu] at hstep hlt2 ⊢
        rw [hcx] at hstep hcd hix
        have hS := hide hstep
        clear hstep hcx hc hu
        go_wp2
        go_round
        case rel => exact ⟨k + 1, hlt, by go_num, by rw [hS.out]; congr 1; omega⟩
        case measure => simp [intOf]; omega
      · obtain rfl : k = n := by omega
        have hall : d.take k = d := List.take_of_length_le (by rw [HN.out]; exact Nat.le_refl _)
        rw [hall, HY.out]
        clear hall
        go_wp2
        go_ret2
        exact ⟨rfl, rfl⟩

theorem parse_nil : parseOk [] = false := rfl
end Go.Proofs.Ytijibieeajakoaa

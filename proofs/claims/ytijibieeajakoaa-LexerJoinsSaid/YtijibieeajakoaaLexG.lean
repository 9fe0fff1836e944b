/-
  Layer 13 (lexer): the reference's end and ParseInt.
-/
import Derived.Test.YtijibieeajakoaaLexD
namespace Go.Proofs.Ytijibieeajakoaa
open Go.RowKit

def endP (b : Bool) (c : UInt8) : Bool := isDig c || (b && isLet c)
set_option maxRecDepth 100000 in
theorem end_any (l : List UInt8) (i : Nat) (b : Bool) (hm : l.length ≤ 1000000) (hi : i ≤ l.length) (w : World) : Calls Try.prog 25 #[.string (Bs l), .int .i64 (i : Int), .bool b] w fun e w' =>
    e = .returned (.int .i64 (i + span (endP b) (l.drop i) : Nat)) ∧ w' = w := by
  have hlen := lenS l (by unfold maxLen; omega)
  go_enter Try.func25, Try.ntmps25
  go_wp2
  go_loop [1] (fun v => ∃ j : Nat, v = .int .i64 (j : Int) ∧ i ≤ j ∧ j ≤ l.length ∧ AllTo (endP b) (l.drop i) (j - i)) (fun v => l.length - (intOf v).toNat)
  case atStart => exact ⟨i, rfl, Nat.le_refl _, hi, by rw [Nat.sub_self]; exact AllTo.zero _ _⟩
  case round =>
    obtain ⟨j, rfl, hij, hp, hI⟩ := hrel
    rcases Nat.lt_or_ge j l.length with hlt | hge
    · obtain ⟨c, hc⟩ : ∃ c, l[j]? = some c := ⟨_, List.getElem?_eq_getElem hlt⟩
      have hix := ix l j c hc
      have hc2 : (l.drop i)[j - i]? = some c := by rw [List.getElem?_drop, show i + (j - i) = j by omega]; exact hc
      have hnext := hide (fun hp : endP b c = true => (show AllTo (endP b) (l.drop i) (j + 1 - i) by rw [show j + 1 - i = j - i + 1 by omega]; exact hI.next hc2 hp))
      have hstop := hide (fun hp : endP b c = false => (show i + span (endP b) (l.drop i) = j by have := hI.stop (fun d hd => by rw [hc2] at hd; injection hd with hd; subst hd; exact hp); omega))
      have hD : isDig c = digZ c.toNat := rfl
      have hL : isLet c = letZ c.toNat := rfl
      have hE : endP b c = (isDig c || (b && isLet c)) := rfl
      rw [hD, hL] at hE
      obtain ⟨z, hz⟩ : ∃ z : Int, (c.toNat : Int) = z := ⟨_, rfl⟩
      rw [hz] at hix hE
      have HE := hide hE
      clear hI hc hc2 hD hL hE hz
      by_cases h1 : digZ z = true
      · have hN := hide (hnext.out (by rw [HE.out, h1]; rfl))
        clear hnext hstop
        go_wp2_with (first | (go_at_call 26; refine (rdigit_any _ _).mono ?_; rintro en w' ⟨rfl, rfl⟩) | (go_at_call 24; refine (rletter_any _ _).mono ?_; rintro en w' ⟨rfl, rfl⟩))
        go_round
        case rel => exact ⟨j + 1, by go_num, by omega, by omega, hN.out⟩
        case measure => simp [intOf]; omega
      have h1' : digZ z = false := by simpa using h1
      clear h1
      cases b with
      | false =>
        have hN := hide (hstop.out (by rw [HE.out, h1']; rfl))
        clear hnext hstop
        go_wp2_with (first | (go_at_call 26; refine (rdigit_any _ _).mono ?_; rintro en w' ⟨rfl, rfl⟩) | (go_at_call 24; refine (rletter_any _ _).mono ?_; rintro en w' ⟨rfl, rfl⟩))
        go_ret
        refine ⟨?_, rfl⟩
        show Ending.returned (.int .i64 (j : Int)) = _
        first | (rw [← hN.out]; done) | (rw [← hN.out]; simp)
      | true =>
        by_cases h2 : letZ z = true
        · have hN := hide (hnext.out (by rw [HE.out, h2]; simp))
          clear hnext hstop
          go_wp2_with (first | (go_at_call 26; refine (rdigit_any _ _).mono ?_; rintro en w' ⟨rfl, rfl⟩) | (go_at_call 24; refine (rletter_any _ _).mono ?_; rintro en w' ⟨rfl, rfl⟩))
          go_round
          case rel => exact ⟨j + 1, by go_num, by omega, by omega, hN.out⟩
          case measure => simp [intOf]; omega
        · have h2' : letZ z = false := by simpa using h2
          clear h2
          have hN := hide (hstop.out (by rw [HE.out, h1', h2']; rfl))
          clear hnext hstop
          go_wp2_with (first | (go_at_call 26; refine (rdigit_any _ _).mono ?_; rintro en w' ⟨rfl, rfl⟩) | (go_at_call 24; refine (rletter_any _ _).mono ?_; rintro en w' ⟨rfl, rfl⟩))
          go_ret
          refine ⟨?_, rfl⟩
          show Ending.returned (.int .i64 (j : Int)) = _
          first | (rw [← hN.out]; done) | (rw [← hN.out]; simp)
    · have hN : Hid (i + span (endP b) (l.drop i) = j) := by
        have := hI.stop (fun d hd => by rw [List.getElem?_eq_none (by simp; omega)] at hd; cases hd)
        show _ = _; omega
      have hge2 : ¬ ((j : Int) < (l.length : Int)) := by omega
      clear hI
      go_wp2
      go_ret
      refine ⟨?_, rfl⟩
      show Ending.returned (.int .i64 (j : Int)) = _
      first | (rw [← hN.out]; done) | (rw [← hN.out]; simp)

set_option maxRecDepth 100000 in
theorem rpi_pB (d : List UInt8) (x : UInt8) (hx0 : d[0]? = some x) (hm : d.length + 1 ≤ 1000000) (hx : ¬ (x.toNat : Int) = 45) (hd : digLen d ≠ d.length) (w : World) : Calls Try.prog 33 #[.string (Bs d)] w fun e w' =>
    e = .returned (.tuple #[.int .i64 0, .bool false]) ∧ w' = w := by
  have hlen2 := lenS d (by unfold maxLen; omega)
  have hT := Bs_toList
  have h48 : ByteArray.toList { data := #[48] } = [48] := Bs_toList [48]
  have hne : d ≠ [] := by rintro rfl; simp at hx0
  have hpos : 0 < d.length := List.length_pos_iff.2 hne
  have hemp : d.isEmpty = false := by simpa using hne
  have hix0 : ∀ W, (Instr.index 9 (.string (Bs d)) (.int .i64 0)).run Try.prog W = .ok (.int .u8 (x.toNat : Int)) W := ix d 0 x hx0
  obtain ⟨xz, hxz⟩ : ∃ z : Int, (x.toNat : Int) = z := ⟨_, rfl⟩
  rw [hxz] at hix0
  have hnm : (xz == 45) = false := by rw [← hxz]; simpa using hx
  have hE : ∀ W, Calls Try.prog 25 #[.string (Bs d), .int .i64 0, .bool false] W fun e w' => e = .returned (.int .i64 (digLen d : Int)) ∧ w' = W := fun W => by
    have := end_any d 0 false (by omega) (Nat.zero_le _) W
    have e1 : endP false = isDig := by funext c; simp [endP]
    rw [e1, Nat.zero_add] at this
    exact this
  obtain ⟨dn, hdn⟩ : ∃ n, digLen d = n := ⟨_, rfl⟩
  obtain ⟨n, hn⟩ : ∃ n, d.length = n := ⟨_, rfl⟩
  rw [hdn] at hE hd
  rw [hn] at hlen2 hd hpos
  have hp0 : (0 : Int) < (n : Int) := by omega
  have hd2 : ((dn : Int) == (n : Int)) = false := by simp; omega
  have hd3 : ((dn : Int) != (n : Int)) = true := by simp; omega
  clear hn hdn hd hx0 hxz hm hpos hx
  go_enter Try.func33, Try.ntmps33
  go_wp2_with (go_at_call 25; refine (hE _).mono ?_; rintro en w' ⟨rfl, rfl⟩)
  go_ret2
  exact ⟨rfl, rfl⟩

set_option maxRecDepth 100000 in
theorem rpi_pC (d : List UInt8) (x : UInt8) (hx0 : d[0]? = some x) (hm : d.length + 1 ≤ 1000000) (hx : ¬ (x.toNat : Int) = 45) (hd : digLen d = d.length) (h19 : 19 < d.length) (w : World) : Calls Try.prog 33 #[.string (Bs d)] w fun e w' =>
    e = .returned (.tuple #[.int .i64 0, .bool false]) ∧ w' = w := by
  have hlen2 := lenS d (by unfold maxLen; omega)
  have hT := Bs_toList
  have h48 : ByteArray.toList { data := #[48] } = [48] := Bs_toList [48]
  have hne : d ≠ [] := by rintro rfl; simp at hx0
  have hpos : 0 < d.length := List.length_pos_iff.2 hne
  have hemp : d.isEmpty = false := by simpa using hne
  have hix0 : ∀ W, (Instr.index 9 (.string (Bs d)) (.int .i64 0)).run Try.prog W = .ok (.int .u8 (x.toNat : Int)) W := ix d 0 x hx0
  obtain ⟨xz, hxz⟩ : ∃ z : Int, (x.toNat : Int) = z := ⟨_, rfl⟩
  rw [hxz] at hix0
  have hnm : (xz == 45) = false := by rw [← hxz]; simpa using hx
  have hE : ∀ W, Calls Try.prog 25 #[.string (Bs d), .int .i64 0, .bool false] W fun e w' => e = .returned (.int .i64 (digLen d : Int)) ∧ w' = W := fun W => by
    have := end_any d 0 false (by omega) (Nat.zero_le _) W
    have e1 : endP false = isDig := by funext c; simp [endP]
    rw [e1, Nat.zero_add] at this
    exact this
  rw [hd] at hE
  obtain ⟨n, hn⟩ : ∃ n, d.length = n := ⟨_, rfl⟩
  have hd2 : ((n : Int) == (n : Int)) = true := by simp
  have hd3 : ((n : Int) != (n : Int)) = false := by simp
  rw [hn] at hlen2 h19 hE hpos
  have hp0 : (0 : Int) < (n : Int) := by omega
  have h20 : (19 : Int) < (n : Int) := by omega
  clear hn hd hx0 hxz hm hpos hx
  go_enter Try.func33, Try.ntmps33
  go_wp2_with (go_at_call 25; refine (hE _).mono ?_; rintro en w' ⟨rfl, rfl⟩)
  go_ret2
  exact ⟨rfl, rfl⟩

set_option maxRecDepth 100000 in
theorem rpi_pD (d : List UInt8) (x : UInt8) (hx0 : d[0]? = some x) (hm : d.length + 1 ≤ 1000000) (hx : ¬ (x.toNat : Int) = 45) (hd : digLen d = d.length) (h19 : d.length ≤ 19) (h1 : 1 < d.length) (h0 : (x.toNat : Int) = 48) (w : World) : Calls Try.prog 33 #[.string (Bs d)] w fun e w' =>
    e = .returned (.tuple #[.int .i64 0, .bool false]) ∧ w' = w := by
  have hlen2 := lenS d (by unfold maxLen; omega)
  have hT := Bs_toList
  have h48 : ByteArray.toList { data := #[48] } = [48] := Bs_toList [48]
  have hne : d ≠ [] := by rintro rfl; simp at hx0
  have hpos : 0 < d.length := List.length_pos_iff.2 hne
  have hemp : d.isEmpty = false := by simpa using hne
  have hix0 : ∀ W, (Instr.index 9 (.string (Bs d)) (.int .i64 0)).run Try.prog W = .ok (.int .u8 (x.toNat : Int)) W := ix d 0 x hx0
  obtain ⟨xz, hxz⟩ : ∃ z : Int, (x.toNat : Int) = z := ⟨_, rfl⟩
  rw [hxz] at hix0
  have hnm : (xz == 45) = false := by rw [← hxz]; simpa using hx
  have hE : ∀ W, Calls Try.prog 25 #[.string (Bs d), .int .i64 0, .bool false] W fun e w' => e = .returned (.int .i64 (digLen d : Int)) ∧ w' = W := fun W => by
    have := end_any d 0 false (by omega) (Nat.zero_le _) W
    have e1 : endP false = isDig := by funext c; simp [endP]
    rw [e1, Nat.zero_add] at this
    exact this
  rw [hd] at hE
  obtain ⟨n, hn⟩ : ∃ n, d.length = n := ⟨_, rfl⟩
  have hd2 : ((n : Int) == (n : Int)) = true := by simp
  have hd3 : ((n : Int) != (n : Int)) = false := by simp
  rw [hn] at hlen2 h19 hE h1 hpos
  have hp0 : (0 : Int) < (n : Int) := by omega
  have h20 : ¬ (19 : Int) < (n : Int) := by omega
  have h11 : (1 : Int) < (n : Int) := by omega
  obtain rfl : xz = 48 := hxz.symm.trans h0
  clear hn hd h0 hx0 hxz hm hpos hx
  go_enter Try.func33, Try.ntmps33
  go_wp2_with (go_at_call 25; refine (hE _).mono ?_; rintro en w' ⟨rfl, rfl⟩)
  go_ret2
  exact ⟨rfl, rfl⟩

set_option maxRecDepth 100000 in
theorem rpi_mB (d : List UInt8) (l : List UInt8) (hl : l = 45 :: d) (x : UInt8) (hx0 : d[0]? = some x) (hm : d.length + 1 ≤ 1000000) (hd : digLen d ≠ d.length) (w : World) : Calls Try.prog 33 #[.string (Bs l)] w fun e w' =>
    e = .returned (.tuple #[.int .i64 0, .bool false]) ∧ w' = w := by
  have hlen2 := lenS d (by unfold maxLen; omega)
  have hT := Bs_toList
  have h48 : ByteArray.toList { data := #[48] } = [48] := Bs_toList [48]
  have hne : d ≠ [] := by rintro rfl; simp at hx0
  have hpos : 0 < d.length := List.length_pos_iff.2 hne
  have hemp : d.isEmpty = false := by simpa using hne
  have hix0 : ∀ W, (Instr.index 9 (.string (Bs d)) (.int .i64 0)).run Try.prog W = .ok (.int .u8 (x.toNat : Int)) W := ix d 0 x hx0
  obtain ⟨xz, hxz⟩ : ∃ z : Int, (x.toNat : Int) = z := ⟨_, rfl⟩
  rw [hxz] at hix0
  have hlen := lenS l (by rw [hl]; unfold maxLen; simp; omega)
  obtain ⟨m, hm2⟩ : ∃ m, l.length = m := ⟨_, rfl⟩
  have hm3 : (0 : Int) < (m : Int) := by rw [← hm2, hl]; simp only [List.length_cons]; omega
  rw [hm2] at hlen
  have hixm : ∀ W, (Instr.index 9 (.string (Bs l)) (.int .i64 0)).run Try.prog W = .ok (.int .u8 45) W := by rw [hl]; exact ix0 45 d
  have hsl : ∀ W, (Instr.slice 9 (.string (Bs l)) (some (.int .i64 1)) none none).run Try.prog W = .ok (.string (Bs d)) W := fun W => by rw [hl]; exact slFrom (45 :: d) 1 (by simp) W
  clear hl hm2
  have hE : ∀ W, Calls Try.prog 25 #[.string (Bs d), .int .i64 0, .bool false] W fun e w' => e = .returned (.int .i64 (digLen d : Int)) ∧ w' = W := fun W => by
    have := end_any d 0 false (by omega) (Nat.zero_le _) W
    have e1 : endP false = isDig := by funext c; simp [endP]
    rw [e1, Nat.zero_add] at this
    exact this
  obtain ⟨dn, hdn⟩ : ∃ n, digLen d = n := ⟨_, rfl⟩
  obtain ⟨n, hn⟩ : ∃ n, d.length = n := ⟨_, rfl⟩
  rw [hdn] at hE hd
  rw [hn] at hlen2 hd hpos
  have hp0 : (0 : Int) < (n : Int) := by omega
  have hd2 : ((dn : Int) == (n : Int)) = false := by simp; omega
  have hd3 : ((dn : Int) != (n : Int)) = true := by simp; omega
  clear hn hdn hd hx0 hxz hm hpos
  go_enter Try.func33, Try.ntmps33
  go_wp2_with (go_at_call 25; refine (hE _).mono ?_; rintro en w' ⟨rfl, rfl⟩)
  go_ret2
  exact ⟨rfl, rfl⟩

set_option maxRecDepth 100000 in
theorem rpi_mC (d : List UInt8) (l : List UInt8) (hl : l = 45 :: d) (x : UInt8) (hx0 : d[0]? = some x) (hm : d.length + 1 ≤ 1000000) (hd : digLen d = d.length) (h19 : 19 < d.length) (w : World) : Calls Try.prog 33 #[.string (Bs l)] w fun e w' =>
    e = .returned (.tuple #[.int .i64 0, .bool false]) ∧ w' = w := by
  have hlen2 := lenS d (by unfold maxLen; omega)
  have hT := Bs_toList
  have h48 : ByteArray.toList { data := #[48] } = [48] := Bs_toList [48]
  have hne : d ≠ [] := by rintro rfl; simp at hx0
  have hpos : 0 < d.length := List.length_pos_iff.2 hne
  have hemp : d.isEmpty = false := by simpa using hne
  have hix0 : ∀ W, (Instr.index 9 (.string (Bs d)) (.int .i64 0)).run Try.prog W = .ok (.int .u8 (x.toNat : Int)) W := ix d 0 x hx0
  obtain ⟨xz, hxz⟩ : ∃ z : Int, (x.toNat : Int) = z := ⟨_, rfl⟩
  rw [hxz] at hix0
  have hlen := lenS l (by rw [hl]; unfold maxLen; simp; omega)
  obtain ⟨m, hm2⟩ : ∃ m, l.length = m := ⟨_, rfl⟩
  have hm3 : (0 : Int) < (m : Int) := by rw [← hm2, hl]; simp only [List.length_cons]; omega
  rw [hm2] at hlen
  have hixm : ∀ W, (Instr.index 9 (.string (Bs l)) (.int .i64 0)).run Try.prog W = .ok (.int .u8 45) W := by rw [hl]; exact ix0 45 d
  have hsl : ∀ W, (Instr.slice 9 (.string (Bs l)) (some (.int .i64 1)) none none).run Try.prog W = .ok (.string (Bs d)) W := fun W => by rw [hl]; exact slFrom (45 :: d) 1 (by simp) W
  clear hl hm2
  have hE : ∀ W, Calls Try.prog 25 #[.string (Bs d), .int .i64 0, .bool false] W fun e w' => e = .returned (.int .i64 (digLen d : Int)) ∧ w' = W := fun W => by
    have := end_any d 0 false (by omega) (Nat.zero_le _) W
    have e1 : endP false = isDig := by funext c; simp [endP]
    rw [e1, Nat.zero_add] at this
    exact this
  rw [hd] at hE
  obtain ⟨n, hn⟩ : ∃ n, d.length = n := ⟨_, rfl⟩
  have hd2 : ((n : Int) == (n : Int)) = true := by simp
  have hd3 : ((n : Int) != (n : Int)) = false := by simp
  rw [hn] at hlen2 h19 hE hpos
  have hp0 : (0 : Int) < (n : Int) := by omega
  have h20 : (19 : Int) < (n : Int) := by omega
  clear hn hd hx0 hxz hm hpos
  go_enter Try.func33, Try.ntmps33
  go_wp2_with (go_at_call 25; refine (hE _).mono ?_; rintro en w' ⟨rfl, rfl⟩)
  go_ret2
  exact ⟨rfl, rfl⟩

set_option maxRecDepth 100000 in
theorem rpi_mD (d : List UInt8) (l : List UInt8) (hl : l = 45 :: d) (x : UInt8) (hx0 : d[0]? = some x) (hm : d.length + 1 ≤ 1000000) (hd : digLen d = d.length) (h19 : d.length ≤ 19) (h1 : 1 < d.length) (h0 : (x.toNat : Int) = 48) (w : World) : Calls Try.prog 33 #[.string (Bs l)] w fun e w' =>
    e = .returned (.tuple #[.int .i64 0, .bool false]) ∧ w' = w := by
  have hlen2 := lenS d (by unfold maxLen; omega)
  have hT := Bs_toList
  have h48 : ByteArray.toList { data := #[48] } = [48] := Bs_toList [48]
  have hne : d ≠ [] := by rintro rfl; simp at hx0
  have hpos : 0 < d.length := List.length_pos_iff.2 hne
  have hemp : d.isEmpty = false := by simpa using hne
  have hix0 : ∀ W, (Instr.index 9 (.string (Bs d)) (.int .i64 0)).run Try.prog W = .ok (.int .u8 (x.toNat : Int)) W := ix d 0 x hx0
  obtain ⟨xz, hxz⟩ : ∃ z : Int, (x.toNat : Int) = z := ⟨_, rfl⟩
  rw [hxz] at hix0
  have hlen := lenS l (by rw [hl]; unfold maxLen; simp; omega)
  obtain ⟨m, hm2⟩ : ∃ m, l.length = m := ⟨_, rfl⟩
  have hm3 : (0 : Int) < (m : Int) := by rw [← hm2, hl]; simp only [List.length_cons]; omega
  rw [hm2] at hlen
  have hixm : ∀ W, (Instr.index 9 (.string (Bs l)) (.int .i64 0)).run Try.prog W = .ok (.int .u8 45) W := by rw [hl]; exact ix0 45 d
  have hsl : ∀ W, (Instr.slice 9 (.string (Bs l)) (some (.int .i64 1)) none none).run Try.prog W = .ok (.string (Bs d)) W := fun W => by rw [hl]; exact slFrom (45 :: d) 1 (by simp) W
  clear hl hm2
  have hE : ∀ W, Calls Try.prog 25 #[.string (Bs d), .int .i64 0, .bool false] W fun e w' => e = .returned (.int .i64 (digLen d : Int)) ∧ w' = W := fun W => by
    have := end_any d 0 false (by omega) (Nat.zero_le _) W
    have e1 : endP false = isDig := by funext c; simp [endP]
    rw [e1, Nat.zero_add] at this
    exact this
  rw [hd] at hE
  obtain ⟨n, hn⟩ : ∃ n, d.length = n := ⟨_, rfl⟩
  have hd2 : ((n : Int) == (n : Int)) = true := by simp
  have hd3 : ((n : Int) != (n : Int)) = false := by simp
  rw [hn] at hlen2 h19 hE h1 hpos
  have hp0 : (0 : Int) < (n : Int) := by omega
  have h20 : ¬ (19 : Int) < (n : Int) := by omega
  have h11 : (1 : Int) < (n : Int) := by omega
  obtain rfl : xz = 48 := hxz.symm.trans h0
  clear hn hd h0 hx0 hxz hm hpos
  go_enter Try.func33, Try.ntmps33
  go_wp2_with (go_at_call 25; refine (hE _).mono ?_; rintro en w' ⟨rfl, rfl⟩)
  go_ret2
  exact ⟨rfl, rfl⟩

set_option maxRecDepth 100000 in
theorem rpi_mE (d : List UInt8) (l : List UInt8) (hl : l = 45 :: d) (x : UInt8) (hx0 : d[0]? = some x) (hm : d.length + 1 ≤ 1000000) (h0 : d = [48]) (w : World) : Calls Try.prog 33 #[.string (Bs l)] w fun e w' =>
    e = .returned (.tuple #[.int .i64 0, .bool false]) ∧ w' = w := by
  have hlen2 := lenS d (by unfold maxLen; omega)
  have hT := Bs_toList
  have h48 : ByteArray.toList { data := #[48] } = [48] := Bs_toList [48]
  have hne : d ≠ [] := by rintro rfl; simp at hx0
  have hpos : 0 < d.length := List.length_pos_iff.2 hne
  have hemp : d.isEmpty = false := by simpa using hne
  have hix0 : ∀ W, (Instr.index 9 (.string (Bs d)) (.int .i64 0)).run Try.prog W = .ok (.int .u8 (x.toNat : Int)) W := ix d 0 x hx0
  obtain ⟨xz, hxz⟩ : ∃ z : Int, (x.toNat : Int) = z := ⟨_, rfl⟩
  rw [hxz] at hix0
  have hlen := lenS l (by rw [hl]; unfold maxLen; simp; omega)
  obtain ⟨m, hm2⟩ : ∃ m, l.length = m := ⟨_, rfl⟩
  have hm3 : (0 : Int) < (m : Int) := by rw [← hm2, hl]; simp only [List.length_cons]; omega
  rw [hm2] at hlen
  have hixm : ∀ W, (Instr.index 9 (.string (Bs l)) (.int .i64 0)).run Try.prog W = .ok (.int .u8 45) W := by rw [hl]; exact ix0 45 d
  have hsl : ∀ W, (Instr.slice 9 (.string (Bs l)) (some (.int .i64 1)) none none).run Try.prog W = .ok (.string (Bs d)) W := fun W => by rw [hl]; exact slFrom (45 :: d) 1 (by simp) W
  clear hl hm2
  subst h0
  have hE : ∀ W, Calls Try.prog 25 #[.string (Bs [48]), .int .i64 0, .bool false] W fun e w' => e = .returned (.int .i64 1) ∧ w' = W := fun W => end_any [48] 0 false (by simp) (Nat.zero_le _) W
  clear hx0 hxz hm hpos
  go_enter Try.func33, Try.ntmps33
  go_wp2_with (go_at_call 25; refine (hE _).mono ?_; rintro en w' ⟨rfl, rfl⟩)
  go_ret2
  exact ⟨rfl, rfl⟩

set_option maxRecDepth 100000 in
theorem rpi_0 (w : World) : Calls Try.prog 33 #[.string (Bs [])] w fun e w' => e = .returned (.tuple #[.int .i64 0, .bool false]) ∧ w' = w := by
  have hlen := lenS [] (by simp [maxLen])
  have hT := Bs_toList
  go_enter Try.func33, Try.ntmps33
  go_wp2
  go_ret2
  exact ⟨rfl, rfl⟩
set_option maxRecDepth 100000 in
theorem rpi_m0 (w : World) : Calls Try.prog 33 #[.string (Bs [45])] w fun e w' => e = .returned (.tuple #[.int .i64 0, .bool false]) ∧ w' = w := by
  have hlen := lenS [45] (by simp [maxLen])
  have hlen2 := lenS [] (by simp [maxLen])
  have hT := Bs_toList
  have hixm : ∀ W, (Instr.index 9 (.string (Bs [45])) (.int .i64 0)).run Try.prog W = .ok (.int .u8 45) W := ix0 45 []
  have hsl : ∀ W, (Instr.slice 9 (.string (Bs [45])) (some (.int .i64 1)) none none).run Try.prog W = .ok (.string (Bs [])) W := fun W => slFrom [45] 1 (by simp) W
  go_enter Try.func33, Try.ntmps33
  go_wp2
  go_ret2
  exact ⟨rfl, rfl⟩
end Go.Proofs.Ytijibieeajakoaa

import Derived.Test.YtckpjeheodbfaabCur
import Derived.Test.YtckpjeheodbfaabState
namespace Go.Proofs.Ytckpjeheodbfaab
open Go.RowKit

/-- The document's reader in block g. -/
def RefAt (w : World) (g : Nat) (B : Nat × Nat) (l : List Int) (e : Int) : Prop :=
  ∃ rv, Whole w g 53 #[.bool true, rv, .int .i64 e] ∧ Rd w .u8 rv l ∧ Apart rv g ∧ InB rv B

theorem bad_yes (g : Nat) (B : Nat × Nat) (l : List Int) (e : Int) (w : World) (h : RefAt w g B l e) (he : e ≠ 0) :
    Calls Try.prog 36 #[.pointer (some ⟨g, 0, none⟩)] w fun en w' => en = .returned (.bool true) ∧ w = w' := by
  obtain ⟨rv, hw, _⟩ := h
  have c0 := hw.cell 0
  have c2 := hw.cell 2
  have t1 : (e != 0) = true := by simpa using he
  have t2 : (e == 0) = false := by simpa using he
  clear hw he
  go_enter Try.func36, Try.ntmps36
  go_wp2_with fail
  go_ret
  exact ⟨rfl, rfl⟩
theorem bad_no (g : Nat) (B : Nat × Nat) (l : List Int) (w : World) (h : RefAt w g B l 0) :
    Calls Try.prog 36 #[.pointer (some ⟨g, 0, none⟩)] w fun en w' => en = .returned (.bool false) ∧ w = w' := by
  obtain ⟨rv, hw, _⟩ := h
  have c0 := hw.cell 0
  have c2 := hw.cell 2
  clear hw
  go_enter Try.func36, Try.ntmps36
  go_wp2_with fail
  go_ret
  exact ⟨rfl, rfl⟩
theorem rfail_any (g : Nat) (e : Int) (x y : Value) (w : World) (c1 : w.cell? ⟨g, 1, none⟩ = some x) (c2 : w.cell? ⟨g, 2, none⟩ = some y) (f1 : w.frozen? ⟨g, 1, none⟩ = false) (f2 : w.frozen? ⟨g, 2, none⟩ = false) :
    Calls Try.prog 38 #[.pointer (some ⟨g, 0, none⟩), .int .i64 e] w fun en w' => en = .returned (.tuple #[]) ∧ (w.setCell ⟨g, 2, none⟩ (.int .i64 e)).setCell ⟨g, 1, none⟩ (.slice none 0 0) = w' := by
  go_enter Try.func38, Try.ntmps38
  go_wp2_with fail
  go_end0
  exact ⟨rfl, rfl⟩
theorem fail_ref (g : Nat) (B : Nat × Nat) (l : List Int) (e e' : Int) (w : World) (h : RefAt w g B l e) :
    Calls Try.prog 38 #[.pointer (some ⟨g, 0, none⟩), .int .i64 e'] w fun en w' => en = .returned (.tuple #[]) ∧ RefAt w' g B [] e' ∧ w.grownBy w' (some g) := by
  obtain ⟨rv, hw, _⟩ := h
  refine (rfail_any g e' _ _ w (hw.cell 1) (hw.cell 2) (hw.free 1) (hw.free 2)).mono ?_
  rintro en w' ⟨rfl, rfl⟩
  exact ⟨rfl, ⟨_, (hw.set 2 _).set 1 _, Rd.nil, Apart.nil, InB.nil⟩, only_set (only_set (only_refl _ _) _ _) _ _⟩
theorem runzigzag_any (z : Nat) (w : World) (hz : InWord z) :
    Calls Try.prog 39 #[.int .u64 z] w fun en w' => en = .returned (.int .i64 (unzz z)) ∧ w = w' := by
  have hz' : (z : Int) ≤ 18446744073709551615 := by unfold InWord at hz; omega
  by_cases ho : z % 2 = 1
  · have t : ((z : Int) % 2 == 0) = false := by rw [beq_eq_false_iff_ne]; omega
    have HO := hide ho
    clear ho
    go_enter Try.func39, Try.ntmps39
    go_wp2_with fail
    go_ret
    exact ⟨ret_int (by show -((z : Int) / 2) - 1 = _; have := HO.out; unfold unzz; rw [if_neg (by omega)]; omega), rfl⟩
  · have t : ((z : Int) % 2 == 0) = true := by rw [beq_iff_eq]; omega
    have HO := hide ho
    clear ho
    go_enter Try.func39, Try.ntmps39
    go_wp2_with fail
    go_ret
    exact ⟨ret_int (by show (z : Int) / 2 = _; have := HO.out; unfold unzz; rw [if_pos (by omega)]; omega), rfl⟩

/-- The document's size of the integer at the start. -/
theorem rsize_any (v : Value) (l : List Int) (w : World) (hv : Rd w .u8 v l) :
    Calls Try.prog 37 #[v] w fun e w' => e = .returned (.tuple #[.int .i64 (dsize l).1, .int .i64 (dsize l).2]) ∧ w = w' := by
  obtain ⟨A, c, rfl, hc, hm, hr⟩ := hv
  have hl9 : l.length ≤ 9223372036854775807 := by unfold maxLen at hm; omega
  have hc9 : c ≤ 9223372036854775807 := by unfold maxLen at hm; omega
  go_enter Try.func37, Try.ntmps37
  go_wp2_with fail
  go_loop [4] (fun i => ∃ k : Nat, k ≤ l.length ∧ k ≤ 10 ∧ i = .int .i64 k ∧ k ≤ lead 10 l) (fun i => 10 - (intOf i).toNat)
  case atStart => exact ⟨0, Nat.zero_le _, by omega, rfl, Nat.zero_le _⟩
  case round =>
    obtain ⟨k, hk, hk10, rfl, hlead⟩ := hrel
    by_cases hlt : k < l.length
    · obtain ⟨b, off, rfl, _, hcell⟩ := hr (by omega)
      obtain ⟨x, hx⟩ : ∃ x, l[k]? = some x := ⟨_, List.getElem?_eq_getElem (by omega)⟩
      have c1 := hcell k x hx
      have HX := hide (And.intro hx hlead)
      have tl : ((k : Int) == (l.length : Int)) = false := by rw [beq_eq_false_iff_ne]; omega
      clear hx hlead hcell hr
      by_cases hk9 : k < 10
      · have t10 : ((k : Int) == 10) = false := by rw [beq_eq_false_iff_ne]; omega
        by_cases hx128 : 128 ≤ x
        · go_wp2_with fail
          go_round
          case rel => exact ⟨k + 1, by omega, by omega, by go_num, lead_more 10 l k x HX.out.2 hk9 HX.out.1 hx128⟩
          case measure => simp [intOf]; omega
        · by_cases hk0 : 0 < k
          · by_cases hx0 : x = 0
            · have t : (x == 0) = true := by simpa using hx0
              clear hx0
              go_wp2_with fail
              go_ret2
              exact ⟨(size_bad (by simpa using t) HX.out hk9 (by omega) (.inl hk0)).symm ▸ rfl, rfl⟩
            · have t : (x == 0) = false := by simpa using hx0
              by_cases hk9' : k = 9
              · have t1 : ((k : Int) == 9) = true := by rw [beq_iff_eq]; omega
                by_cases hx1 : x = 1
                · have t2 : (x != 1) = false := by simpa using hx1
                  have t3 : (x == 1) = true := by simpa using hx1
                  have HX1 := hide hx1
                  clear hx1 hx0
                  have HK := hide hk9'
                  clear hk9'
                  go_wp2_with fail
                  go_ret2
                  exact ⟨(size_good HX.out hk9 (by omega) (by have := HX1.out; omega)).symm ▸ rfl, rfl⟩
                · have t2 : (x != 1) = true := by simpa using hx1
                  have t3 : (x == 1) = false := by simpa using hx1
                  have HX1 := hide hx1
                  clear hx1 hx0
                  have HK := hide hk9'
                  clear hk9'
                  go_wp2_with fail
                  go_ret2
                  exact ⟨(size_bad2 HX.out HK.out HX1.out (by omega)).symm ▸ rfl, rfl⟩
              · have t1 : ((k : Int) == 9) = false := by rw [beq_eq_false_iff_ne]; omega
                clear hx0
                go_wp2_with fail
                go_ret2
                exact ⟨(size_good HX.out hk9 (by omega) (by have : x ≠ 0 := by simpa using t
                                                            omega)).symm ▸ rfl, rfl⟩
          · by_cases hk9' : k = 9
            · omega
            · have t1 : ((k : Int) == 9) = false := by rw [beq_eq_false_iff_ne]; omega
              go_wp2_with fail
              go_ret2
              exact ⟨(size_good HX.out hk9 (by omega) (by omega)).symm ▸ rfl, rfl⟩
      · have t10 : ((k : Int) == 10) = true := by rw [beq_iff_eq]; omega
        have HE := hide (size_ten (l := l) (by have := HX.out.2; omega))
        go_wp2_with fail
        go_ret2
        exact ⟨HE.out.symm ▸ rfl, rfl⟩
    · obtain rfl : k = l.length := by omega
      rcases size_end hk10 hlead with ⟨h10, he⟩ | ⟨h10, he⟩
      · have t10 : ((l.length : Int) == 10) = true := by rw [beq_iff_eq]; omega
        have HE := hide he
        clear he h10
        go_wp2_with fail
        go_ret2
        exact ⟨HE.out.symm ▸ rfl, rfl⟩
      · have t10 : ((l.length : Int) == 10) = false := by rw [beq_eq_false_iff_ne]; omega
        have HE := hide he
        clear he
        go_wp2_with fail
        go_ret2
        exact ⟨HE.out.symm ▸ rfl, rfl⟩
end Go.Proofs.Ytckpjeheodbfaab

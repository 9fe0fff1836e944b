import Derived.Test.YtckpjeheodbfaabApp
import Derived.Test.YtckpjeheodbfaabBlock
import Derived.Test.YtckpjeheodbfaabRMath
namespace Go.Proofs.Ytckpjeheodbfaab
open Go.RowKit

theorem ret_ii {k q : IntKind} {a b c d : Int} (h : a = b) (g : c = d) : Ending.returned (.tuple #[.int k a, .int q c]) = .returned (.tuple #[.int k b, .int q d]) := by rw [h, g]

/-- What the test of one byte says of the size. -/
theorem size_good {l : List Int} {k : Nat} {x : Int} (h : l[k]? = some x ∧ k ≤ lead 10 l) (hk : k < 10) (hx : x < 128) (hb : ¬ ((0 < k ∧ x = 0) ∨ (k = 9 ∧ x ≠ 1))) : dsize l = (k + 1, 0) := by
  have e := lead_stop 10 l k x h.2 h.1 hx
  rw [dsize_ok (x := x) (by omega) (by rw [e]; exact h.1) (by rw [e]; exact hb), e]
theorem size_bad {l : List Int} {k : Nat} {x : Int} (h0 : x = 0) (h : l[k]? = some x ∧ k ≤ lead 10 l) (hk : k < 10) (hx : x < 128) (hb : 0 < k ∨ False) : dsize l = (0, 3) := by
  have e := lead_stop 10 l k x h.2 h.1 hx
  exact dsize_bad (x := x) (by omega) (by rw [e]; exact h.1) (.inl ⟨by rw [e]; rcases hb with h | h; exact h; exact h.elim, h0⟩)
theorem size_bad2 {l : List Int} {k : Nat} {x : Int} (h : l[k]? = some x ∧ k ≤ lead 10 l) (hk : k = 9) (hx1 : x ≠ 1) (hx : x < 128) : dsize l = (0, 3) := by
  have e := lead_stop 10 l k x h.2 h.1 hx
  exact dsize_bad (x := x) (by omega) (by rw [e]; exact h.1) (.inr ⟨by rw [e]; exact hk, hx1⟩)
theorem size_ten {l : List Int} (h : 10 ≤ lead 10 l) : dsize l = (0, 3) := dsize_ten (by have := lead_le 10 l; omega)
theorem size_end {l : List Int} (hl : l.length ≤ 10) (h : l.length ≤ lead 10 l) : (l.length = 10 ∧ dsize l = (0, 3)) ∨ (l.length < 10 ∧ dsize l = (0, 4)) := by
  have := lead_le 10 l
  by_cases h10 : l.length = 10
  · exact .inl ⟨h10, dsize_ten (by omega)⟩
  · exact .inr ⟨by omega, dsize_short (by omega) (by omega)⟩

/-- The size of the integer at the start. -/
theorem size_any (v : Value) (l : List Int) (w : World) (hv : Rd w .u8 v l) :
    Calls Try.prog 45 #[v] w fun e w' => e = .returned (.tuple #[.int .i64 (dsize l).1, .int .i64 (dsize l).2]) ∧ w = w' := by
  obtain ⟨A, c, rfl, hc, hm, hr⟩ := hv
  have hl9 : l.length ≤ 9223372036854775807 := by unfold maxLen at hm; omega
  have hc9 : c ≤ 9223372036854775807 := by unfold maxLen at hm; omega
  by_cases h : 10 < l.length
  · have hN := hide h
    go_enter Try.func45, Try.ntmps45
    go_wp2_with fail
    go_loop [12] (fun i => ∃ k : Nat, k ≤ 10 ∧ i = .int .i64 k ∧ k ≤ lead 10 l) (fun i => 10 - (intOf i).toNat)
    case atStart => exact ⟨0, Nat.zero_le _, rfl, Nat.zero_le _⟩
    case round =>
      obtain ⟨k, hk, rfl, hlead⟩ := hrel
      by_cases hlt : k < 10
      · obtain ⟨b, off, rfl, _, hcell⟩ := hr (by omega)
        obtain ⟨x, hx⟩ : ∃ x, l[k]? = some x := ⟨_, List.getElem?_eq_getElem (by omega)⟩
        have c1 := hcell k x hx
        have HX := hide (And.intro hx hlead)
        have hk10 : k < 10 := hlt
        clear hx hlead hcell hr
        by_cases hx128 : 128 ≤ x
        · go_wp2_with fail
          go_round
          case rel => exact ⟨k + 1, by omega, by go_num, lead_more 10 l k x HX.out.2 hk10 HX.out.1 hx128⟩
          case measure => simp [intOf]; omega
        · by_cases hk0 : 0 < k
          · by_cases hx0 : x = 0
            · have t : (x == 0) = true := by simpa using hx0
              clear hx0
              go_wp2_with fail
              go_ret2
              exact ⟨(size_bad (by simpa using t) HX.out hk10 (by omega) (.inl hk0)).symm ▸ rfl, rfl⟩
            · have t : (x == 0) = false := by simpa using hx0
              by_cases hk9 : k = 9
              · have t1 : ((k : Int) == 9) = true := by rw [beq_iff_eq]; omega
                by_cases hx1 : x = 1
                · have t2 : (x != 1) = false := by simpa using hx1
                  have t3 : (x == 1) = true := by simpa using hx1
                  have HX1 := hide hx1
                  clear hx1 hx0
                  have HK := hide hk9
                  clear hk9
                  go_wp2_with fail
                  go_ret2
                  exact ⟨(size_good HX.out hk10 (by omega) (by have := HX1.out; omega)).symm ▸ rfl, rfl⟩
                · have t2 : (x != 1) = true := by simpa using hx1
                  have t3 : (x == 1) = false := by simpa using hx1
                  have HX1 := hide hx1
                  clear hx1 hx0
                  have HK := hide hk9
                  clear hk9
                  go_wp2_with fail
                  go_ret2
                  exact ⟨(size_bad2 HX.out HK.out HX1.out (by omega)).symm ▸ rfl, rfl⟩
              · have t1 : ((k : Int) == 9) = false := by rw [beq_eq_false_iff_ne]; omega
                clear hx0
                go_wp2_with fail
                go_ret2
                exact ⟨(size_good HX.out hk10 (by omega) (by have : x ≠ 0 := by simpa using t
                                                             omega)).symm ▸ rfl, rfl⟩
          · by_cases hk9 : k = 9
            · omega
            · have t1 : ((k : Int) == 9) = false := by rw [beq_eq_false_iff_ne]; omega
              go_wp2_with fail
              go_ret2
              exact ⟨(size_good HX.out hk10 (by omega) (by omega)).symm ▸ rfl, rfl⟩
      · obtain rfl : k = 10 := by omega
        have he := hide (size_ten hlead)
        go_wp2_with fail
        go_ret2
        exact ⟨he.out.symm ▸ rfl, rfl⟩
  · have h : l.length ≤ 10 := by omega
    have hN := hide h
    go_enter Try.func45, Try.ntmps45
    go_wp2_with fail
    go_loop [12] (fun i => ∃ k : Nat, k ≤ l.length ∧ i = .int .i64 k ∧ k ≤ lead 10 l) (fun i => l.length - (intOf i).toNat)
    case atStart => exact ⟨0, Nat.zero_le _, rfl, Nat.zero_le _⟩
    case round =>
      obtain ⟨k, hk, rfl, hlead⟩ := hrel
      by_cases hlt : k < l.length
      · obtain ⟨b, off, rfl, _, hcell⟩ := hr (by omega)
        obtain ⟨x, hx⟩ : ∃ x, l[k]? = some x := ⟨_, List.getElem?_eq_getElem (by omega)⟩
        have c1 := hcell k x hx
        have HX := hide (And.intro hx hlead)
        have hk10 : k < 10 := by omega
        clear hx hlead hcell hr
        by_cases hx128 : 128 ≤ x
        · go_wp2_with fail
          go_round
          case rel => exact ⟨k + 1, by omega, by go_num, lead_more 10 l k x HX.out.2 hk10 HX.out.1 hx128⟩
          case measure => simp [intOf]; omega
        · by_cases hk0 : 0 < k
          · by_cases hx0 : x = 0
            · have t : (x == 0) = true := by simpa using hx0
              clear hx0
              go_wp2_with fail
              go_ret2
              exact ⟨(size_bad (by simpa using t) HX.out hk10 (by omega) (.inl hk0)).symm ▸ rfl, rfl⟩
            · have t : (x == 0) = false := by simpa using hx0
              by_cases hk9 : k = 9
              · have t1 : ((k : Int) == 9) = true := by rw [beq_iff_eq]; omega
                by_cases hx1 : x = 1
                · have t2 : (x != 1) = false := by simpa using hx1
                  have t3 : (x == 1) = true := by simpa using hx1
                  have HX1 := hide hx1
                  clear hx1 hx0
                  have HK := hide hk9
                  clear hk9
                  go_wp2_with fail
                  go_ret2
                  exact ⟨(size_good HX.out hk10 (by omega) (by have := HX1.out; omega)).symm ▸ rfl, rfl⟩
                · have t2 : (x != 1) = true := by simpa using hx1
                  have t3 : (x == 1) = false := by simpa using hx1
                  have HX1 := hide hx1
                  clear hx1 hx0
                  have HK := hide hk9
                  clear hk9
                  go_wp2_with fail
                  go_ret2
                  exact ⟨(size_bad2 HX.out HK.out HX1.out (by omega)).symm ▸ rfl, rfl⟩
              · have t1 : ((k : Int) == 9) = false := by rw [beq_eq_false_iff_ne]; omega
                clear hx0
                go_wp2_with fail
                go_ret2
                exact ⟨(size_good HX.out hk10 (by omega) (by have : x ≠ 0 := by simpa using t
                                                             omega)).symm ▸ rfl, rfl⟩
          · by_cases hk9 : k = 9
            · omega
            · have t1 : ((k : Int) == 9) = false := by rw [beq_eq_false_iff_ne]; omega
              go_wp2_with fail
              go_ret2
              exact ⟨(size_good HX.out hk10 (by omega) (by omega)).symm ▸ rfl, rfl⟩
      · obtain rfl : k = l.length := by omega
        rcases size_end hN.out hlead with ⟨h10, he⟩ | ⟨h10, he⟩
        · have h10' : 10 ≤ l.length := by omega
          have HE := hide he
          clear he h10
          go_wp2_with fail
          go_ret2
          exact ⟨HE.out.symm ▸ rfl, rfl⟩
        · have HE := hide he
          clear he
          go_wp2_with fail
          go_ret2
          exact ⟨HE.out.symm ▸ rfl, rfl⟩

theorem fail_any (g : Nat) (e : Int) (x y : Value) (w : World) (c0 : w.cell? ⟨g, 0, none⟩ = some x) (c1 : w.cell? ⟨g, 1, none⟩ = some y) (f0 : w.frozen? ⟨g, 0, none⟩ = false) (f1 : w.frozen? ⟨g, 1, none⟩ = false) :
    Calls Try.prog 46 #[.pointer (some ⟨g, 0, none⟩), .int .i64 e] w fun en w' => en = .returned (.tuple #[]) ∧ (w.setCell ⟨g, 0, none⟩ (.slice none 0 0)).setCell ⟨g, 1, none⟩ (.int .i64 e) = w' := by
  go_enter Try.func46, Try.ntmps46
  go_wp2_with fail
  go_end0
  exact ⟨rfl, rfl⟩
theorem unzigzag_any (z : Nat) (w : World) (hz : InWord z) :
    Calls Try.prog 47 #[.int .u64 z] w fun en w' => en = .returned (.int .i64 (unzz z)) ∧ w = w' := by
  have hsg : IntKind.u64.signed = false := rfl
  have ha := and_one hz
  by_cases ho : z % 2 = 1
  · rw [ho] at ha
    have ha' : bits .and .u64 (z : Int) 1 = 1 := ha
    have HO := hide ho
    clear ho ha
    go_enter Try.func47, Try.ntmps47
    go_wp2_with fail
    go_ret
    exact ⟨ret_int (unzz_odd hz HO.out), rfl⟩
  · have ho' : z % 2 = 0 := by omega
    rw [ho'] at ha
    have ha' : bits .and .u64 (z : Int) 1 = 0 := ha
    have HO := hide ho'
    clear ho ha ho'
    go_enter Try.func47, Try.ntmps47
    go_wp2_with fail
    go_ret
    exact ⟨ret_int (unzz_even hz HO.out), rfl⟩
theorem take_any (g b off n c m : Nat) (w : World) (hmn : m ≤ n) (hnc : n ≤ c) (_hc9 : c ≤ 9223372036854775807) (c0 : w.cell? ⟨g, 0, none⟩ = some (.slice (some ⟨b, off, none⟩) n c)) (f0 : w.frozen? ⟨g, 0, none⟩ = false) :
    Calls Try.prog 43 #[.pointer (some ⟨g, 0, none⟩), .int .i64 m] w fun en w' => en = .returned (.slice (some ⟨b, off, none⟩) m c) ∧ ∃ A, (A = some ⟨b, off + m, none⟩ ∨ A = some ⟨b, off, none⟩ ∧ m = n) ∧ w.setCell ⟨g, 0, none⟩ (.slice A (n - m) (c - m)) = w' := by
  by_cases h : c = m
  · have HM := hide (show m = n by omega)
    subst h
    go_enter Try.func43, Try.ntmps43
    go_wp2_with fail
    go_ret
    exact ⟨rfl, _, .inr ⟨rfl, HM.out⟩, by rw [show n - c = 0 by have := HM.out; omega, Nat.sub_self]⟩
  · go_enter Try.func43, Try.ntmps43
    go_wp2_with fail
    go_ret
    exact ⟨rfl, _, .inl rfl, rfl⟩
end Go.Proofs.Ytckpjeheodbfaab

import Derived.Test.YtckpjeheodbfaabCur
import Derived.Test.YtckpjeheodbfaabState
namespace Go.Proofs.Ytckpjeheodbfaab
open Go.RowKit

/-- A reader in block g, with what is left and its error. -/
def RdrAt (w : World) (g : Nat) (B : Nat × Nat) (l : List Int) (e : Int) : Prop :=
  ∃ rv, Whole w g 48 #[rv, .int .i64 e, .pointer (some ⟨g, 0, none⟩)] ∧ Rd w .u8 rv l ∧ Apart rv g ∧ InB rv B

theorem ret_ib {k : IntKind} {a b : Int} {p q : Bool} (h : a = b) (g : p = q) : Ending.returned (.tuple #[.int k a, .bool p]) = .returned (.tuple #[.int k b, .bool q]) := by rw [h, g]
theorem readInt_err (g : Nat) (B : Nat × Nat) (l : List Int) (e : Int) (w : World) (h : RdrAt w g B l e) (he : e ≠ 0) :
    Calls Try.prog 35 #[.pointer (some ⟨g, 0, none⟩)] w fun en w' => en = .returned (.tuple #[.int .i64 0, .bool false]) ∧ w = w' := by
  obtain ⟨rv, hw, hr, ha, hib⟩ := h
  have c1 := hw.cell 1
  have t1 : (e != 0) = true := by simpa using he
  have t2 : (e == 0) = false := by simpa using he
  clear he hr ha hib
  go_enter Try.func35, Try.ntmps35
  go_wp2_with fail
  go_ret2
  exact ⟨rfl, rfl⟩
theorem readInt_bad (g : Nat) (B : Nat × Nat) (l : List Int) (w : World) (h : RdrAt w g B l 0) (hd : (dsize l).2 ≠ 0) :
    Calls Try.prog 35 #[.pointer (some ⟨g, 0, none⟩)] w fun en w' => en = .returned (.tuple #[.int .i64 0, .bool false]) ∧ RdrAt w' g B [] (dsize l).2 ∧ w.grownBy w' (some g) := by
  obtain ⟨rv, hw, hr, ha, hib⟩ := h
  have c0 := hw.cell 0
  have c1 := hw.cell 1
  have t1 : ((dsize l).2 != 0) = true := by simpa using hd
  have t2 : ((dsize l).2 == 0) = false := by simpa using hd
  have HW := hide hw
  clear hd ha hw hib
  have f0 := HW.out.free 0
  have f1 := HW.out.free 1
  go_enter Try.func35, Try.ntmps35
  go_wp2_with (first | (go_at_call 45; refine (size_any _ l _ hr).mono ?_; rintro en w' ⟨rfl, rfl⟩) | (go_at_call 46; refine (fail_any g _ _ _ _ c0 c1 f0 f1).mono ?_; rintro en w' ⟨rfl, rfl⟩))
  go_ret2
  refine ⟨rfl, ⟨_, ?_, Rd.nil, Apart.nil, InB.nil⟩, only_set (only_set (only_refl _ _) _ _) _ _⟩
  exact (HW.out.set 0 _).set 1 _
theorem readInt_good (g : Nat) (B : Nat × Nat) (l : List Int) (w : World) (h : RdrAt w g B l 0) (hl : Bytes l) (hd : (dsize l).2 = 0) :
    Calls Try.prog 35 #[.pointer (some ⟨g, 0, none⟩)] w fun en w' => en = .returned (.tuple #[.int .i64 (unzz (gval (l.take (dsize l).1))), .bool true]) ∧ RdrAt w' g B (l.drop (dsize l).1) 0 ∧ w.grownBy w' (some g) := by
  obtain ⟨rv, hw, hr, ha, hib⟩ := h
  obtain ⟨m1, m10, ml⟩ := dsize_pos l hd
  obtain ⟨A, c, rfl, hc, hm, hcell⟩ := id hr
  obtain ⟨b, off, rfl, hb, hcell⟩ := hcell (by omega)
  have hc9 : c ≤ 9223372036854775807 := by unfold maxLen at hm; omega
  have c0 := hw.cell 0
  have c1 := hw.cell 1
  have t1 : ((dsize l).2 != 0) = false := by simpa using hd
  have t2 : ((dsize l).2 == 0) = true := by simpa using hd
  have HD := hide hd
  have HW := hide hw
  have HA := hide ha
  have hf0 := hw.free 0
  obtain ⟨m, hmm⟩ : ∃ m : Nat, (dsize l).1 = m := ⟨_, rfl⟩
  have hsz : Calls Try.prog 45 #[.slice (some ⟨b, off, none⟩) l.length c] w fun e w' => e = .returned (.tuple #[.int .i64 m, .int .i64 0]) ∧ w = w' := by
    have := size_any _ l w hr
    rw [hmm, hd] at this
    exact this
  have HSZ := hide hsz
  rw [hmm] at m1 m10 ml ⊢
  have HM := hide hmm
  clear hd ha hw hsz hmm
  go_enter Try.func35, Try.ntmps35
  go_wp2_with fail
  refine HSZ.out.mono ?_
  rintro en w' ⟨rfl, rfl⟩
  go_wp2_with fail
  refine (take_any g b off _ c m w ml hc hc9 c0 hf0).mono ?_
  rintro en w1 ⟨rfl, A1, hA1, rfl⟩
  have hg1 := only_set (only_refl w g) 0 (.slice A1 (l.length - m) (c - m))
  have hr1 := hr.only HA.out hg1
  have hW1 := HW.out.set 0 (.slice A1 (l.length - m) (c - m))
  have hrd : Rd (w.setCell ⟨g, 0, none⟩ (.slice A1 (l.length - m) (c - m))) .u8 (.slice A1 (l.length - m) (c - m)) (l.drop m) :=
    hr1.back ml A1 (by rcases hA1 with h | ⟨_, h⟩; exact .inl h; exact .inr h)
  have hap : Apart (.slice A1 (l.length - m) (c - m)) g := by
    rintro a n' c' e
    injection e with e _ _
    have hne : b ≠ g := HA.out _ _ _ rfl
    rcases hA1 with h | ⟨h, _⟩ <;> rw [h] at e <;> injection e with e <;> subst e <;> exact hne
  have hbi : InB (.slice A1 (l.length - m) (c - m)) B := by
    rintro a n' c' e
    injection e with e _ _
    have hne := hib.blk
    rcases hA1 with h | ⟨h, _⟩ <;> rw [h] at e <;> injection e with e <;> subst e <;> exact ⟨_, _, rfl, hne⟩
  generalize w.setCell ⟨g, 0, none⟩ (.slice A1 (l.length - m) (c - m)) = w1 at *
  have HR := hide (show RdrAt w1 g B (l.drop m) 0 from ⟨_, hW1, hrd, hap, hbi⟩)
  obtain ⟨A', c', e1, _, _, hcell1⟩ := hr1
  injection e1 with e1 _ _
  subst e1
  obtain ⟨b', off', e1, _, hcell1⟩ := hcell1 (by omega)
  injection e1 with e1
  injection e1 with e1 e2
  subst e1 e2
  have HC := hide hcell1
  have HG := hide hg1
  clear hcell1 hrd hap hbi hib hW1 hg1 hcell hA1 c0 c1 hf0 HW HA HSZ hr t1 t2
  go_wp2_with fail
  go_loop [6, 31] (fun z i => ∃ k : Nat, k ≤ m ∧ i = .int .i64 k ∧ z = .int .u64 (gval (l.take k))) (fun _ i => m - (intOf i).toNat)
  case atStart => exact ⟨0, Nat.zero_le _, rfl, rfl⟩
  case round =>
    obtain ⟨k, hk, rfl, rfl⟩ := hrel
    by_cases hlt : k < m
    · obtain ⟨x, hx⟩ : ∃ x, l[k]? = some x := ⟨_, List.getElem?_eq_getElem (by omega)⟩
      have cx := HC.out k x hx
      have HX := hide hx
      clear hx
      have hw : InWord (gval (l.take (k + 1))) := by
        have h1 := gval_word HD.out
        rw [HM.out] at h1
        exact Nat.lt_of_le_of_lt (gval_mono l hlt) h1
      have HO := hide (or_group HX.out (hl x (List.mem_of_getElem? HX.out)) hw)
      clear hw
      go_wp2_with fail
      go_round
      case rel => exact ⟨k + 1, by omega, by go_num, by rw [HO.out]⟩
      case measure => simp [intOf]; omega
    · obtain rfl : k = m := by omega
      have hz : InWord (gval (l.take k)) := by have := gval_word HD.out; rwa [HM.out] at this
      go_wp2_with (go_at_call 47; refine (unzigzag_any _ _ hz).mono ?_; rintro en w' ⟨rfl, rfl⟩)
      go_ret2
      exact ⟨rfl, HR.out, HG.out⟩

/-- Reading an integer, whatever the state. -/
theorem readInt_any (g : Nat) (B : Nat × Nat) (l : List Int) (e : Int) (w : World) (h : RdrAt w g B l e) (hl : Bytes l) :
    Calls Try.prog 35 #[.pointer (some ⟨g, 0, none⟩)] w fun en w' => en = .returned (.tuple #[.int .i64 (rI l e).1, .bool (rI l e).2.1]) ∧ RdrAt w' g B (rI l e).2.2.1 (rI l e).2.2.2 ∧ w.grownBy w' (some g) := by
  by_cases he : e = 0
  · subst he
    by_cases hd : (dsize l).2 = 0
    · have e1 : rI l 0 = (unzz (gval (l.take (dsize l).1)), true, l.drop (dsize l).1, 0) := by unfold rI; rw [if_neg (by omega), if_neg (by omega)]
      rw [e1]; exact readInt_good g B l w h hl hd
    · have e1 : rI l 0 = (0, false, [], (dsize l).2) := by unfold rI; rw [if_neg (by omega), if_pos hd]
      rw [e1]; exact readInt_bad g B l w h hd
  · have e1 : rI l e = (0, false, l, e) := by unfold rI; rw [if_pos he]
    rw [e1]
    exact (readInt_err g B l e w h he).mono fun en w' ⟨h1, h2⟩ => by subst h2; exact ⟨h1, h, only_refl _ _⟩
end Go.Proofs.Ytckpjeheodbfaab

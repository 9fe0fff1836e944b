import Derived.Test.YtckpjeheodbfaabRCur
namespace Go.Proofs.Ytckpjeheodbfaab
open Go.RowKit

theorem rint_err (g : Nat) (B : Nat × Nat) (l : List Int) (e : Int) (w : World) (h : RefAt w g B l e) (he : e ≠ 0) :
    Calls Try.prog 20 #[.pointer (some ⟨g, 0, none⟩)] w fun en w' => en = .returned (.int .i64 0) ∧ w = w' := by
  have HB := hide (bad_yes g B l e w h he)
  clear h he
  go_enter Try.func20, Try.ntmps20
  go_wp2_with (go_at_call 36; refine HB.out.mono ?_; rintro en w' ⟨rfl, rfl⟩)
  go_ret
  exact ⟨rfl, rfl⟩
theorem rint_bad (g : Nat) (B : Nat × Nat) (l : List Int) (w : World) (h : RefAt w g B l 0) (hd : (dsize l).2 ≠ 0) :
    Calls Try.prog 20 #[.pointer (some ⟨g, 0, none⟩)] w fun en w' => en = .returned (.int .i64 0) ∧ RefAt w' g B [] (dsize l).2 ∧ w.grownBy w' (some g) := by
  have HB := hide (bad_no g B l w h)
  have HF := hide (fail_ref g B l 0 (dsize l).2 w h)
  obtain ⟨rv, hw, hr, _⟩ := h
  have c1 := hw.cell 1
  have t1 : ((dsize l).2 != 0) = true := by simpa using hd
  have t2 : ((dsize l).2 == 0) = false := by simpa using hd
  clear hd hw
  go_enter Try.func20, Try.ntmps20
  go_wp2_with (first | (go_at_call 36; refine HB.out.mono ?_; rintro en w' ⟨rfl, rfl⟩) | (go_at_call 37; refine (rsize_any _ l _ hr).mono ?_; rintro en w' ⟨rfl, rfl⟩) | (go_at_call 38; refine HF.out.mono ?_; rintro en w' ⟨rfl, hR, hg⟩; have HR := hide hR; clear hR))
  go_ret
  exact ⟨rfl, HR.out, hg⟩
theorem rint_good (g : Nat) (B : Nat × Nat) (l : List Int) (w : World) (h : RefAt w g B l 0) (hl : Bytes l) (hd : (dsize l).2 = 0) :
    Calls Try.prog 20 #[.pointer (some ⟨g, 0, none⟩)] w fun en w' => en = .returned (.int .i64 (unzz (gval (l.take (dsize l).1)))) ∧ RefAt w' g B (l.drop (dsize l).1) 0 ∧ w.grownBy w' (some g) := by
  have HB := hide (bad_no g B l w h)
  obtain ⟨rv, hw, hr, ha, hib⟩ := h
  obtain ⟨m1, m10, ml⟩ := dsize_pos l hd
  obtain ⟨A, c, rfl, hc, hm, hcell⟩ := id hr
  obtain ⟨b, off, rfl, hb, hcell⟩ := hcell (by omega)
  have hc9 : c ≤ 9223372036854775807 := by unfold maxLen at hm; omega
  have c1 := hw.cell 1
  have f1 := hw.free 1
  have hwd := hide (gval_word hd)
  obtain ⟨m, hmm⟩ : ∃ m : Nat, (dsize l).1 = m := ⟨_, rfl⟩
  have hsz : Calls Try.prog 37 #[.slice (some ⟨b, off, none⟩) l.length c] w fun e w' => e = .returned (.tuple #[.int .i64 m, .int .i64 0]) ∧ w = w' := by
    have := rsize_any _ l w hr
    rw [hmm, hd] at this
    exact this
  have HSZ := hide hsz
  rw [hmm] at m1 m10 ml hwd ⊢
  have HC := hide hcell
  have HW := hide hw
  have HA := hide ha
  have HI := hide hib
  have HR := hide hr
  clear hd ha hw hsz hmm hcell hib hr
  have part : ∀ A', (A' = some ⟨b, off + m, none⟩ ∨ A' = some ⟨b, off, none⟩ ∧ m = l.length) →
      RefAt (w.setCell ⟨g, 1, none⟩ (.slice A' (l.length - m) (c - m))) g B (l.drop m) 0 ∧ w.grownBy (w.setCell ⟨g, 1, none⟩ (.slice A' (l.length - m) (c - m))) (some g) := by
    intro A' hA'
    have hg1 := only_set (only_refl w g) 1 (.slice A' (l.length - m) (c - m))
    have hr1 := HR.out.only HA.out hg1
    refine ⟨⟨_, HW.out.set 1 _, hr1.back ml A' (by rcases hA' with h | ⟨_, h⟩; exact .inl h; exact .inr h), ?_, ?_⟩, hg1⟩
    · have hne : b ≠ g := HA.out _ _ _ rfl
      rintro a n' c' e
      injection e with e _ _
      rcases hA' with h | ⟨h, _⟩ <;> rw [h] at e <;> injection e with e <;> subst e <;> exact hne
    · have hbB := HI.out.blk
      rintro a n' c' e
      injection e with e _ _
      rcases hA' with h | ⟨h, _⟩ <;> rw [h] at e <;> injection e with e <;> subst e <;> exact ⟨_, _, rfl, hbB⟩
  have HP := hide part
  clear part
  go_enter Try.func20, Try.ntmps20
  go_wp2_with (first | (go_at_call 36; refine HB.out.mono ?_; rintro en w' ⟨rfl, rfl⟩) | (go_at_call 37; refine HSZ.out.mono ?_; rintro en w' ⟨rfl, rfl⟩))
  go_loop [5, 6] (fun z i => ∃ j : Nat, j ≤ m ∧ i = .int .i64 ((j : Int) - 1) ∧ z = .int .u64 (gval ((l.take m).drop j))) (fun _ i => (intOf i + 1).toNat)
  case atStart => exact ⟨m, Nat.le_refl _, rfl, by rw [List.drop_eq_nil_of_le (by rw [List.length_take]; omega)]; rfl⟩
  case round =>
    obtain ⟨j, hj, rfl, rfl⟩ := hrel
    by_cases hlt : 0 < j
    · obtain ⟨i, rfl⟩ : ∃ i, j = i + 1 := ⟨j - 1, by omega⟩
      obtain ⟨x, hx⟩ : ∃ x, l[i]? = some x := ⟨_, List.getElem?_eq_getElem (by omega)⟩
      have cx := HC.out i x hx
      have HX := hide (mul_group hx (hl x (List.mem_of_getElem? hx)) (show i < m by omega) hwd.out)
      have ei : ((i + 1 : Nat) : Int) - 1 = (i : Int) := by omega
      rw [ei]
      clear hx ei
      go_wp2_with fail
      go_round
      case rel => exact ⟨i, by omega, rfl, by rw [HX.out]⟩
      case measure => simp [intOf]
    · obtain rfl : j = 0 := by omega
      by_cases hcm : c = m
      · have HM := hide (show m = l.length by omega)
        subst hcm
        go_wp2_with (go_at_call 39; refine (runzigzag_any _ _ hwd.out).mono ?_; rintro en w' ⟨rfl, rfl⟩)
        go_ret
        have hz : l.length - c = 0 := by have := HM.out; omega
        have hp := HP.out _ (.inr ⟨rfl, HM.out⟩)
        rw [hz, Nat.sub_self] at hp
        exact ⟨rfl, hp⟩
      · go_wp2_with (go_at_call 39; refine (runzigzag_any _ _ hwd.out).mono ?_; rintro en w' ⟨rfl, rfl⟩)
        go_ret
        exact ⟨rfl, HP.out _ (.inl rfl)⟩

/-- The document's Int, whatever the state. -/
theorem rint_any (g : Nat) (B : Nat × Nat) (l : List Int) (e : Int) (w : World) (h : RefAt w g B l e) (hl : Bytes l) :
    Calls Try.prog 20 #[.pointer (some ⟨g, 0, none⟩)] w fun en w' => en = .returned (.int .i64 (rI l e).1) ∧ RefAt w' g B (rI l e).2.2.1 (rI l e).2.2.2 ∧ w.grownBy w' (some g) := by
  by_cases he : e = 0
  · subst he
    by_cases hd : (dsize l).2 = 0
    · have e1 : rI l 0 = (unzz (gval (l.take (dsize l).1)), true, l.drop (dsize l).1, 0) := by unfold rI; rw [if_neg (by omega), if_neg (by omega)]
      rw [e1]; exact rint_good g B l w h hl hd
    · have e1 : rI l 0 = (0, false, [], (dsize l).2) := by unfold rI; rw [if_neg (by omega), if_pos hd]
      rw [e1]; exact rint_bad g B l w h hd
  · have e1 : rI l e = (0, false, l, e) := by unfold rI; rw [if_pos he]
    rw [e1]
    exact (rint_err g B l e w h he).mono fun en w' ⟨h1, h2⟩ => by subst h2; exact ⟨h1, h, only_refl _ _⟩

/-- The document's length. -/
theorem rlen_any (g : Nat) (B : Nat × Nat) (l : List Int) (e : Int) (w : World) (h : RefAt w g B l e) (hl : Bytes l) :
    Calls Try.prog 42 #[.pointer (some ⟨g, 0, none⟩)] w fun en w' => en = .returned (.int .i64 (rL l e).1) ∧ RefAt w' g B (rL l e).2.2.1 (rL l e).2.2.2 ∧ w.grownBy w' (some g) := by
  have hr := hide (rint_any g B l e w h hl)
  have hiff := hide (rI_iff l e)
  have hdef : Hid (rL l e = if (rI l e).2.1 = false then (0, false, (rI l e).2.2.1, (rI l e).2.2.2)
    else if (rI l e).1 < 0 then (0, false, [], 3) else if ((rI l e).2.2.1.length : Int) < (rI l e).1 then (0, false, [], 4) else ((rI l e).1, true, (rI l e).2.2.1, 0)) := rfl
  generalize rI l e = q at hr hiff hdef
  obtain ⟨n, ok, l1, e1⟩ := q
  dsimp only at hr hiff hdef
  cases ok with
  | true =>
    obtain rfl : e1 = 0 := hiff.out.1 rfl
    by_cases h2 : n < 0
    · have HD := hide (show rL l e = (0, false, [], 3) by rw [hdef.out, if_neg (by simp), if_pos h2])
      clear hdef hiff
      rw [HD.out]
      go_enter Try.func42, Try.ntmps42
      go_wp2_with fail
      refine hr.out.mono ?_
      rintro en w1 ⟨rfl, hR, hg⟩
      have HR := hide hR
      clear hR
      go_wp2_with (first | (go_at_call 36; refine (bad_no g B l1 _ HR.out).mono ?_; rintro en w' ⟨rfl, rfl⟩) | (go_at_call 38; refine (fail_ref g B l1 0 _ _ HR.out).mono ?_; rintro en w' ⟨rfl, hR2, hg2⟩; have HR2 := hide hR2; clear hR2))
      go_ret
      exact ⟨rfl, HR2.out, only_trans hg hg2⟩
    · by_cases h3 : (l1.length : Int) < n
      · have HD := hide (show rL l e = (0, false, [], 4) by rw [hdef.out, if_neg (by simp), if_neg h2, if_pos h3])
        clear hdef hiff
        rw [HD.out]
        go_enter Try.func42, Try.ntmps42
        go_wp2_with fail
        refine hr.out.mono ?_
        rintro en w1 ⟨rfl, hR, hg⟩
        have HR := hide hR
        obtain ⟨rv, hW, ⟨A, c, rfl, _, _, _⟩, _⟩ := hR
        have c1 := hW.cell 1
        clear hW
        go_wp2_with (first | (go_at_call 36; refine (bad_no g B l1 _ HR.out).mono ?_; rintro en w' ⟨rfl, rfl⟩) | (go_at_call 38; refine (fail_ref g B l1 0 _ _ HR.out).mono ?_; rintro en w' ⟨rfl, hR2, hg2⟩; have HR2 := hide hR2; clear hR2))
        go_ret
        exact ⟨rfl, HR2.out, only_trans hg hg2⟩
      · have HD := hide (show rL l e = (n, true, l1, 0) by rw [hdef.out, if_neg (by simp), if_neg h2, if_neg h3])
        clear hdef hiff
        rw [HD.out]
        go_enter Try.func42, Try.ntmps42
        go_wp2_with fail
        refine hr.out.mono ?_
        rintro en w1 ⟨rfl, hR, hg⟩
        have HR := hide hR
        obtain ⟨rv, hW, ⟨A, c, rfl, _, _, _⟩, _⟩ := hR
        have c1 := hW.cell 1
        clear hW
        go_wp2_with (go_at_call 36; refine (bad_no g B l1 _ HR.out).mono ?_; rintro en w' ⟨rfl, rfl⟩)
        go_ret
        exact ⟨rfl, HR.out, hg⟩
  | false =>
    have HD := hide (show rL l e = (0, false, l1, e1) by rw [hdef.out, if_pos rfl])
    have hne : e1 ≠ 0 := fun e0 => by have := hiff.out.2 e0; cases this
    have HNE := hide hne
    clear hdef hiff hne
    rw [HD.out]
    go_enter Try.func42, Try.ntmps42
    go_wp2_with fail
    refine hr.out.mono ?_
    rintro en w1 ⟨rfl, hR, hg⟩
    have HR := hide hR
    clear hR
    go_wp2_with (go_at_call 36; refine (bad_yes g B l1 e1 _ HR.out HNE.out).mono ?_; rintro en w' ⟨rfl, rfl⟩)
    go_ret
    exact ⟨rfl, HR.out, hg⟩
end Go.Proofs.Ytckpjeheodbfaab

import Derived.Test.YtckpjeheodbfaabRLists
namespace Go.Proofs.Ytckpjeheodbfaab
open Go.RowKit

/-- The document's String. -/
theorem rstr_any (g : Nat) (B : Nat × Nat) (l : List Int) (e : Int) (w : World) (h : RefAt w g B l e) (hl : Bytes l) :
    Calls Try.prog 25 #[.pointer (some ⟨g, 0, none⟩)] w fun en w' => ∃ s, en = .returned (.string s) ∧ strInts s = (rS l e).1 ∧ RefAt w' g B (rS l e).2.1 (rS l e).2.2 ∧ w.grownBy w' (some g) := by
  have HL := hide (rlen_any g B l e w h hl)
  have hlb := hide (rL_bytes (e := e) hl)
  have hdef : Hid (rS l e = if (rL l e).2.1 = false then ([], (rL l e).2.2.1, (rL l e).2.2.2)
    else ((rL l e).2.2.1.take (rL l e).1.toNat, (rL l e).2.2.1.drop (rL l e).1.toNat, 0)) := rfl
  have hok := hide (rL_ok (l := l) (e := e))
  have hiff := hide (rL_iff l e)
  clear h
  generalize rL l e = q at HL hlb hdef hok hiff
  obtain ⟨n, ok, l1, e1⟩ := q
  dsimp only at HL hlb hdef hok hiff
  cases ok with
  | false =>
    have HD := hide (show rS l e = ([], l1, e1) by rw [hdef.out, if_pos rfl])
    have hne : e1 ≠ 0 := fun e0 => by have := hiff.out.2 e0; cases this
    have HNE := hide hne
    clear hok hdef hiff hne
    go_enter Try.func25, Try.ntmps25
    go_wp2_with fail
    refine HL.out.mono ?_
    rintro en w1 ⟨rfl, hR, hg⟩
    have HR := hide hR
    clear hR
    go_wp2_with (go_at_call 36; refine (bad_yes g B l1 e1 _ HR.out HNE.out).mono ?_; rintro en w' ⟨rfl, rfl⟩)
    go_ret
    rw [HD.out]
    exact ⟨_, rfl, rfl, HR.out, hg⟩
  | true =>
    obtain ⟨h0, h1, rfl⟩ := hok.out rfl
    obtain ⟨k, rfl⟩ : ∃ k : Nat, n = k := ⟨n.toNat, by omega⟩
    have HD := hide (show rS l e = (l1.take k, l1.drop k, 0) by rw [hdef.out, if_neg (by simp)]; rfl)
    have hkl : k ≤ l1.length := by omega
    clear hok hdef hiff h1 h0
    go_enter Try.func25, Try.ntmps25
    go_wp2_with fail
    refine HL.out.mono ?_
    rintro en w1 ⟨rfl, hR, hg⟩
    have HR := hide hR
    obtain ⟨rv, hw, hr, ha, hi⟩ := hR
    obtain ⟨A, c, rfl, hc, hm, hcell⟩ := id hr
    have hc9 : c ≤ 9223372036854775807 := by unfold maxLen at hm; omega
    have c1 := hw.cell 1
    have f1 := hw.free 1
    rcases A with _ | ad
    · have hl0 : l1.length = 0 := by
        rcases Nat.eq_zero_or_pos l1.length with h | h
        · exact h
        · obtain ⟨_, _, e, _⟩ := hcell h; cases e
      obtain rfl : l1 = [] := List.eq_nil_of_length_eq_zero hl0
      obtain rfl : k = 0 := by simpa using hkl
      have hrun := run_convert_bytes_nil (P := Try.prog) w1 22 5 Try.underlying22 Try.underlying5 0 c _ Try.underlying9
      have hap : Apart (.slice none 0 c) g := by
        rintro a n c e
        cases e
      have hin : InB (.slice none 0 c) B := by
        rintro a n c e
        cases e
      have HO := hide (show RefAt (w1.setCell ⟨g, 1, none⟩ (.slice none 0 c)) g B [] 0 from ⟨_, hw.set 1 _, ⟨none, c, rfl, Nat.zero_le _, hm, fun hn => absurd hn (by simp)⟩, hap, hin⟩)
      clear hw hr ha hi hcell hap hin hl0
      go_wp2_with (go_at_call 36; refine (bad_no g B [] _ HR.out).mono ?_; rintro en w' ⟨rfl, rfl⟩)
      go_ret
      rw [HD.out]
      exact ⟨_, rfl, rfl, HO.out, only_set hg _ _⟩
    · obtain ⟨b, off, rfl, hbB⟩ := hi _ _ _ rfl
      have hne : b ≠ g := ha _ _ _ rfl
      have hrun : (convert 22 9 (.slice (some ⟨b, off, none⟩) k c)).run Try.prog w1 = .ok (.string (strOfNums (l1.take k))) w1 := by
        have hlen : (l1.take k).length = k := by rw [List.length_take]; omega
        refine run_convert_bytes_arg (P := Try.prog) _ 22 5 Try.underlying22 Try.underlying5 b off k c (l1.take k) hlen ?_ _ Try.underlying9
        intro i hik
        obtain ⟨b', off', e', _, hx⟩ := hcell (by omega)
        injection e' with e'
        injection e' with e1 e2
        subst e1 e2
        have hlt : i < (l1.take k).length := by omega
        rw [hx i (l1[i]'(by omega)) (List.getElem?_eq_getElem (by omega))]
        simp [List.getD, List.getElem?_eq_getElem hlt]
      have HS := hide (strInts_of _ (hlb.out.take k))
      have part : ∀ A', (A' = some ⟨b, off + k, none⟩ ∨ A' = some ⟨b, off, none⟩ ∧ k = l1.length) →
          RefAt (w1.setCell ⟨g, 1, none⟩ (.slice A' (l1.length - k) (c - k))) g B (l1.drop k) 0 := by
        intro A' hA'
        have hg1 := only_set (only_refl w1 g) 1 (.slice A' (l1.length - k) (c - k))
        have hr1 := hr.only ha hg1
        refine ⟨_, hw.set 1 _, hr1.back hkl A' (by rcases hA' with h | ⟨_, h⟩; exact .inl h; exact .inr h), ?_, ?_⟩
        · rintro a n' c' e
          injection e with e _ _
          rcases hA' with h | ⟨h, _⟩ <;> rw [h] at e <;> injection e with e <;> subst e <;> exact hne
        · rintro a n' c' e
          injection e with e _ _
          rcases hA' with h | ⟨h, _⟩ <;> rw [h] at e <;> injection e with e <;> subst e <;> exact ⟨_, _, rfl, hbB⟩
      have HP := hide part
      clear part hw hr ha hi hcell hne hbB
      by_cases hcm : c = k
      · have HM := hide (show k = l1.length by omega)
        subst hcm
        go_wp2_with (go_at_call 36; refine (bad_no g B l1 _ HR.out).mono ?_; rintro en w' ⟨rfl, rfl⟩)
        go_ret
        rw [HD.out]
        have hz : l1.length - c = 0 := by have := HM.out; omega
        have hp := HP.out _ (.inr ⟨rfl, HM.out⟩)
        rw [hz, Nat.sub_self] at hp
        exact ⟨_, rfl, HS.out, hp, only_set hg _ _⟩
      · go_wp2_with (go_at_call 36; refine (bad_no g B l1 _ HR.out).mono ?_; rintro en w' ⟨rfl, rfl⟩)
        go_ret
        rw [HD.out]
        exact ⟨_, rfl, HS.out, HP.out _ (.inl rfl), only_set hg _ _⟩
end Go.Proofs.Ytckpjeheodbfaab

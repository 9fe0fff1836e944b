/-
  Combining that has no effect, and Equal of sets that were not made: layer 3 (bitset).
-/
import Derived.Test.YtbnikoomgeaboaaDoorNone
namespace Go.Proofs.YtbnikoomgeaboaaDoor
open Go.RowKit

theorem IsSet.frm {w w' : World} {v : Value} {n : Nat} (h : IsSet w v n) (hf : Frm w w' []) : IsSet w' v n := by
  obtain ⟨B, ws, rfl, h⟩ := h
  exact ⟨B, ws, rfl, h.frm hf (by simp) (by simp)⟩

theorem IsSet.ne {w : World} {s o : Value} {n : Nat} (h : IsSet w s n) (k : NoSet w o) : s ≠ o := by
  obtain ⟨B, ws, rfl, h⟩ := h
  rcases k with rfl | ⟨Z, rfl, _, hc⟩
  · intro e; cases e
  · intro e
    cases e
    rw [h.2.1.cell 2] at hc
    cases hc

theorem comb_no2 (w : World) (s o f : Value) (n : Nat) (h : IsSet w s n) (k : NoSet w o) :
    Calls Tryd.prog 36 #[s, o, f] w fun en w' => en = .returned (.bool false) ∧ Frm w w' [] := by
  obtain ⟨c, hcs, hco⟩ : ∃ c : Value → Bool, c s = true ∧ c o = false := by
    classical exact ⟨fun v => decide (v = s), by simp, by simp [(h.ne k).symm]⟩
  have HV : Hid (∀ (v : Value) (W : World), v = s ∨ v = o → Frm w W [] → Calls Tryd.prog 41 #[v] W fun en w' => en = .returned (.bool (c v)) ∧ W = w') := hide (fun v W e f => by
    rcases e with rfl | rfl
    · rw [hcs]; exact (h.frm f).valid
    · rw [hco]; exact valid_no W _ (k.frm f))
  clear h k
  go_enter Tryd.func36, Tryd.ntmps36
  go_wp2_with fail
  go_quiet (first | (go_at_call 41; exact Calls.quiet_of_same ((HV.out _ _ (by first | exact .inl rfl | exact .inr rfl) ((Frm.refl _ _).drewN _)).mono fun _ _ ⟨a, b⟩ => ⟨a, b.symm⟩)))
  go_wp2_with fail
  go_ret
  exact ⟨rfl, (Frm.refl w []).drewN _⟩

theorem comb_caps (w : World) (s o f : Value) (n m : Nat) (h : IsSet w s n) (k : IsSet w o m) (hne : n ≠ m) :
    Calls Tryd.prog 36 #[s, o, f] w fun en w' => en = .returned (.bool false) ∧ Frm w w' [] := by
  have HV : Hid (∀ (v : Value) (W : World), v = s ∨ v = o → Frm w W [] → Calls Tryd.prog 41 #[v] W fun en w' => en = .returned (.bool true) ∧ W = w') := hide (fun v W e f => by
    rcases e with rfl | rfl
    · exact (h.frm f).valid
    · exact (k.frm f).valid)
  obtain ⟨B, ws, rfl, h⟩ := h
  obtain ⟨C, vs, rfl, k⟩ := k
  have h0 := h.2.1.cell 0
  have k0 := k.2.1.cell 0
  have hn := h.2.2.2
  have hm := k.2.2.2
  have tne : ((n : Int) != (m : Int)) = true := by rw [bne_iff_ne]; omega
  clear h k
  go_enter Tryd.func36, Tryd.ntmps36
  go_wp2_with fail
  have h0d : w.drew.cell? ⟨B + 1, 0, none⟩ = some (.int .i64 n) := h0
  have k0d : w.drew.cell? ⟨C + 1, 0, none⟩ = some (.int .i64 m) := k0
  go_quiet (first | (go_at_call 41; exact Calls.quiet_of_same ((HV.out _ _ (by first | exact .inl rfl | exact .inr rfl) ((Frm.refl _ _).drewN _)).mono fun _ _ ⟨a, b⟩ => ⟨a, b.symm⟩)))
  go_wp2_with fail
  go_ret
  exact ⟨rfl, (Frm.refl w []).drewN _⟩

/-- Where combining has no effect. -/
def Miss (w : World) (s o : Value) : Prop := NoSet w s ∨ (∃ n, IsSet w s n ∧ NoSet w o) ∨ (∃ n m, IsSet w s n ∧ IsSet w o m ∧ n ≠ m)
theorem comb_miss (w : World) (s o f : Value) (h : Miss w s o) :
    Calls Tryd.prog 36 #[s, o, f] w fun en w' => en = .returned (.bool false) ∧ Frm w w' [] := by
  rcases h with h | ⟨n, h, k⟩ | ⟨n, m, h, k, hne⟩
  · exact comb_no w s o f h
  · exact comb_no2 w s o f n h k
  · exact comb_caps w s o f n m h k hne
theorem union_miss (w : World) (s o : Value) (h : Miss w s o) :
    Calls Tryd.prog 18 #[s, o] w fun en w' => en = .returned (.bool false) ∧ Frm w w' [] := by
  have HC := hide (comb_miss w s o (.func (.func 37) #[] #[]) h)
  go_enter Tryd.func18, Tryd.ntmps18
  go_wp2_with fail
  refine HC.out.mono ?_
  rintro en w' ⟨rfl, h2⟩
  go_wp2_with fail
  go_ret
  exact ⟨rfl, h2⟩
theorem sub_miss (w : World) (s o : Value) (h : Miss w s o) :
    Calls Tryd.prog 20 #[s, o] w fun en w' => en = .returned (.bool false) ∧ Frm w w' [] := by
  have HC := hide (comb_miss w s o (.func (.func 39) #[] #[]) h)
  go_enter Tryd.func20, Tryd.ntmps20
  go_wp2_with fail
  refine HC.out.mono ?_
  rintro en w' ⟨rfl, h2⟩
  go_wp2_with fail
  go_ret
  exact ⟨rfl, h2⟩
theorem and_miss (w : World) (s o : Value) (h : Miss w s o) :
    Calls Tryd.prog 22 #[s, o] w fun en w' => en = .returned (.bool false) ∧ Frm w w' [] := by
  have HC := hide (comb_miss w s o (.func (.func 40) #[] #[]) h)
  go_enter Tryd.func22, Tryd.ntmps22
  go_wp2_with fail
  refine HC.out.mono ?_
  rintro en w' ⟨rfl, h2⟩
  go_wp2_with fail
  go_ret
  exact ⟨rfl, h2⟩

/-- Equal where one of the two was not made. -/
theorem equal_no (w : World) (s o : Value) (h : NoSet w s) (k : NoSet w o) :
    Calls Tryd.prog 27 #[s, o] w fun en w' => en = .returned (.bool true) ∧ Frm w w' [] := by
  have HV : Hid (∀ v : Value, v = s ∨ v = o → Calls Tryd.prog 41 #[v] w fun en w' => en = .returned (.bool false) ∧ w = w') := hide (fun v e => by
    rcases e with rfl | rfl
    · exact valid_no w _ h
    · exact valid_no w _ k)
  clear h k
  go_enter Tryd.func27, Tryd.ntmps27
  go_wp2_with (go_at_call 41; refine (HV.out _ (by first | exact .inl rfl | exact .inr rfl)).mono ?_; rintro en w' ⟨rfl, rfl⟩)
  go_ret
  exact ⟨rfl, Frm.refl _ _⟩
theorem equal_no1 (w : World) (s o : Value) (n : Nat) (h : NoSet w s) (k : IsSet w o n) :
    Calls Tryd.prog 27 #[s, o] w fun en w' => en = .returned (.bool false) ∧ Frm w w' [] := by
  have HV := hide (valid_no w s h)
  have KV := hide k.valid
  clear h k
  go_enter Tryd.func27, Tryd.ntmps27
  go_wp2_with fail
  refine HV.out.mono ?_
  rintro en w' ⟨rfl, rfl⟩
  go_wp2_with fail
  refine HV.out.mono ?_
  rintro en w' ⟨rfl, rfl⟩
  go_wp2_with fail
  refine KV.out.mono ?_
  rintro en w' ⟨rfl, rfl⟩
  go_wp2_with fail
  go_ret
  exact ⟨rfl, Frm.refl _ _⟩
theorem equal_no2 (w : World) (s o : Value) (n : Nat) (h : IsSet w s n) (k : NoSet w o) :
    Calls Tryd.prog 27 #[s, o] w fun en w' => en = .returned (.bool false) ∧ Frm w w' [] := by
  have HV := hide h.valid
  have KV := hide (valid_no w o k)
  clear h k
  go_enter Tryd.func27, Tryd.ntmps27
  go_wp2_with fail
  refine HV.out.mono ?_
  rintro en w' ⟨rfl, rfl⟩
  go_wp2_with fail
  refine KV.out.mono ?_
  rintro en w' ⟨rfl, rfl⟩
  go_wp2_with fail
  refine HV.out.mono ?_
  rintro en w' ⟨rfl, rfl⟩
  go_wp2_with fail
  refine KV.out.mono ?_
  rintro en w' ⟨rfl, rfl⟩
  go_wp2_with fail
  go_ret
  exact ⟨rfl, Frm.refl _ _⟩
end Go.Proofs.YtbnikoomgeaboaaDoor

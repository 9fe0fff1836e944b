/-
  The reference's combinations without effect, and Equal: layer 3 (bitset).
-/
import Derived.Test.YtbnikoomgeaboaaDoorRef4
namespace Go.Proofs.YtbnikoomgeaboaaDoor
open Go.RowKit

theorem RRd.drew {w : World} {R n c : Nat} {A : Option Addr} (h : RRd w R n c A) : RRd w.drew R n c A := ⟨h.c0, h.c1, h.big⟩
theorem rfits_nil2 (w : World) (R n c : Nat) (A : Option Addr) (h : RRd w R n c A) :
    Calls Tryd.prog 38 #[.pointer (some ⟨R, 0, none⟩), .pointer none] w fun en w' => en = .returned (.bool false) ∧ ∃ m, w' = w.drewN m := by
  have HV1 : Hid (∀ (m : Nat) (p : Option Addr), p.isSome = true → p = some ⟨R, 0, none⟩ → Calls Tryd.prog 35 #[.pointer p] (w.drewN m) fun en w' => en = .returned (.bool true) ∧ w.drewN m = w') := hide (fun m p _ e => by subst e; exact rok_is _ _ _ _ _ (h.drewN m))
  have HV2 : Hid (∀ (m : Nat) (p : Option Addr), p.isNone = true → Calls Tryd.prog 35 #[.pointer p] (w.drewN m) fun en w' => en = .returned (.bool false) ∧ w.drewN m = w') := hide (fun m p e => by
    cases p with
    | none => exact rok_nil _
    | some a => cases e)
  clear h
  go_enter Tryd.func38, Tryd.ntmps38
  go_wp2_with fail
  go_quiet (first | (go_at_call 35; exact Calls.quiet_of_same ((HV1.out _ _ (by rfl) (by rfl)).mono fun _ _ ⟨a, b⟩ => ⟨a, b.symm⟩)) | (go_at_call 35; exact Calls.quiet_of_same ((HV2.out _ _ (by rfl)).mono fun _ _ ⟨a, b⟩ => ⟨a, b.symm⟩)))
  go_wp2_with fail
  go_ret
  exact ⟨rfl, _, rfl⟩

theorem runion_no (w : World) (s o : Value) (h : Calls Tryd.prog 38 #[s, o] w fun en w' => en = .returned (.bool false) ∧ ∃ m, w' = w.drewN m) :
    Calls Tryd.prog 19 #[s, o] w fun en w' => en = .returned (.bool false) ∧ Frm w w' [] := by
  have H := hide h
  clear h
  go_enter Tryd.func19, Tryd.ntmps19
  go_wp2_with fail
  go_loop [6, 5] (fun i v => i = .int .i64 0 ∧ v = .bool false) (fun _ _ => 0)
  case atStart => exact ⟨rfl, rfl⟩
  case round =>
    obtain ⟨rfl, rfl⟩ := hrel
    go_wp2_with fail
    refine H.out.mono ?_
    rintro en w2 ⟨rfl, m, rfl⟩
    go_wp2_with fail
    go_ret
    exact ⟨rfl, (Frm.refl w []).drewN m⟩

theorem rsub_no (w : World) (s o : Value) (h : Calls Tryd.prog 38 #[s, o] w fun en w' => en = .returned (.bool false) ∧ ∃ m, w' = w.drewN m) :
    Calls Tryd.prog 21 #[s, o] w fun en w' => en = .returned (.bool false) ∧ Frm w w' [] := by
  have H := hide h
  clear h
  go_enter Tryd.func21, Tryd.ntmps21
  go_wp2_with fail
  go_loop [6, 5] (fun i v => i = .int .i64 0 ∧ v = .bool false) (fun _ _ => 0)
  case atStart => exact ⟨rfl, rfl⟩
  case round =>
    obtain ⟨rfl, rfl⟩ := hrel
    go_wp2_with fail
    refine H.out.mono ?_
    rintro en w2 ⟨rfl, m, rfl⟩
    go_wp2_with fail
    go_ret
    exact ⟨rfl, (Frm.refl w []).drewN m⟩

theorem rand_no (w : World) (s o : Value) (h : Calls Tryd.prog 38 #[s, o] w fun en w' => en = .returned (.bool false) ∧ ∃ m, w' = w.drewN m) :
    Calls Tryd.prog 23 #[s, o] w fun en w' => en = .returned (.bool false) ∧ Frm w w' [] := by
  have H := hide h
  clear h
  go_enter Tryd.func23, Tryd.ntmps23
  go_wp2_with fail
  go_loop [6, 5] (fun i v => i = .int .i64 0 ∧ v = .bool false) (fun _ _ => 0)
  case atStart => exact ⟨rfl, rfl⟩
  case round =>
    obtain ⟨rfl, rfl⟩ := hrel
    go_wp2_with fail
    refine H.out.mono ?_
    rintro en w2 ⟨rfl, m, rfl⟩
    go_wp2_with fail
    go_ret
    exact ⟨rfl, (Frm.refl w []).drewN m⟩

/-- Equal where one of the two is nil. -/
theorem requal_nil (w : World) : Calls Tryd.prog 28 #[.pointer none, .pointer none] w fun en w' => en = .returned (.bool true) ∧ w = w' := by
  go_enter Tryd.func28, Tryd.ntmps28
  go_wp2_with (go_at_call 35; refine (rok_nil _).mono ?_; rintro en w' ⟨rfl, rfl⟩)
  go_ret
  exact ⟨rfl, rfl⟩
theorem requal_nil1 (w : World) (R n c : Nat) (A : Option Addr) (h : RRd w R n c A) : Calls Tryd.prog 28 #[.pointer none, .pointer (some ⟨R, 0, none⟩)] w fun en w' => en = .returned (.bool false) ∧ w = w' := by
  have HV := hide (rok_is _ _ _ _ _ h)
  clear h
  go_enter Tryd.func28, Tryd.ntmps28
  go_wp2_with fail
  refine (rok_nil _).mono ?_
  rintro en w' ⟨rfl, rfl⟩
  go_wp2_with fail
  refine (rok_nil _).mono ?_
  rintro en w' ⟨rfl, rfl⟩
  go_wp2_with fail
  refine HV.out.mono ?_
  rintro en w' ⟨rfl, rfl⟩
  go_wp2_with fail
  go_ret
  exact ⟨rfl, rfl⟩
theorem requal_nil2 (w : World) (R n c : Nat) (A : Option Addr) (h : RRd w R n c A) : Calls Tryd.prog 28 #[.pointer (some ⟨R, 0, none⟩), .pointer none] w fun en w' => en = .returned (.bool false) ∧ w = w' := by
  have HV := hide (rok_is _ _ _ _ _ h)
  clear h
  go_enter Tryd.func28, Tryd.ntmps28
  go_wp2_with fail
  refine HV.out.mono ?_
  rintro en w' ⟨rfl, rfl⟩
  go_wp2_with fail
  refine (rok_nil _).mono ?_
  rintro en w' ⟨rfl, rfl⟩
  go_wp2_with fail
  refine HV.out.mono ?_
  rintro en w' ⟨rfl, rfl⟩
  go_wp2_with fail
  refine (rok_nil _).mono ?_
  rintro en w' ⟨rfl, rfl⟩
  go_wp2_with fail
  go_ret
  exact ⟨rfl, rfl⟩
/-- Equal of two made sets. -/
theorem requal_set (w : World) (R n c R' n' c' : Nat) (A A' : Option Addr) (f g : Nat → Bool) (h : RRd w R n c A) (k : RRd w R' n' c' A')
    (hf : ∀ i, i < n → ∃ b off, A = some ⟨b, off, none⟩ ∧ w.cell? ⟨b, off + i, none⟩ = some (.bool (f i))) (hg : ∀ i, i < n' → ∃ b off, A' = some ⟨b, off, none⟩ ∧ w.cell? ⟨b, off + i, none⟩ = some (.bool (g i))) :
    Calls Tryd.prog 28 #[.pointer (some ⟨R, 0, none⟩), .pointer (some ⟨R', 0, none⟩)] w fun en w' => en = .returned (.bool (decide (n = n' ∧ ∀ i, i < n → f i = g i))) ∧ Frm w w' [] := by
  have HV := hide (rok_is _ _ _ _ _ h)
  have HW := hide (rok_is _ _ _ _ _ k)
  have c1 := h.c1
  have d1 := k.c1
  have hb := h.big
  have kb := k.big
  obtain ⟨v, hv⟩ : ∃ v : Bool, v = decide (n = n' ∧ ∀ i, i < n → f i = g i) := ⟨_, rfl⟩
  rw [← hv]
  have HVV := hide hv
  have HF := hide hf
  have HG := hide hg
  clear h k hv hf hg
  by_cases e : n = n'
  · subst e
    have t : ((n : Int) != (n : Int)) = false := by simp
    go_enter Tryd.func28, Tryd.ntmps28
    go_wp2_with fail
    refine HV.out.mono ?_
    rintro en w' ⟨rfl, rfl⟩
    go_wp2_with fail
    refine HW.out.mono ?_
    rintro en w' ⟨rfl, rfl⟩
    go_wp2_with fail
    go_quiet (fail)
    go_wp2_with fail
    go_loopw [35] (fun z wr => ∃ k : Nat, k ≤ n ∧ z = .int .i64 k ∧ (∀ i, i < k → f i = g i) ∧ ∃ m, wr = w.drewN m) (fun z _ => n - (intOf z).toNat)
    case atStart => exact ⟨0, Nat.zero_le _, rfl, fun i hi => by omega, nq, rfl⟩
    case round =>
      obtain ⟨k, hk, rfl, hall, m, rfl⟩ := hrel
      have HA := hide hall
      clear hall
      by_cases hlt : k < n
      · have hlt' : (k : Int) < n := by omega
        obtain ⟨b, off, rfl, ck⟩ := HF.out k hlt
        obtain ⟨b', off', rfl, dk⟩ := HG.out k hlt
        obtain ⟨fk, hfk⟩ : ∃ x, x = f k := ⟨_, rfl⟩
        obtain ⟨gk, hgk⟩ : ∃ x, x = g k := ⟨_, rfl⟩
        rw [← hfk] at ck
        rw [← hgk] at dk
        by_cases hne : fk = gk
        · have t2 : (fk != gk) = false := by simpa using hne
          have HE : Hid (f k = g k) := hide (by rw [← hfk, ← hgk, hne])
          subst hne
          clear hfk hgk t2
          have hnext : Hid (∀ i, i < k + 1 → f i = g i) := hide (fun i hi => by
            rcases Nat.lt_or_ge i k with h1 | h1
            · exact HA.out i h1
            · obtain rfl : i = k := by omega
              exact HE.out)
          cases fk
          all_goals
            go_wp2_with fail
            go_quiet (fail)
            go_wp2_with fail
            go_roundw
            · exact ⟨k + 1, by omega, by go_num, hnext.out, m + nq, rfl⟩
            · simp [intOf]; omega
        · have t2 : (fk != gk) = true := by simpa using hne
          have hvf : v = false := by
            rw [HVV.out, decide_eq_false_iff_not]
            rintro ⟨_, h2⟩
            exact hne (by rw [hfk, hgk]; exact h2 k hlt)
          subst hvf
          clear hfk hgk t2
          have HNE := hide hne
          clear hne
          cases fk
          all_goals cases gk
          all_goals first
            | exact absurd rfl HNE.out
            | (go_wp2_with fail
               go_quiet (fail)
               go_wp2_with fail
               go_ret
               exact ⟨rfl, ((Frm.refl w []).drewN m).drewN nq⟩)
      · obtain rfl : k = n := by omega
        have hvt : v = true := by rw [HVV.out, decide_eq_true_iff]; first | exact ⟨rfl, HA.out⟩ | exact ⟨trivial, HA.out⟩
        subst hvt
        go_wp2_with fail
        go_ret
        exact ⟨rfl, (Frm.refl w []).drewN _⟩
  · have t : ((n : Int) != (n' : Int)) = true := by rw [bne_iff_ne]; omega
    have hvf : v = false := by rw [HVV.out, decide_eq_false_iff_not]; exact fun h => e h.1
    subst hvf
    go_enter Tryd.func28, Tryd.ntmps28
    go_wp2_with fail
    refine HV.out.mono ?_
    rintro en w' ⟨rfl, rfl⟩
    go_wp2_with fail
    refine HW.out.mono ?_
    rintro en w' ⟨rfl, rfl⟩
    go_wp2_with fail
    go_quiet (fail)
    go_wp2_with fail
    go_ret
    exact ⟨rfl, (Frm.refl w []).drewN _⟩
end Go.Proofs.YtbnikoomgeaboaaDoor

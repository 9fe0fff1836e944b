/-
  Rising and sinking in the heap of layer 5 (worklist).
-/
import Derived.Test.YthdjgbkooeabfaaHeap
namespace Go.Proofs.Ythdjgbkooeabfaa
open Go.RowKit

theorem before_is (w : World) (B n : Nat) (l : List Int) (h : List Nat) (r : RawAt w B n l h) (a b : Nat) (ha : a < n) (hb : b < n) {x : Bool} (e : decide (Bef l a b) = x) :
    Calls Try.prog 24 #[.int .i64 a, .int .i64 b, .pointer (some ⟨B + 1, 0, none⟩)] w fun en w' => en = .returned (.bool x) ∧ ∃ m, w' = w.drewN m := e ▸ before_any w B n l h r a b ha hb

theorem rise_any (w : World) (B n : Nat) (l : List Int) (h : List Nat) (r : RawAt w B n l h) (k : Nat) (hk : k < h.length) (hu : Up l (nth h) h.length k) :
    Calls Try.prog 50 #[.pointer (some ⟨B + 2, 0, none⟩), .int .i64 k] w fun en w' => en = .returned (.tuple #[]) ∧ ∃ h', RawAt w' B n l h' ∧ h'.Perm h ∧ Hp l (nth h') h'.length ∧ Frm w w' [B] := by
  have HS := hide (And.intro r (And.intro hk hu))
  clear r hk hu
  go_enter Try.func50, Try.ntmps50
  go_wp2_with fail
  go_loopw [1] (fun z wr => ∃ (k : Nat) (h' : List Nat), z = .int .i64 k ∧ k < h'.length ∧ RawAt wr B n l h' ∧ h'.Perm h ∧ Up l (nth h') h'.length k ∧ Frm w wr [B]) (fun z _ => (intOf z).toNat)
  case atStart => exact ⟨k, h, rfl, HS.out.2.1, HS.out.1, List.Perm.refl _, HS.out.2.2, Frm.refl _ _⟩
  case round =>
    clear HS
    obtain ⟨wq, rfl⟩ : ∃ x, x = wr := ⟨_, rfl⟩
    obtain ⟨k, h', rfl, hk, r, hp, hu, hf⟩ := hrel
    rcases Nat.eq_zero_or_pos k with h0 | h0
    · subst h0
      have HZ := hide (And.intro r (And.intro hp (And.intro (hu.done (.inl rfl)) hf)))
      clear r hp hu hf
      go_wp2_with fail
      go_end0
      exact ⟨rfl, h', HZ.out⟩
    · obtain ⟨m, hm⟩ : ∃ m, m = (k - 1) / 2 := ⟨_, rfl⟩
      have hmk : m < k := by omega
      have e1 : ((k : Int) - 1) / 2 = (m : Int) := by omega
      have t0 : (k : Int) > 0 := by omega
      obtain ⟨junk, rb⟩ := r
      have ck := rb.item hk
      have cm := rb.item (show m < h'.length by omega)
      have c0 := rb.self.cell 0
      have c1 : wq.cell? ⟨B + 2, 1, none⟩ = some (.func (.func 24) #[] #[.pointer (some ⟨B + 1, 0, none⟩)]) := rb.self.cell 1
      have hkn := rb.nth_lt hk
      have hmn := rb.nth_lt (show m < h'.length by omega)
      have bk : (k : Int) < h'.length := by omega
      have bm : (m : Int) < h'.length := by omega
      have hfit := rb.fit
      have h65 := rb.big
      have b65 : (k : Int) ≤ 65536 := by omega
      have HR := hide (show RawAt wq B n l h' from ⟨junk, rb⟩)
      have HU := hide (And.intro hp (And.intro hu hf))
      clear rb hp hu hf
      by_cases hb : Bef l (nth h' k) (nth h' m)
      · have hbd := decide_eq_true hb
        have hsw := HU.out.2.1.step h0 hk (by rw [← hm]; exact hb)
        rw [← hm] at hsw
        have HSW := hide hsw
        clear hb hsw hm
        go_wp2_with fail
        go_quiet (first | (go_at_call 24; exact Calls.quiet_of (before_is _ B n l h' (HR.out.drewN _) _ _ hkn hmn hbd)))
        go_wp2_with fail
        refine (swap_any _ B n l h' (HR.out.drewN _) k m hk (by omega) (by omega)).mono ?_
        rintro en w2 ⟨rfl, r2, f2⟩
        have HZ := hide (And.intro r2 (And.intro ((swap_perm hk (show m < h'.length by omega)).trans HU.out.1) (((HU.out.2.2.drewN _).trans f2))))
        clear r2 f2 HR HU
        go_wp2_with fail
        go_roundw
        case rel =>
          refine ⟨m, swap h' k m, rfl, by rw [swap_len]; omega, HZ.out.1, HZ.out.2.1, ?_, HZ.out.2.2⟩
          rw [swap_len]
          exact HSW.out.congr (by omega) (fun i _ => nth_swap hk (by omega) i)
        case measure => simp [intOf]; omega
      · have hbd := decide_eq_false hb
        have HSW := hide (HU.out.2.1.done (.inr (by rw [← hm]; exact hb)))
        clear hb hm
        go_wp2_with fail
        go_quiet (first | (go_at_call 24; exact Calls.quiet_of (before_is _ B n l h' (HR.out.drewN _) _ _ hkn hmn hbd)))
        go_wp2_with fail
        refine bodyPost_ret (results_none rfl _ _ _) rfl ?_
        exact ⟨rfl, h', HR.out.drewN nq, HU.out.1, HSW.out, HU.out.2.2.drewN nq⟩

theorem sink_any (w : World) (B n : Nat) (l : List Int) (h : List Nat) (r : RawAt w B n l h) (hd : Dn l (nth h) h.length 0) :
    Calls Try.prog 49 #[.pointer (some ⟨B + 2, 0, none⟩), .int .i64 0] w fun en w' => en = .returned (.tuple #[]) ∧ ∃ h', RawAt w' B n l h' ∧ h'.Perm h ∧ Hp l (nth h') h'.length ∧ Frm w w' [B] := by
  have HS := hide (And.intro r hd)
  clear r hd
  go_enter Try.func49, Try.ntmps49
  go_wp2_with fail
  go_loopw [1] (fun z wr => ∃ (k : Nat) (h' : List Nat), z = .int .i64 k ∧ k ≤ h'.length ∧ RawAt wr B n l h' ∧ h'.Perm h ∧ Dn l (nth h') h'.length k ∧ Frm w wr [B]) (fun z _ => 65537 - (intOf z).toNat)
  case atStart => exact ⟨0, h, rfl, Nat.zero_le _, HS.out.1, List.Perm.refl _, HS.out.2, Frm.refl _ _⟩
  case round =>
    clear HS
    obtain ⟨wq, rfl⟩ : ∃ x, x = wr := ⟨_, rfl⟩
    obtain ⟨k, h', rfl, hk, r, hp, hu, hf⟩ := hrel
    have hlen : h'.length ≤ n ∧ n ≤ 65536 := by
      obtain ⟨junk, rb⟩ := r
      have := rb.fit
      exact ⟨by omega, rb.big⟩
    have HQ := hide (And.intro r (And.intro hp (And.intro hu hf)))
    clear r hp hu hf
    have b65 : (k : Int) ≤ 65536 := by omega
    go_wp2_with fail
    go_loopw [5, 4] (fun z f wr => ∃ (c j : Nat), z = .int .i64 c ∧ f = .int .i64 j ∧ 2 * k + 1 ≤ c ∧ c ≤ 2 * k + 3 ∧ (j = k ∨ (j < h'.length ∧ (j - 1) / 2 = k ∧ 0 < j ∧ Bef l (nth h' j) (nth h' k))) ∧ (∀ i, 2 * k + 1 ≤ i → i < c → i < h'.length → Le l (nth h' j) (nth h' i)) ∧ RawAt wr B n l h' ∧ Frm w wr [B]) (fun z _ _ => 2 * k + 3 - (intOf z).toNat)
    case atStart => exact ⟨2 * k + 1, k, by simp, rfl, Nat.le_refl _, by omega, .inl rfl, fun i h1 h2 => by omega, HQ.out.1, HQ.out.2.2.2⟩
    case round =>
      obtain ⟨wv, rfl⟩ : ∃ x, x = wr := ⟨_, rfl⟩
      obtain ⟨c, j, rfl, rfl, hc1, hc2, hj, hmin, r, hf⟩ := hrel
      obtain ⟨junk, rb⟩ := r
      have c0 := rb.self.cell 0
      have c1 : wv.cell? ⟨B + 2, 1, none⟩ = some (.func (.func 24) #[] #[.pointer (some ⟨B + 1, 0, none⟩)]) := rb.self.cell 1
      by_cases hin : c ≤ 2 * k + 2 ∧ c < h'.length
      · have hjl : j < h'.length := by rcases hj with h1 | h1 <;> omega
        have cc := rb.item hin.2
        have cj := rb.item hjl
        have hcn := rb.nth_lt hin.2
        have hjn := rb.nth_lt hjl
        have t1 : (c : Int) ≤ 2 * (k : Int) + 2 := by omega
        have t2 : (c : Int) < h'.length := by omega
        have t3 : (j : Int) < h'.length := by omega
        have HR := hide (show RawAt wv B n l h' from ⟨junk, rb⟩)
        have HU := hide (And.intro hj (And.intro hmin hf))
        have hin2 := hin.2
        have hin1 := hin.1
        clear rb hj hmin hf hin
        by_cases hb : Bef l (nth h' c) (nth h' j)
        · have hbd := decide_eq_true hb
          have HB := hide hb
          clear hb
          go_wp2_with fail
          go_quiet (first | (go_at_call 24; exact Calls.quiet_of (before_is _ B n l h' (HR.out.drewN _) _ _ hcn hjn hbd)))
          go_wp2_with fail
          go_roundw
          case rel =>
            refine ⟨c + 1, c, by go_num, rfl, by omega, by omega, .inr ⟨hin2, by omega, by omega, ?_⟩, fun i h1 h2 h3 => ?_, HR.out.drewN nq, HU.out.2.2.drewN nq⟩
            · rcases HU.out.1 with h1 | h1
              · rw [h1] at HB; exact HB.out
              · exact HB.out.trans h1.2.2.2
            · by_cases e : i = c
              · subst e; exact Le.refl l _
              · exact (Le.of HB.out).trans (HU.out.2.1 i h1 (by omega) h3)
          case measure => simp [intOf]; omega
        · have hbd := decide_eq_false hb
          have HB : Hid (Le l (nth h' j) (nth h' c)) := hide hb
          clear hb
          go_wp2_with fail
          go_quiet (first | (go_at_call 24; exact Calls.quiet_of (before_is _ B n l h' (HR.out.drewN _) _ _ hcn hjn hbd)))
          go_wp2_with fail
          go_roundw
          case rel =>
            refine ⟨c + 1, j, by go_num, rfl, by omega, by omega, HU.out.1, fun i h1 h2 h3 => ?_, HR.out.drewN nq, HU.out.2.2.drewN nq⟩
            by_cases e : i = c
            · subst e; exact HB.out
            · exact HU.out.2.1 i h1 (by omega) h3
          case measure => simp [intOf]; omega
      · have hch : ∀ i, 0 < i → i < h'.length → (i - 1) / 2 = k → Le l (nth h' j) (nth h' i) := fun i h0 hi hpi => hmin i (by omega) (by omega) hi
        have HR := hide (show RawAt wv B n l h' from ⟨junk, rb⟩)
        have HU := hide (And.intro hj (And.intro hch hf))
        have tin : c ≤ 2 * k + 2 → ¬ ((c : Int) < h'.length) := fun h1 => by omega
        clear rb hj hmin hf hch
        by_cases hejk : j = k
        · subst hejk
          have HD := hide (HQ.out.2.2.1.done HU.out.2.1)
          have tj : ((j : Int) == (j : Int)) = true := by simp
          by_cases t1 : c ≤ 2 * j + 2
          · have t2 := tin t1
            have t1' : (c : Int) ≤ 2 * (j : Int) + 2 := by omega
            clear tin hin
            go_wp2_with fail
            refine bodyPost_ret (results_none rfl _ _ _) rfl ?_
            exact ⟨rfl, h', HR.out, HQ.out.2.1, HD.out, HU.out.2.2⟩
          · have t1' : ¬ ((c : Int) ≤ 2 * (j : Int) + 2) := by omega
            clear tin hin
            go_wp2_with fail
            refine bodyPost_ret (results_none rfl _ _ _) rfl ?_
            exact ⟨rfl, h', HR.out, HQ.out.2.1, HD.out, HU.out.2.2⟩
        · obtain ⟨hjl, hjp, hj0, hjb⟩ := HU.out.1.resolve_left hejk
          have hkl : k < h'.length := by omega
          have HST := hide (HQ.out.2.2.1.step hj0 hjp hjl hjb HU.out.2.1)
          have tj : ((j : Int) == (k : Int)) = false := by rw [beq_eq_false_iff_ne]; omega
          have HJB := hide hjb
          clear hjb hejk
          by_cases t1 : c ≤ 2 * k + 2
          · have t2 := tin t1
            have t1' : (c : Int) ≤ 2 * (k : Int) + 2 := by omega
            clear tin hin
            go_wp2_with fail
            refine (swap_any _ B n l h' HR.out k j hkl hjl (by omega)).mono ?_
            rintro en w2 ⟨rfl, r2, f2⟩
            have HZ := hide (And.intro r2 (And.intro ((swap_perm hkl hjl).trans HQ.out.2.1) (HU.out.2.2.trans f2)))
            clear r2 f2 HR HU HQ
            go_wp2_with fail
            go_roundw
            case rel =>
              refine ⟨j, swap h' k j, rfl, by rw [swap_len]; omega, HZ.out.1, HZ.out.2.1, ?_, HZ.out.2.2⟩
              rw [swap_len]
              exact HST.out.congr (fun i _ => nth_swap hkl hjl i)
            case measure => simp [intOf]; omega
          · have t1' : ¬ ((c : Int) ≤ 2 * (k : Int) + 2) := by omega
            clear tin hin
            go_wp2_with fail
            refine (swap_any _ B n l h' HR.out k j hkl hjl (by omega)).mono ?_
            rintro en w2 ⟨rfl, r2, f2⟩
            have HZ := hide (And.intro r2 (And.intro ((swap_perm hkl hjl).trans HQ.out.2.1) (HU.out.2.2.trans f2)))
            clear r2 f2 HR HU HQ
            go_wp2_with fail
            go_roundw
            case rel =>
              refine ⟨j, swap h' k j, rfl, by rw [swap_len]; omega, HZ.out.1, HZ.out.2.1, ?_, HZ.out.2.2⟩
              rw [swap_len]
              exact HST.out.congr (fun i _ => nth_swap hkl hjl i)
            case measure => simp [intOf]; omega
end Go.Proofs.Ythdjgbkooeabfaa

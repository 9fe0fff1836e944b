/-
  Layer 7 (scc): package heap over minHeap, in memory: down, Pop.
-/
import Derived.Test.YtakojoedifhcnaaTSift
namespace Go.Proofs.Ytakojoedifhcnaa
open Go.RowKit

set_option maxRecDepth 100000 in
set_option maxHeartbeats 4000000 in
theorem down_any (hb base n r c : Nat) (h0 : Nat → Nat) (S : Nat → Prop) (w : World) (hq : QAt w hb base (.slice (some ⟨r, 0, none⟩) (n + 1) c) (n + 1) h0) (hd : DownOk h0 n 0) (hbag : Bag h0 (n + 1) S) (hn : n < 65536) :
    Calls Try.prog 39 #[.iface 45 (.pointer (some ⟨hb, 0, none⟩)), .int .i64 0, .int .i64 (n : Nat)] w fun en w' => (∃ b, en = .returned (.bool b)) ∧ ∃ h, QAt w' hb base (.slice (some ⟨r, 0, none⟩) (n + 1) c) (n + 1) h ∧ HeapOk h n ∧ Bag h (n + 1) S ∧ h n = h0 n ∧ Frm w w' [r] := by
  have HQ := hide hq
  have HD := hide hd
  have HBG := hide hbag
  have hrb : r ≠ hb := fun e => hq.off (by rw [e]; rfl)
  clear hq hd hbag
  go_enter Try.func39, Try.ntmps39
  go_wp2_with fail
  go_loopg [7] n (fun k z wr => ∃ (i : Nat) (h : Nat → Nat), n - i ≤ k ∧ z = .int .i64 (i : Nat) ∧ i ≤ n ∧ Hid (DownOk h n i) ∧ Hid (Bag h (n + 1) S) ∧ Hid (QAt wr hb base (.slice (some ⟨r, 0, none⟩) (n + 1) c) (n + 1) h) ∧ Hid (h n = h0 n) ∧ Hid (Frm w wr [r]))
  case atStart => exact ⟨0, h0, by omega, rfl, by omega, HD, HBG, HQ, hide rfl, hide (Frm.refl _ _)⟩
  case round =>
    clear HD HBG HQ
    obtain ⟨wq, rfl⟩ : ∃ x, x = wr := ⟨_, rfl⟩
    obtain ⟨k, rfl⟩ : ∃ x, x = gk := ⟨_, rfl⟩
    obtain ⟨i, h, hik, rfl, hin, HD, HBG, HQ, HL, HF⟩ := hrel
    have hwm : IntKind.i64.wrap (2 * (i : Int)) = 2 * (i : Int) := IntWalk.i64_in _ (by omega)
    obtain ⟨a, ha⟩ : ∃ a, 2 * i + 1 = a := ⟨_, rfl⟩
    have hwa : IntKind.i64.wrap (2 * (i : Int) + 1) = (a : Int) := by rw [show 2 * (i : Int) + 1 = (a : Int) by omega]; exact IntWalk.i64_in _ (by omega)
    by_cases han : n ≤ a
    · have han' : (n : Int) ≤ (a : Int) := by omega
      go_wp2_with fail
      go_ret
      exact ⟨⟨_, rfl⟩, h, HQ.out, HD.out.done (fun k k0 kn kp => by omega), HBG.out, HL.out, HF.out⟩
    · have han' : ¬ (n : Int) ≤ (a : Int) := by omega
      have hanb : decide ((n : Int) ≤ (a : Int)) = false := decide_eq_false han'
      have ha0 : ¬ (a : Int) < 0 := by omega
      have hwb : IntKind.i64.wrap ((a : Int) + 1) = (a : Int) + 1 := IntWalk.i64_in _ (by omega)
      have k1 := HQ.out.box.cell 0
      have m1 := fun W hc => method_less hb (.slice (some ⟨r, 0, none⟩) (n + 1) c) W hc
      have m2 := fun W hc => method_swap hb (.slice (some ⟨r, 0, none⟩) (n + 1) c) W hc
      by_cases h2 : a + 1 < n
      · have h2' : (a : Int) + 1 < (n : Int) := by omega
        go_wp2_with fail
        refine (less_any r (n + 1) c (a + 1) a base h wq HQ.out.row (by omega) (by omega)).mono ?_
        rintro en w5 ⟨rfl, m, hw5⟩
        have HQW : Hid (QAt w5 hb base (.slice (some ⟨r, 0, none⟩) (n + 1) c) (n + 1) h) := hide (by rw [hw5]; exact HQ.out.still ((Frm.refl wq []).drewN m))
        have HFW : Hid (Frm w w5 [r]) := hide (by rw [hw5]; exact HF.out.drewN m)
        have k2 : w5.cell? ⟨hb, 0, none⟩ = some (.slice (some ⟨r, 0, none⟩) (n + 1) c) := HQW.out.box.cell 0
        clear hw5
        by_cases hc : h (a + 1) < h a
        · rw [show decide (h (a + 1) < h a) = true from decide_eq_true hc]
          have HMIN : Hid (∀ k, 0 < k → k < n → (k - 1) / 2 = i → h (a + 1) ≤ h k) := hide (fun k k0 kn kp => by
            rcases (show k = a ∨ k = a + 1 by omega) with rfl | rfl
            · exact Nat.le_of_lt hc
            · exact Nat.le_refl _)
          go_wp2_with fail
          refine (less_any r (n + 1) c (a + 1) i base h w5 (HQW.out.row) (by omega) (by omega)).mono ?_
          rintro en w6 ⟨rfl, m6, rfl⟩
          have k3 : (w5.drewN m6).cell? ⟨hb, 0, none⟩ = some (.slice (some ⟨r, 0, none⟩) (n + 1) c) := HQW.out.box.cell 0
          by_cases hl : h (a + 1) < h i
          · rw [show decide (h (a + 1) < h i) = true from decide_eq_true hl]
            go_wp2_with fail
            refine (swap_any r (n + 1) c i (a + 1) base h (w5.drewN m6) (HQW.out.row.drewN m6) (by omega) (by omega)).mono ?_
            rintro en w7 ⟨rfl, ho7, hf7⟩
            have HF7 : Hid (Frm w w7 [r]) := hide (HFW.out.trans' (((Frm.refl w5 [r]).drewN m6).trans' hf7 (fun x hx => .inl hx)) (fun x hx => .inl hx))
            have HQ7 : Hid (QAt w7 hb base (.slice (some ⟨r, 0, none⟩) (n + 1) c) (n + 1) (swp h i (a + 1))) := hide ⟨HQW.out.box.frm (((Frm.refl w5 [r]).drewN m6).trans' hf7 (fun x hx => .inl hx)) (by simpa using fun e : hb = r => hrb e.symm), ho7, HQW.out.off⟩
            have HD7 := hide (HD.out.step (show a + 1 < n by omega) (by omega) (show (a + 1 - 1) / 2 = i by omega) HMIN.out hl)
            have HB7 := hide (HBG.out.swp (show i < n + 1 by omega) (show a + 1 < n + 1 by omega))
            have HL7 : Hid (swp h i (a + 1) n = h0 n) := hide (by rw [swp_ne h (by omega) (by omega)]; exact HL.out)
            clear ho7 hf7 k3 k1
            go_wp2_with fail
            go_roundg (k - 1)
            case measure => omega
            case rel => exact ⟨a + 1, swp h i (a + 1), by omega, by go_num, by omega, HD7, HB7, HQ7, HL7, HF7⟩
          · rw [show decide (h (a + 1) < h i) = false from decide_eq_false hl]
            have HF7 : Hid (Frm w (w5.drewN m6) [r]) := hide (HFW.out.drewN m6)
            have HQ7 := hide (HQW.out.still ((Frm.refl w5 []).drewN m6))
            have HOK := hide (HD.out.done (fun k k0 kn kp => Nat.le_trans (Nat.le_of_not_lt hl) (HMIN.out k k0 kn kp)))
            clear k3 k1
            go_wp2_with fail
            go_ret
            exact ⟨⟨_, rfl⟩, h, HQ7.out, HOK.out, HBG.out, HL.out, HF7.out⟩
        · rw [show decide (h (a + 1) < h a) = false from decide_eq_false hc]
          have HMIN : Hid (∀ k, 0 < k → k < n → (k - 1) / 2 = i → h a ≤ h k) := hide (fun k k0 kn kp => by
            rcases (show k = a ∨ k = a + 1 by omega) with rfl | rfl
            · exact Nat.le_refl _
            · omega)
          go_wp2_with fail
          refine (less_any r (n + 1) c a i base h w5 (HQW.out.row) (by omega) (by omega)).mono ?_
          rintro en w6 ⟨rfl, m6, rfl⟩
          have k3 : (w5.drewN m6).cell? ⟨hb, 0, none⟩ = some (.slice (some ⟨r, 0, none⟩) (n + 1) c) := HQW.out.box.cell 0
          by_cases hl : h (a) < h i
          · rw [show decide (h (a) < h i) = true from decide_eq_true hl]
            go_wp2_with fail
            refine (swap_any r (n + 1) c i (a) base h (w5.drewN m6) (HQW.out.row.drewN m6) (by omega) (by omega)).mono ?_
            rintro en w7 ⟨rfl, ho7, hf7⟩
            have HF7 : Hid (Frm w w7 [r]) := hide (HFW.out.trans' (((Frm.refl w5 [r]).drewN m6).trans' hf7 (fun x hx => .inl hx)) (fun x hx => .inl hx))
            have HQ7 : Hid (QAt w7 hb base (.slice (some ⟨r, 0, none⟩) (n + 1) c) (n + 1) (swp h i (a))) := hide ⟨HQW.out.box.frm (((Frm.refl w5 [r]).drewN m6).trans' hf7 (fun x hx => .inl hx)) (by simpa using fun e : hb = r => hrb e.symm), ho7, HQW.out.off⟩
            have HD7 := hide (HD.out.step (show a < n by omega) (by omega) (show (a - 1) / 2 = i by omega) HMIN.out hl)
            have HB7 := hide (HBG.out.swp (show i < n + 1 by omega) (show a < n + 1 by omega))
            have HL7 : Hid (swp h i (a) n = h0 n) := hide (by rw [swp_ne h (by omega) (by omega)]; exact HL.out)
            clear ho7 hf7 k3 k1
            go_wp2_with fail
            go_roundg (k - 1)
            case measure => omega
            case rel => exact ⟨a, swp h i (a), by omega, by go_num, by omega, HD7, HB7, HQ7, HL7, HF7⟩
          · rw [show decide (h (a) < h i) = false from decide_eq_false hl]
            have HF7 : Hid (Frm w (w5.drewN m6) [r]) := hide (HFW.out.drewN m6)
            have HQ7 := hide (HQW.out.still ((Frm.refl w5 []).drewN m6))
            have HOK := hide (HD.out.done (fun k k0 kn kp => Nat.le_trans (Nat.le_of_not_lt hl) (HMIN.out k k0 kn kp)))
            clear k3 k1
            go_wp2_with fail
            go_ret
            exact ⟨⟨_, rfl⟩, h, HQ7.out, HOK.out, HBG.out, HL.out, HF7.out⟩
      · have h2' : ¬ (a : Int) + 1 < (n : Int) := by omega
        have h2b : decide ((a : Int) + 1 < (n : Int)) = false := decide_eq_false h2'
        have HQW := HQ
        have HFW := HF
        have HMIN : Hid (∀ k, 0 < k → k < n → (k - 1) / 2 = i → h a ≤ h k) := hide (fun k k0 kn kp => by
          obtain rfl : k = a := by omega
          exact Nat.le_refl _)
        go_wp2_with fail
        refine (less_any r (n + 1) c a i base h wq (HQW.out.row) (by omega) (by omega)).mono ?_
        rintro en w6 ⟨rfl, m6, rfl⟩
        have k3 : (wq.drewN m6).cell? ⟨hb, 0, none⟩ = some (.slice (some ⟨r, 0, none⟩) (n + 1) c) := HQW.out.box.cell 0
        by_cases hl : h (a) < h i
        · rw [show decide (h (a) < h i) = true from decide_eq_true hl]
          go_wp2_with fail
          refine (swap_any r (n + 1) c i (a) base h (wq.drewN m6) (HQW.out.row.drewN m6) (by omega) (by omega)).mono ?_
          rintro en w7 ⟨rfl, ho7, hf7⟩
          have HF7 : Hid (Frm w w7 [r]) := hide (HFW.out.trans' (((Frm.refl wq [r]).drewN m6).trans' hf7 (fun x hx => .inl hx)) (fun x hx => .inl hx))
          have HQ7 : Hid (QAt w7 hb base (.slice (some ⟨r, 0, none⟩) (n + 1) c) (n + 1) (swp h i (a))) := hide ⟨HQW.out.box.frm (((Frm.refl wq [r]).drewN m6).trans' hf7 (fun x hx => .inl hx)) (by simpa using fun e : hb = r => hrb e.symm), ho7, HQW.out.off⟩
          have HD7 := hide (HD.out.step (show a < n by omega) (by omega) (show (a - 1) / 2 = i by omega) HMIN.out hl)
          have HB7 := hide (HBG.out.swp (show i < n + 1 by omega) (show a < n + 1 by omega))
          have HL7 : Hid (swp h i (a) n = h0 n) := hide (by rw [swp_ne h (by omega) (by omega)]; exact HL.out)
          clear ho7 hf7 k3 k1
          go_wp2_with fail
          go_roundg (k - 1)
          case measure => omega
          case rel => exact ⟨a, swp h i (a), by omega, by go_num, by omega, HD7, HB7, HQ7, HL7, HF7⟩
        · rw [show decide (h (a) < h i) = false from decide_eq_false hl]
          have HF7 : Hid (Frm w (wq.drewN m6) [r]) := hide (HFW.out.drewN m6)
          have HQ7 := hide (HQW.out.still ((Frm.refl wq []).drewN m6))
          have HOK := hide (HD.out.done (fun k k0 kn kp => Nat.le_trans (Nat.le_of_not_lt hl) (HMIN.out k k0 kn kp)))
          clear k3 k1
          go_wp2_with fail
          go_ret
          exact ⟨⟨_, rfl⟩, h, HQ7.out, HOK.out, HBG.out, HL.out, HF7.out⟩
end Go.Proofs.Ytakojoedifhcnaa

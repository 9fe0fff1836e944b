/-
  Layer 11 (value): Valid of the reference.
-/
import Derived.Test.YtojeaghljebbbaaDoorVV
namespace Go.Proofs.YtojeaghljebbbaaDoor
open Go.RowKit

theorem rlanet_at {t lt : Int} (h : laneT t = lt) (w : World) : Calls Tryd.prog 35 #[.int .i64 t] w fun e w' => e = .returned (.int .i64 lt) ∧ w = w' := by
  subst h; exact rlanet_any t w
theorem rwrap_at {t n y : Int} (h : wrapI t n = y) (w : World) : Calls Tryd.prog 34 #[.int .i64 t, .int .i64 n] w fun e w' => e = .returned (.int .i64 y) ∧ w = w' := by
  subst h; exact rwrap_any t n w

set_option maxRecDepth 100000 in
set_option maxHeartbeats 8000000 in
theorem rvalid_n (t o : Int) (a b c d : LaneD) (w : World) (n : Int) (hn : numL t = n) (hn4 : n = 0 ∨ n = 1 ∨ n = 2 ∨ n = 4) :
    Calls Tryd.prog 31 #[.agg #[.int .i64 t, .int .i64 o, .int .i64 a.n, .bool a.p, .bool a.u, .int .i64 b.n, .bool b.p, .bool b.u, .int .i64 c.n, .bool c.p, .bool c.u, .int .i64 d.n, .bool d.p, .bool d.u]] w fun e w' => e = .returned (.bool (validB t o a b c d)) ∧ Below w.heap.size w w' := by
  obtain ⟨q, hq⟩ : ∃ q, w.heap.size = q := ⟨_, rfl⟩
  obtain ⟨w1, hw1⟩ : ∃ x, w.alloc (.cells #[.int .i64 t, .int .i64 o, .int .i64 a.n, .bool a.p, .bool a.u, .int .i64 b.n, .bool b.p, .bool b.u, .int .i64 c.n, .bool c.p, .bool c.u, .int .i64 d.n, .bool d.p, .bool d.u] 27) = x := ⟨_, rfl⟩
  have hs1 : w1.heap.size = q + 1 := by rw [← hw1, World.size_alloc, hq]
  have hR1 : Whole w1 q 27 (vc t o a b c d) := by rw [← hw1, ← hq]; exact Whole.new w _ _
  have hb1 : Below q w w1 := by rw [← hw1, ← hq]; exact (Below.refl _ _).alloc (Nat.le_refl _) _
  have HR := hide hR1
  have HB := hide hb1
  have HN := hide hn
  have c0 : w1.cell? ⟨q, 0, none⟩ = some (.int .i64 t) := hR1.cell 0
  have HS1 := hide hs1
  obtain ⟨r0, r1, r2, r3, r4, r5, r6, r7, r8, r9, r10, r11, r12, r13⟩ := vc_cells hR1
  clear hR1 hb1 hn r0
  by_cases hn0 : n = 0
  · have HVF : Hid (validB t o a b c d = false) := hide (by unfold validB; rw [HN.out, hn0]; rfl)
    subst hn0
    clear hn4
    go_enter Tryd.func31, Tryd.ntmps31
    go_wp2_with fail
    refine (rlanes_any _ _).mono ?_
    rintro en w' ⟨rfl, rfl⟩
    rw [HN.out]
    go_wp2_with fail
    go_ret
    refine ⟨?_, by first | exact HB.out | (rw [hq]; exact HB.out)⟩
    rw [HVF.out]
    (try rfl)
  have n0 : (n == 0) = false := beq_eq_false_iff_ne.2 hn0
  have HNP : Hid (0 < n) := hide (by omega)
  go_enter Tryd.func31, Tryd.ntmps31
  go_wp2_with fail
  refine (rlanes_any _ _).mono ?_
  rintro en w' ⟨rfl, rfl⟩
  rw [HN.out]
  go_wp2_with fail
  clear r1 r2 r3 r4 r5 r6 r7 r8 r9 r10 r11 r12 r13 c0 hw1 hs1 n0 hn0
  go_loopw [13] (fun z wr => ∃ i : Nat, i ≤ 4 ∧ z = .int .i64 (i : Nat) ∧ Hid (oks t a b c d i = true) ∧ Hid (Below w1.heap.size w1 wr)) (fun z _ => 4 - (intOf z).toNat)
  case atStart => exact ⟨0, by omega, rfl, hide rfl, hide (Below.refl _ _)⟩
  case round =>
    obtain ⟨wq, rfl⟩ : ∃ x, x = wr := ⟨_, rfl⟩
    obtain ⟨i, hi, rfl, HO, HF⟩ := hrel
    have hRQ := HR.out.below' HF.out
    have hqs : q + 1 ≤ wq.heap.size := by have h1 := HF.out.size; rw [HS1.out] at h1; exact h1
    have HBQ : Hid (Below q w wq) := hide (HB.out.trans (HF.out.mono (by rw [HS1.out]; omega)))
    obtain ⟨c0, c1, c2, c3, c4, c5, c6, c7, c8, c9, c10, c11, c12, c13⟩ := vc_cells hRQ
    by_cases hlt : i < 4
    · obtain ⟨l, hl⟩ : ∃ l, [a, b, c, d][i]? = some l := ⟨_, List.getElem?_eq_getElem hlt⟩
      have HG : Hid (oks t a b c d (i + 1) = okAt t i l) := hide (by rw [oks_succ t a b c d i l hl, HO.out, Bool.true_and])
      have hix : ∀ W, Sem.run Tryd.prog (Instr.index 25 (.agg #[.int .i64 a.n, .bool a.p, .bool a.u, .int .i64 b.n, .bool b.p, .bool b.u, .int .i64 c.n, .bool c.p, .bool c.u, .int .i64 d.n, .bool d.p, .bool d.u]) (.int .i64 (i : Nat))) W = .ok (.agg #[.int .i64 l.n, .bool l.p, .bool l.u]) W := by
        intro W
        rcases (show i = 0 ∨ i = 1 ∨ i = 2 ∨ i = 3 by omega) with rfl | rfl | rfl | rfl
        · injection hl with hl; subst hl; kernel_rfl
        · injection hl with hl; subst hl; kernel_rfl
        · injection hl with hl; subst hl; kernel_rfl
        · injection hl with hl; subst hl; kernel_rfl
      obtain ⟨sq, hsq⟩ : ∃ s, wq.heap.size = s := ⟨_, rfl⟩
      have hlt' : (i : Int) < 4 := by omega
      clear hl HO
      obtain ⟨ln, lp, lu⟩ := l
      obtain ⟨z, hz⟩ : ∃ z, (ln != 0) = z := ⟨_, rfl⟩
      obtain ⟨lt, hlt2⟩ : ∃ x, laneT t = x := ⟨_, rfl⟩
      obtain ⟨y, hy⟩ : ∃ y, wrapI lt ln = y := ⟨_, rfl⟩
      obtain ⟨x, hx⟩ : ∃ x, (y != ln) = x := ⟨_, rfl⟩
      obtain ⟨m, hm⟩ : ∃ m, decide ((i : Int) < n) = m := ⟨_, rfl⟩
      have hm2 : decide ((i : Int) ≥ n) = !m := by rw [← hm]; by_cases h : (i : Int) < n <;> simp [h] <;> omega
      have hm3 : decide (n ≤ (i : Int)) = !m := hm2
      have HZX : Hid (z = false → x = false) := hide (fun h => by
        rw [h] at hz
        have h0 : ln = 0 := by simpa using hz
        subst h0
        rw [wrapI_zero] at hy
        rw [← hx, ← hy]; rfl)
      have HOKF : Hid (okAt t i ⟨ln, lp, lu⟩ = (if m = true then !(lp && lu) && !((lp || lu) && z) && !x else !lp && !lu && !z)) := hide (by
        unfold okAt
        cases m with
        | true => rw [if_pos (by rw [HN.out]; exact of_decide_eq_true hm), if_pos rfl]; unfold okLane; rw [hlt2, hy, hz, ← hx]; simp [bne]
        | false => rw [if_neg (by rw [HN.out]; exact of_decide_eq_false hm), if_neg (by simp)]; unfold zeroL; rw [← hz]; simp [bne])
      have HL1 := hide (fun W => rlanet_at (t := t) (lt := lt) hlt2 W)
      have HL2 := hide (fun W => rwrap_at (t := lt) (n := ln) hy W)
      clear hlt2 hy hlt
      cases lp <;> cases lu <;> cases z <;> cases x <;> cases m
      all_goals first
        | exact Bool.noConfusion (HZX.out rfl)
        | skip
      · go_wp2_with fail
        obtain ⟨wa, hwa⟩ : ∃ x, wq.alloc (.cells #[.int .i64 ln, .bool false, .bool false] 24) = x := ⟨_, rfl⟩
        rw [hwa]
        have hbA : Below wq.heap.size wq wa := by rw [← hwa]; exact (Below.refl _ _).alloc (Nat.le_refl _) _
        have HBX : Hid (Below w1.heap.size w1 wa) := hide (HF.out.trans (hbA.mono HF.out.size))
        have HBQA : Hid (Below q w wa) := hide (HBQ.out.trans (hbA.mono (by omega)))
        clear hwa hsq hbA
        go_quiet (fail)
        have HBY := hide (Below.drewN' HBX.out nq)
        have HBE := hide (Below.drewN' HBQA.out nq)
        go_wp2_with fail
        go_roundw
        case rel => exact ⟨i + 1, by omega, by go_num, hide (by rw [HG.out, HOKF.out]; rfl), HBY⟩
        case measure => simp [intOf]; omega
      · go_wp2_with fail
        obtain ⟨wa, hwa⟩ : ∃ x, wq.alloc (.cells #[.int .i64 ln, .bool false, .bool false] 24) = x := ⟨_, rfl⟩
        rw [hwa]
        have hbA : Below wq.heap.size wq wa := by rw [← hwa]; exact (Below.refl _ _).alloc (Nat.le_refl _) _
        have hL : Whole wa sq 24 #[.int .i64 ln, .bool false, .bool false] := by rw [← hwa, ← hsq]; exact Whole.new wq _ _
        have l0 : wa.cell? ⟨sq, 0, none⟩ = some (.int .i64 ln) := hL.cell 0
        have k0 : wa.cell? ⟨q, 0, none⟩ = some (.int .i64 t) := (hRQ.below' hbA).cell 0
        have HBX : Hid (Below w1.heap.size w1 wa) := hide (HF.out.trans (hbA.mono HF.out.size))
        have HBQA : Hid (Below q w wa) := hide (HBQ.out.trans (hbA.mono (by omega)))
        clear hL hwa hsq hbA
        go_quiet (first | (go_at_call 35; exact Calls.quiet_of_same ((HL1.out _).mono fun _ _ ⟨e1, e2⟩ => ⟨e1, e2.symm⟩)) | (go_at_call 34; exact Calls.quiet_of_same ((HL2.out _).mono fun _ _ ⟨e1, e2⟩ => ⟨e1, e2.symm⟩)))
        have HBY := hide (Below.drewN' HBX.out nq)
        have HBE := hide (Below.drewN' HBQA.out nq)
        go_wp2_with fail
        go_roundw
        case rel => exact ⟨i + 1, by omega, by go_num, hide (by rw [HG.out, HOKF.out]; rfl), HBY⟩
        case measure => simp [intOf]; omega
      · go_wp2_with fail
        have HBE : Hid (Below q w (wq.alloc (.cells #[.int .i64 ln, .bool false, .bool false] 24))) := hide (HBQ.out.alloc (by omega) _)
        have HVF : Hid (validB t o a b c d = false) := hide (by unfold validB; rw [oks_end (i := i + 1) (by omega) (by rw [HG.out, HOKF.out]; rfl), Bool.and_false, Bool.false_and])
        go_ret
        refine ⟨?_, by first | exact HBE.out | (rw [hq]; exact HBE.out)⟩
        rw [HVF.out]
        (try rfl)
      · go_wp2_with fail
        obtain ⟨wa, hwa⟩ : ∃ x, wq.alloc (.cells #[.int .i64 ln, .bool false, .bool false] 24) = x := ⟨_, rfl⟩
        rw [hwa]
        have hbA : Below wq.heap.size wq wa := by rw [← hwa]; exact (Below.refl _ _).alloc (Nat.le_refl _) _
        have hL : Whole wa sq 24 #[.int .i64 ln, .bool false, .bool false] := by rw [← hwa, ← hsq]; exact Whole.new wq _ _
        have l0 : wa.cell? ⟨sq, 0, none⟩ = some (.int .i64 ln) := hL.cell 0
        have k0 : wa.cell? ⟨q, 0, none⟩ = some (.int .i64 t) := (hRQ.below' hbA).cell 0
        have HBX : Hid (Below w1.heap.size w1 wa) := hide (HF.out.trans (hbA.mono HF.out.size))
        have HBQA : Hid (Below q w wa) := hide (HBQ.out.trans (hbA.mono (by omega)))
        clear hL hwa hsq hbA
        go_quiet (first | (go_at_call 35; exact Calls.quiet_of_same ((HL1.out _).mono fun _ _ ⟨e1, e2⟩ => ⟨e1, e2.symm⟩)) | (go_at_call 34; exact Calls.quiet_of_same ((HL2.out _).mono fun _ _ ⟨e1, e2⟩ => ⟨e1, e2.symm⟩)))
        have HBY := hide (Below.drewN' HBX.out nq)
        have HBE := hide (Below.drewN' HBQA.out nq)
        go_wp2_with fail
        go_roundw
        case rel => exact ⟨i + 1, by omega, by go_num, hide (by rw [HG.out, HOKF.out]; rfl), HBY⟩
        case measure => simp [intOf]; omega
      · go_wp2_with fail
        have HBE : Hid (Below q w (wq.alloc (.cells #[.int .i64 ln, .bool false, .bool false] 24))) := hide (HBQ.out.alloc (by omega) _)
        have HVF : Hid (validB t o a b c d = false) := hide (by unfold validB; rw [oks_end (i := i + 1) (by omega) (by rw [HG.out, HOKF.out]; rfl), Bool.and_false, Bool.false_and])
        go_ret
        refine ⟨?_, by first | exact HBE.out | (rw [hq]; exact HBE.out)⟩
        rw [HVF.out]
        (try rfl)
      · go_wp2_with fail
        obtain ⟨wa, hwa⟩ : ∃ x, wq.alloc (.cells #[.int .i64 ln, .bool false, .bool false] 24) = x := ⟨_, rfl⟩
        rw [hwa]
        have hbA : Below wq.heap.size wq wa := by rw [← hwa]; exact (Below.refl _ _).alloc (Nat.le_refl _) _
        have hL : Whole wa sq 24 #[.int .i64 ln, .bool false, .bool false] := by rw [← hwa, ← hsq]; exact Whole.new wq _ _
        have l0 : wa.cell? ⟨sq, 0, none⟩ = some (.int .i64 ln) := hL.cell 0
        have k0 : wa.cell? ⟨q, 0, none⟩ = some (.int .i64 t) := (hRQ.below' hbA).cell 0
        have HBX : Hid (Below w1.heap.size w1 wa) := hide (HF.out.trans (hbA.mono HF.out.size))
        have HBQA : Hid (Below q w wa) := hide (HBQ.out.trans (hbA.mono (by omega)))
        clear hL hwa hsq hbA
        go_quiet (first | (go_at_call 35; exact Calls.quiet_of_same ((HL1.out _).mono fun _ _ ⟨e1, e2⟩ => ⟨e1, e2.symm⟩)) | (go_at_call 34; exact Calls.quiet_of_same ((HL2.out _).mono fun _ _ ⟨e1, e2⟩ => ⟨e1, e2.symm⟩)))
        have HBY := hide (Below.drewN' HBX.out nq)
        have HBE := hide (Below.drewN' HBQA.out nq)
        go_wp2_with fail
        have HVF : Hid (validB t o a b c d = false) := hide (by unfold validB; rw [oks_end (i := i + 1) (by omega) (by rw [HG.out, HOKF.out]; rfl), Bool.and_false, Bool.false_and])
        go_ret
        refine ⟨?_, by first | exact HBE.out | (rw [hq]; exact HBE.out)⟩
        rw [HVF.out]
        (try rfl)
      · go_wp2_with fail
        have HBE : Hid (Below q w (wq.alloc (.cells #[.int .i64 ln, .bool false, .bool true] 24))) := hide (HBQ.out.alloc (by omega) _)
        have HVF : Hid (validB t o a b c d = false) := hide (by unfold validB; rw [oks_end (i := i + 1) (by omega) (by rw [HG.out, HOKF.out]; rfl), Bool.and_false, Bool.false_and])
        go_ret
        refine ⟨?_, by first | exact HBE.out | (rw [hq]; exact HBE.out)⟩
        rw [HVF.out]
        (try rfl)
      · go_wp2_with fail
        obtain ⟨wa, hwa⟩ : ∃ x, wq.alloc (.cells #[.int .i64 ln, .bool false, .bool true] 24) = x := ⟨_, rfl⟩
        rw [hwa]
        have hbA : Below wq.heap.size wq wa := by rw [← hwa]; exact (Below.refl _ _).alloc (Nat.le_refl _) _
        have hL : Whole wa sq 24 #[.int .i64 ln, .bool false, .bool true] := by rw [← hwa, ← hsq]; exact Whole.new wq _ _
        have l0 : wa.cell? ⟨sq, 0, none⟩ = some (.int .i64 ln) := hL.cell 0
        have k0 : wa.cell? ⟨q, 0, none⟩ = some (.int .i64 t) := (hRQ.below' hbA).cell 0
        have HBX : Hid (Below w1.heap.size w1 wa) := hide (HF.out.trans (hbA.mono HF.out.size))
        have HBQA : Hid (Below q w wa) := hide (HBQ.out.trans (hbA.mono (by omega)))
        clear hL hwa hsq hbA
        go_quiet (first | (go_at_call 35; exact Calls.quiet_of_same ((HL1.out _).mono fun _ _ ⟨e1, e2⟩ => ⟨e1, e2.symm⟩)) | (go_at_call 34; exact Calls.quiet_of_same ((HL2.out _).mono fun _ _ ⟨e1, e2⟩ => ⟨e1, e2.symm⟩)))
        have HBY := hide (Below.drewN' HBX.out nq)
        have HBE := hide (Below.drewN' HBQA.out nq)
        go_wp2_with fail
        go_roundw
        case rel => exact ⟨i + 1, by omega, by go_num, hide (by rw [HG.out, HOKF.out]; rfl), HBY⟩
        case measure => simp [intOf]; omega
      · go_wp2_with fail
        have HBE : Hid (Below q w (wq.alloc (.cells #[.int .i64 ln, .bool false, .bool true] 24))) := hide (HBQ.out.alloc (by omega) _)
        have HVF : Hid (validB t o a b c d = false) := hide (by unfold validB; rw [oks_end (i := i + 1) (by omega) (by rw [HG.out, HOKF.out]; rfl), Bool.and_false, Bool.false_and])
        go_ret
        refine ⟨?_, by first | exact HBE.out | (rw [hq]; exact HBE.out)⟩
        rw [HVF.out]
        (try rfl)
      · go_wp2_with fail
        have HBE : Hid (Below q w (wq.alloc (.cells #[.int .i64 ln, .bool false, .bool true] 24))) := hide (HBQ.out.alloc (by omega) _)
        have HVF : Hid (validB t o a b c d = false) := hide (by unfold validB; rw [oks_end (i := i + 1) (by omega) (by rw [HG.out, HOKF.out]; rfl), Bool.and_false, Bool.false_and])
        go_ret
        refine ⟨?_, by first | exact HBE.out | (rw [hq]; exact HBE.out)⟩
        rw [HVF.out]
        (try rfl)
      · go_wp2_with fail
        have HBE : Hid (Below q w (wq.alloc (.cells #[.int .i64 ln, .bool false, .bool true] 24))) := hide (HBQ.out.alloc (by omega) _)
        have HVF : Hid (validB t o a b c d = false) := hide (by unfold validB; rw [oks_end (i := i + 1) (by omega) (by rw [HG.out, HOKF.out]; rfl), Bool.and_false, Bool.false_and])
        go_ret
        refine ⟨?_, by first | exact HBE.out | (rw [hq]; exact HBE.out)⟩
        rw [HVF.out]
        (try rfl)
      · go_wp2_with fail
        have HBE : Hid (Below q w (wq.alloc (.cells #[.int .i64 ln, .bool false, .bool true] 24))) := hide (HBQ.out.alloc (by omega) _)
        have HVF : Hid (validB t o a b c d = false) := hide (by unfold validB; rw [oks_end (i := i + 1) (by omega) (by rw [HG.out, HOKF.out]; rfl), Bool.and_false, Bool.false_and])
        go_ret
        refine ⟨?_, by first | exact HBE.out | (rw [hq]; exact HBE.out)⟩
        rw [HVF.out]
        (try rfl)
      · go_wp2_with fail
        have HBE : Hid (Below q w (wq.alloc (.cells #[.int .i64 ln, .bool true, .bool false] 24))) := hide (HBQ.out.alloc (by omega) _)
        have HVF : Hid (validB t o a b c d = false) := hide (by unfold validB; rw [oks_end (i := i + 1) (by omega) (by rw [HG.out, HOKF.out]; rfl), Bool.and_false, Bool.false_and])
        go_ret
        refine ⟨?_, by first | exact HBE.out | (rw [hq]; exact HBE.out)⟩
        rw [HVF.out]
        (try rfl)
      · go_wp2_with fail
        obtain ⟨wa, hwa⟩ : ∃ x, wq.alloc (.cells #[.int .i64 ln, .bool true, .bool false] 24) = x := ⟨_, rfl⟩
        rw [hwa]
        have hbA : Below wq.heap.size wq wa := by rw [← hwa]; exact (Below.refl _ _).alloc (Nat.le_refl _) _
        have hL : Whole wa sq 24 #[.int .i64 ln, .bool true, .bool false] := by rw [← hwa, ← hsq]; exact Whole.new wq _ _
        have l0 : wa.cell? ⟨sq, 0, none⟩ = some (.int .i64 ln) := hL.cell 0
        have k0 : wa.cell? ⟨q, 0, none⟩ = some (.int .i64 t) := (hRQ.below' hbA).cell 0
        have HBX : Hid (Below w1.heap.size w1 wa) := hide (HF.out.trans (hbA.mono HF.out.size))
        have HBQA : Hid (Below q w wa) := hide (HBQ.out.trans (hbA.mono (by omega)))
        clear hL hwa hsq hbA
        go_quiet (first | (go_at_call 35; exact Calls.quiet_of_same ((HL1.out _).mono fun _ _ ⟨e1, e2⟩ => ⟨e1, e2.symm⟩)) | (go_at_call 34; exact Calls.quiet_of_same ((HL2.out _).mono fun _ _ ⟨e1, e2⟩ => ⟨e1, e2.symm⟩)))
        have HBY := hide (Below.drewN' HBX.out nq)
        have HBE := hide (Below.drewN' HBQA.out nq)
        go_wp2_with fail
        go_roundw
        case rel => exact ⟨i + 1, by omega, by go_num, hide (by rw [HG.out, HOKF.out]; rfl), HBY⟩
        case measure => simp [intOf]; omega
      · go_wp2_with fail
        have HBE : Hid (Below q w (wq.alloc (.cells #[.int .i64 ln, .bool true, .bool false] 24))) := hide (HBQ.out.alloc (by omega) _)
        have HVF : Hid (validB t o a b c d = false) := hide (by unfold validB; rw [oks_end (i := i + 1) (by omega) (by rw [HG.out, HOKF.out]; rfl), Bool.and_false, Bool.false_and])
        go_ret
        refine ⟨?_, by first | exact HBE.out | (rw [hq]; exact HBE.out)⟩
        rw [HVF.out]
        (try rfl)
      · go_wp2_with fail
        have HBE : Hid (Below q w (wq.alloc (.cells #[.int .i64 ln, .bool true, .bool false] 24))) := hide (HBQ.out.alloc (by omega) _)
        have HVF : Hid (validB t o a b c d = false) := hide (by unfold validB; rw [oks_end (i := i + 1) (by omega) (by rw [HG.out, HOKF.out]; rfl), Bool.and_false, Bool.false_and])
        go_ret
        refine ⟨?_, by first | exact HBE.out | (rw [hq]; exact HBE.out)⟩
        rw [HVF.out]
        (try rfl)
      · go_wp2_with fail
        have HBE : Hid (Below q w (wq.alloc (.cells #[.int .i64 ln, .bool true, .bool false] 24))) := hide (HBQ.out.alloc (by omega) _)
        have HVF : Hid (validB t o a b c d = false) := hide (by unfold validB; rw [oks_end (i := i + 1) (by omega) (by rw [HG.out, HOKF.out]; rfl), Bool.and_false, Bool.false_and])
        go_ret
        refine ⟨?_, by first | exact HBE.out | (rw [hq]; exact HBE.out)⟩
        rw [HVF.out]
        (try rfl)
      · go_wp2_with fail
        have HBE : Hid (Below q w (wq.alloc (.cells #[.int .i64 ln, .bool true, .bool false] 24))) := hide (HBQ.out.alloc (by omega) _)
        have HVF : Hid (validB t o a b c d = false) := hide (by unfold validB; rw [oks_end (i := i + 1) (by omega) (by rw [HG.out, HOKF.out]; rfl), Bool.and_false, Bool.false_and])
        go_ret
        refine ⟨?_, by first | exact HBE.out | (rw [hq]; exact HBE.out)⟩
        rw [HVF.out]
        (try rfl)
      · go_wp2_with fail
        have HBE : Hid (Below q w (wq.alloc (.cells #[.int .i64 ln, .bool true, .bool true] 24))) := hide (HBQ.out.alloc (by omega) _)
        have HVF : Hid (validB t o a b c d = false) := hide (by unfold validB; rw [oks_end (i := i + 1) (by omega) (by rw [HG.out, HOKF.out]; rfl), Bool.and_false, Bool.false_and])
        go_ret
        refine ⟨?_, by first | exact HBE.out | (rw [hq]; exact HBE.out)⟩
        rw [HVF.out]
        (try rfl)
      · go_wp2_with fail
        have HBE : Hid (Below q w (wq.alloc (.cells #[.int .i64 ln, .bool true, .bool true] 24))) := hide (HBQ.out.alloc (by omega) _)
        have HVF : Hid (validB t o a b c d = false) := hide (by unfold validB; rw [oks_end (i := i + 1) (by omega) (by rw [HG.out, HOKF.out]; rfl), Bool.and_false, Bool.false_and])
        go_ret
        refine ⟨?_, by first | exact HBE.out | (rw [hq]; exact HBE.out)⟩
        rw [HVF.out]
        (try rfl)
      · go_wp2_with fail
        have HBE : Hid (Below q w (wq.alloc (.cells #[.int .i64 ln, .bool true, .bool true] 24))) := hide (HBQ.out.alloc (by omega) _)
        have HVF : Hid (validB t o a b c d = false) := hide (by unfold validB; rw [oks_end (i := i + 1) (by omega) (by rw [HG.out, HOKF.out]; rfl), Bool.and_false, Bool.false_and])
        go_ret
        refine ⟨?_, by first | exact HBE.out | (rw [hq]; exact HBE.out)⟩
        rw [HVF.out]
        (try rfl)
      · go_wp2_with fail
        have HBE : Hid (Below q w (wq.alloc (.cells #[.int .i64 ln, .bool true, .bool true] 24))) := hide (HBQ.out.alloc (by omega) _)
        have HVF : Hid (validB t o a b c d = false) := hide (by unfold validB; rw [oks_end (i := i + 1) (by omega) (by rw [HG.out, HOKF.out]; rfl), Bool.and_false, Bool.false_and])
        go_ret
        refine ⟨?_, by first | exact HBE.out | (rw [hq]; exact HBE.out)⟩
        rw [HVF.out]
        (try rfl)
      · go_wp2_with fail
        have HBE : Hid (Below q w (wq.alloc (.cells #[.int .i64 ln, .bool true, .bool true] 24))) := hide (HBQ.out.alloc (by omega) _)
        have HVF : Hid (validB t o a b c d = false) := hide (by unfold validB; rw [oks_end (i := i + 1) (by omega) (by rw [HG.out, HOKF.out]; rfl), Bool.and_false, Bool.false_and])
        go_ret
        refine ⟨?_, by first | exact HBE.out | (rw [hq]; exact HBE.out)⟩
        rw [HVF.out]
        (try rfl)
      · go_wp2_with fail
        have HBE : Hid (Below q w (wq.alloc (.cells #[.int .i64 ln, .bool true, .bool true] 24))) := hide (HBQ.out.alloc (by omega) _)
        have HVF : Hid (validB t o a b c d = false) := hide (by unfold validB; rw [oks_end (i := i + 1) (by omega) (by rw [HG.out, HOKF.out]; rfl), Bool.and_false, Bool.false_and])
        go_ret
        refine ⟨?_, by first | exact HBE.out | (rw [hq]; exact HBE.out)⟩
        rw [HVF.out]
        (try rfl)
    · obtain rfl : i = 4 := by omega
      clear hlt
      have HVB : Hid (validB t o a b c d = (if points t a.p = true then decide (-1 ≤ o) else o == 0)) := hide (by unfold validB; rw [HO.out, HN.out, decide_eq_true HNP.out, Bool.true_and, Bool.true_and])
      obtain ⟨x1, hx1⟩ : ∃ x, decide (-1 ≤ o) = x := ⟨_, rfl⟩
      have hx1' : decide (o ≥ -1) = x1 := hx1
      obtain ⟨x2, hx2⟩ : ∃ x, (o == 0) = x := ⟨_, rfl⟩
      obtain ⟨x5, hx5⟩ : ∃ x, (t == 5) = x := ⟨_, rfl⟩
      have hx5' : (t != 5) = !x5 := by rw [← hx5]; rfl
      obtain ⟨ap, hap⟩ : ∃ p, a.p = p := ⟨_, rfl⟩
      have HX := hide (And.intro hx1 (And.intro hx2 (And.intro hx5 hap)))
      rw [hap] at c3
      clear hRQ hqs
      cases x1 <;> cases x2 <;> cases x5 <;> cases ap
      all_goals
        go_wp2_with fail
        go_ret
        refine ⟨?_, by first | exact HBQ.out | (rw [hq]; exact HBQ.out)⟩
        rw [HVB.out]
        unfold points
        rw [HX.out.1, HX.out.2.1, HX.out.2.2.1, HX.out.2.2.2]
        rfl
end Go.Proofs.YtojeaghljebbbaaDoor

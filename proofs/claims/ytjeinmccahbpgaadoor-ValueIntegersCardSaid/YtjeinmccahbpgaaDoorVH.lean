/-
  Layer 11 (value): Valid whole; HasPoison, of the program and of the reference.
-/
import Derived.Test.YtjeinmccahbpgaaDoorVR
namespace Go.Proofs.YtjeinmccahbpgaaDoor
open Go.RowKit

theorem valid_any (t o : Int) (a b c d : LaneD) (w : World) (hT : Tab w) :
    Calls Tryd.prog 22 #[.agg #[.int .i64 t, .int .i64 o, .int .i64 a.n, .bool a.p, .bool a.u, .int .i64 b.n, .bool b.p, .bool b.u, .int .i64 c.n, .bool c.p, .bool c.u, .int .i64 d.n, .bool d.p, .bool d.u]] w fun e w' => e = .returned (.bool (validB t o a b c d)) ∧ Below w.heap.size w w' := valid_n t o a b c d w hT _ rfl (numL_cases t)
theorem rvalid_any (t o : Int) (a b c d : LaneD) (w : World) :
    Calls Tryd.prog 23 #[.agg #[.int .i64 t, .int .i64 o, .int .i64 a.n, .bool a.p, .bool a.u, .int .i64 b.n, .bool b.p, .bool b.u, .int .i64 c.n, .bool c.p, .bool c.u, .int .i64 d.n, .bool d.p, .bool d.u]] w fun e w' => e = .returned (.bool (validB t o a b c d)) ∧ Below w.heap.size w w' := rvalid_n t o a b c d w _ rfl (numL_cases t)
/-- Is one of the lanes before i poison? -/
def poi (a b c d : LaneD) : Nat → Bool
  | 0 => false
  | 1 => a.p
  | 2 => a.p || b.p
  | 3 => a.p || b.p || c.p
  | _ => a.p || b.p || c.p || d.p
theorem poi_succ (a b c d : LaneD) (i : Nat) (l : LaneD) (h : [a, b, c, d][i]? = some l) : poi a b c d (i + 1) = (poi a b c d i || l.p) := by
  match i, h with
  | 0, h => injection h with h; subst h; simp [poi]
  | 1, h => injection h with h; subst h; rfl
  | 2, h => injection h with h; subst h; rfl
  | 3, h => injection h with h; subst h; rfl
theorem poi_end {a b c d : LaneD} {i : Nat} (hi : i ≤ 4) (h : poi a b c d i = true) : poi a b c d 4 = true := by
  match i, hi with
  | 0, _ => exact absurd h (by simp [poi])
  | 1, _ => simp only [poi] at h ⊢; simp [h]
  | 2, _ => simp only [poi] at h ⊢; simp [h]
  | 3, _ => simp only [poi] at h ⊢; simp [h]
  | 4, _ => exact h
def hasPoi (t o : Int) (a b c d : LaneD) : Bool := validB t o a b c d && poi a b c d 4

set_option maxRecDepth 100000 in
set_option maxHeartbeats 8000000 in
theorem haspoison_any (t o : Int) (a b c d : LaneD) (w : World) (hT : Tab w) :
    Calls Tryd.prog 24 #[.agg #[.int .i64 t, .int .i64 o, .int .i64 a.n, .bool a.p, .bool a.u, .int .i64 b.n, .bool b.p, .bool b.u, .int .i64 c.n, .bool c.p, .bool c.u, .int .i64 d.n, .bool d.p, .bool d.u]] w fun e w' => e = .returned (.bool (hasPoi t o a b c d)) ∧ Below w.heap.size w w' := by
  obtain ⟨q, hq⟩ : ∃ q, w.heap.size = q := ⟨_, rfl⟩
  obtain ⟨w1, hw1⟩ : ∃ x, w.alloc (.cells #[.int .i64 t, .int .i64 o, .int .i64 a.n, .bool a.p, .bool a.u, .int .i64 b.n, .bool b.p, .bool b.u, .int .i64 c.n, .bool c.p, .bool c.u, .int .i64 d.n, .bool d.p, .bool d.u] 27) = x := ⟨_, rfl⟩
  have hs1 : w1.heap.size = q + 1 := by rw [← hw1, World.size_alloc, hq]
  have hR1 : Whole w1 q 27 (vc t o a b c d) := by rw [← hw1, ← hq]; exact Whole.new w _ _
  have hb1 : Below q w w1 := by rw [← hw1, ← hq]; exact (Below.refl _ _).alloc (Nat.le_refl _) _
  have HV := hide (valid_any t o a b c d w1 (hT.below (by rw [hq]; exact hb1)))
  have HR := hide hR1
  have HB := hide hb1
  obtain ⟨r0, r1, r2, r3, r4, r5, r6, r7, r8, r9, r10, r11, r12, r13⟩ := vc_cells hR1
  obtain ⟨vb, hvb⟩ : ∃ v, validB t o a b c d = v := ⟨_, rfl⟩
  have HVB := hide hvb
  rw [hvb] at HV
  clear hR1 hb1 hvb hT
  cases vb
  · go_enter Tryd.func24, Tryd.ntmps24
    go_wp2_with fail
    refine HV.out.mono ?_
    rintro en w2 ⟨rfl, hb2⟩
    have HB2 : Hid (Below q w w2) := hide (HB.out.trans (hb2.mono (by omega)))
    clear hb2 r0 r1 r2 r3 r4 r5 r6 r7 r8 r9 r10 r11 r12 r13
    go_wp2_with fail
    go_ret
    refine ⟨?_, by first | exact HB2.out | (rw [hq]; exact HB2.out)⟩
    unfold hasPoi
    rw [HVB.out]
    (try rfl)
  · go_enter Tryd.func24, Tryd.ntmps24
    go_wp2_with fail
    refine HV.out.mono ?_
    rintro en w2 ⟨rfl, hb2⟩
    have HB2 : Hid (Below q w w2) := hide (HB.out.trans (hb2.mono (by omega)))
    have HR2 := hide (HR.out.below' hb2)
    have HS2 : Hid (q + 1 ≤ w2.heap.size) := hide (by rw [← hs1]; exact hb2.size)
    clear hb2 r0 r1 r2 r3 r4 r5 r6 r7 r8 r9 r10 r11 r12 r13 hw1 hs1
    obtain ⟨r0, r1, r2, r3, r4, r5, r6, r7, r8, r9, r10, r11, r12, r13⟩ := vc_cells HR2.out
    go_wp2_with fail
    clear r0 r1 r2 r3 r4 r5 r6 r7 r8 r9 r10 r11 r12 r13
    go_loopw [10] (fun z wr => ∃ i : Nat, i ≤ 4 ∧ z = .int .i64 (i : Nat) ∧ Hid (poi a b c d i = false) ∧ Hid (Below w2.heap.size w2 wr)) (fun z _ => 4 - (intOf z).toNat)
    case atStart => exact ⟨0, by omega, rfl, hide rfl, hide (Below.refl _ _)⟩
    case round =>
      obtain ⟨wq, rfl⟩ : ∃ x, x = wr := ⟨_, rfl⟩
      obtain ⟨i, hi, rfl, HO, HF⟩ := hrel
      have HBQ : Hid (Below q w wq) := hide (HB2.out.trans (HF.out.mono (by have := HS2.out; omega)))
      have hqs : q + 1 ≤ wq.heap.size := by have h1 := HF.out.size; have := HS2.out; omega
      by_cases hlt : i < 4
      · obtain ⟨l, hl⟩ : ∃ l, [a, b, c, d][i]? = some l := ⟨_, List.getElem?_eq_getElem hlt⟩
        have HG : Hid (poi a b c d (i + 1) = l.p) := hide (by rw [poi_succ a b c d i l hl, HO.out, Bool.false_or])
        have hix : ∀ W, Sem.run Tryd.prog (Instr.index 25 (.agg #[.int .i64 a.n, .bool a.p, .bool a.u, .int .i64 b.n, .bool b.p, .bool b.u, .int .i64 c.n, .bool c.p, .bool c.u, .int .i64 d.n, .bool d.p, .bool d.u]) (.int .i64 (i : Nat))) W = .ok (.agg #[.int .i64 l.n, .bool l.p, .bool l.u]) W := by
          intro W
          rcases (show i = 0 ∨ i = 1 ∨ i = 2 ∨ i = 3 by omega) with rfl | rfl | rfl | rfl
          · injection hl with hl; subst hl; kernel_rfl
          · injection hl with hl; subst hl; kernel_rfl
          · injection hl with hl; subst hl; kernel_rfl
          · injection hl with hl; subst hl; kernel_rfl
        have hlt' : (i : Int) < 4 := by omega
        have hi5 : i + 1 ≤ 4 := by omega
        obtain ⟨sq, hsq⟩ : ∃ s, wq.heap.size = s := ⟨_, rfl⟩
        clear hl HO
        obtain ⟨ln, lp, lu⟩ := l
        have HBE : ∀ p u : Bool, Hid (Below q w (wq.alloc (.cells #[.int .i64 ln, .bool p, .bool u] 24))) := fun p u => hide (HBQ.out.alloc (by omega) _)
        have HBY : ∀ p u : Bool, Hid (Below w2.heap.size w2 (wq.alloc (.cells #[.int .i64 ln, .bool p, .bool u] 24))) := fun p u => hide (HF.out.alloc HF.out.size _)
        cases lp <;> cases lu
        · go_wp2_with fail
          go_roundw
          case rel => exact ⟨i + 1, by omega, by go_num, HG, HBY _ _⟩
          case measure => simp [intOf]; omega
        · go_wp2_with fail
          go_roundw
          case rel => exact ⟨i + 1, by omega, by go_num, HG, HBY _ _⟩
          case measure => simp [intOf]; omega
        · have HPE := hide (poi_end hi5 HG.out)
          go_wp2_with fail
          go_ret
          refine ⟨?_, by first | exact (HBE _ _).out | (rw [hq]; exact (HBE _ _).out)⟩
          unfold hasPoi
          rw [HVB.out, HPE.out]
          (try rfl)
        · have HPE := hide (poi_end hi5 HG.out)
          go_wp2_with fail
          go_ret
          refine ⟨?_, by first | exact (HBE _ _).out | (rw [hq]; exact (HBE _ _).out)⟩
          unfold hasPoi
          rw [HVB.out, HPE.out]
          (try rfl)
      · obtain rfl : i = 4 := by omega
        clear hlt
        go_wp2_with fail
        go_ret
        refine ⟨?_, by first | exact HBQ.out | (rw [hq]; exact HBQ.out)⟩
        unfold hasPoi
        rw [HVB.out, HO.out]
        (try rfl)

set_option maxRecDepth 100000 in
set_option maxHeartbeats 8000000 in
theorem rhaspoison_any (t o : Int) (a b c d : LaneD) (w : World) :
    Calls Tryd.prog 25 #[.agg #[.int .i64 t, .int .i64 o, .int .i64 a.n, .bool a.p, .bool a.u, .int .i64 b.n, .bool b.p, .bool b.u, .int .i64 c.n, .bool c.p, .bool c.u, .int .i64 d.n, .bool d.p, .bool d.u]] w fun e w' => e = .returned (.bool (hasPoi t o a b c d)) ∧ Below w.heap.size w w' := by
  obtain ⟨q, hq⟩ : ∃ q, w.heap.size = q := ⟨_, rfl⟩
  obtain ⟨w1, hw1⟩ : ∃ x, w.alloc (.cells #[.int .i64 t, .int .i64 o, .int .i64 a.n, .bool a.p, .bool a.u, .int .i64 b.n, .bool b.p, .bool b.u, .int .i64 c.n, .bool c.p, .bool c.u, .int .i64 d.n, .bool d.p, .bool d.u] 27) = x := ⟨_, rfl⟩
  have hs1 : w1.heap.size = q + 1 := by rw [← hw1, World.size_alloc, hq]
  have hR1 : Whole w1 q 27 (vc t o a b c d) := by rw [← hw1, ← hq]; exact Whole.new w _ _
  have hb1 : Below q w w1 := by rw [← hw1, ← hq]; exact (Below.refl _ _).alloc (Nat.le_refl _) _
  have HV := hide (rvalid_any t o a b c d w1)
  have HR := hide hR1
  have HB := hide hb1
  obtain ⟨r0, r1, r2, r3, r4, r5, r6, r7, r8, r9, r10, r11, r12, r13⟩ := vc_cells hR1
  obtain ⟨vb, hvb⟩ : ∃ v, validB t o a b c d = v := ⟨_, rfl⟩
  have HVB := hide hvb
  rw [hvb] at HV
  clear hR1 hb1 hvb
  cases vb
  · go_enter Tryd.func25, Tryd.ntmps25
    go_wp2_with fail
    refine HV.out.mono ?_
    rintro en w2 ⟨rfl, hb2⟩
    have HB2 : Hid (Below q w w2) := hide (HB.out.trans (hb2.mono (by omega)))
    clear hb2 r0 r1 r2 r3 r4 r5 r6 r7 r8 r9 r10 r11 r12 r13
    go_wp2_with fail
    go_ret
    refine ⟨?_, by first | exact HB2.out | (rw [hq]; exact HB2.out)⟩
    unfold hasPoi
    rw [HVB.out]
    (try rfl)
  · go_enter Tryd.func25, Tryd.ntmps25
    go_wp2_with fail
    refine HV.out.mono ?_
    rintro en w2 ⟨rfl, hb2⟩
    have HB2 : Hid (Below q w w2) := hide (HB.out.trans (hb2.mono (by omega)))
    have HR2 := hide (HR.out.below' hb2)
    have HS2 : Hid (q + 1 ≤ w2.heap.size) := hide (by rw [← hs1]; exact hb2.size)
    clear hb2 r0 r1 r2 r3 r4 r5 r6 r7 r8 r9 r10 r11 r12 r13 hw1 hs1
    obtain ⟨r0, r1, r2, r3, r4, r5, r6, r7, r8, r9, r10, r11, r12, r13⟩ := vc_cells HR2.out
    go_wp2_with fail
    clear r0 r1 r2 r3 r4 r5 r6 r7 r8 r9 r10 r11 r12 r13
    go_loopw [10] (fun z wr => ∃ i : Nat, i ≤ 4 ∧ z = .int .i64 (i : Nat) ∧ Hid (poi a b c d i = false) ∧ Hid (Below w2.heap.size w2 wr)) (fun z _ => 4 - (intOf z).toNat)
    case atStart => exact ⟨0, by omega, rfl, hide rfl, hide (Below.refl _ _)⟩
    case round =>
      obtain ⟨wq, rfl⟩ : ∃ x, x = wr := ⟨_, rfl⟩
      obtain ⟨i, hi, rfl, HO, HF⟩ := hrel
      have HBQ : Hid (Below q w wq) := hide (HB2.out.trans (HF.out.mono (by have := HS2.out; omega)))
      have hqs : q + 1 ≤ wq.heap.size := by have h1 := HF.out.size; have := HS2.out; omega
      by_cases hlt : i < 4
      · obtain ⟨l, hl⟩ : ∃ l, [a, b, c, d][i]? = some l := ⟨_, List.getElem?_eq_getElem hlt⟩
        have HG : Hid (poi a b c d (i + 1) = l.p) := hide (by rw [poi_succ a b c d i l hl, HO.out, Bool.false_or])
        have hix : ∀ W, Sem.run Tryd.prog (Instr.index 25 (.agg #[.int .i64 a.n, .bool a.p, .bool a.u, .int .i64 b.n, .bool b.p, .bool b.u, .int .i64 c.n, .bool c.p, .bool c.u, .int .i64 d.n, .bool d.p, .bool d.u]) (.int .i64 (i : Nat))) W = .ok (.agg #[.int .i64 l.n, .bool l.p, .bool l.u]) W := by
          intro W
          rcases (show i = 0 ∨ i = 1 ∨ i = 2 ∨ i = 3 by omega) with rfl | rfl | rfl | rfl
          · injection hl with hl; subst hl; kernel_rfl
          · injection hl with hl; subst hl; kernel_rfl
          · injection hl with hl; subst hl; kernel_rfl
          · injection hl with hl; subst hl; kernel_rfl
        have hlt' : (i : Int) < 4 := by omega
        have hi5 : i + 1 ≤ 4 := by omega
        obtain ⟨sq, hsq⟩ : ∃ s, wq.heap.size = s := ⟨_, rfl⟩
        clear hl HO
        obtain ⟨ln, lp, lu⟩ := l
        have HBE : ∀ p u : Bool, Hid (Below q w (wq.alloc (.cells #[.int .i64 ln, .bool p, .bool u] 24))) := fun p u => hide (HBQ.out.alloc (by omega) _)
        have HBY : ∀ p u : Bool, Hid (Below w2.heap.size w2 (wq.alloc (.cells #[.int .i64 ln, .bool p, .bool u] 24))) := fun p u => hide (HF.out.alloc HF.out.size _)
        cases lp <;> cases lu
        · go_wp2_with fail
          go_roundw
          case rel => exact ⟨i + 1, by omega, by go_num, HG, HBY _ _⟩
          case measure => simp [intOf]; omega
        · go_wp2_with fail
          go_roundw
          case rel => exact ⟨i + 1, by omega, by go_num, HG, HBY _ _⟩
          case measure => simp [intOf]; omega
        · have HPE := hide (poi_end hi5 HG.out)
          go_wp2_with fail
          go_ret
          refine ⟨?_, by first | exact (HBE _ _).out | (rw [hq]; exact (HBE _ _).out)⟩
          unfold hasPoi
          rw [HVB.out, HPE.out]
          (try rfl)
        · have HPE := hide (poi_end hi5 HG.out)
          go_wp2_with fail
          go_ret
          refine ⟨?_, by first | exact (HBE _ _).out | (rw [hq]; exact (HBE _ _).out)⟩
          unfold hasPoi
          rw [HVB.out, HPE.out]
          (try rfl)
      · obtain rfl : i = 4 := by omega
        clear hlt
        go_wp2_with fail
        go_ret
        refine ⟨?_, by first | exact HBQ.out | (rw [hq]; exact HBQ.out)⟩
        unfold hasPoi
        rw [HVB.out, HO.out]
        (try rfl)
end Go.Proofs.YtjeinmccahbpgaaDoor

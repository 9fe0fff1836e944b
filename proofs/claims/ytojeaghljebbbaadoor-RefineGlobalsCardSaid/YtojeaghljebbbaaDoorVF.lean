/-
  Layer 11 (value): Refines, of the program and of the reference.
-/
import Derived.Test.YtojeaghljebbbaaDoorVQ
namespace Go.Proofs.YtojeaghljebbbaaDoor
open Go.RowKit

/-- The lanes before i refine. -/
def rls (a b c d a' b' c' d' : LaneD) : Nat → Bool
  | 0 => true
  | 1 => refL a a'
  | 2 => refL a a' && refL b b'
  | 3 => refL a a' && refL b b' && refL c c'
  | _ => refL a a' && refL b b' && refL c c' && refL d d'
theorem rls_succ (a b c d a' b' c' d' : LaneD) (i : Nat) (l l' : LaneD) (h : [a, b, c, d][i]? = some l) (h' : [a', b', c', d'][i]? = some l') : rls a b c d a' b' c' d' (i + 1) = (rls a b c d a' b' c' d' i && refL l l') := by
  match i, h, h' with
  | 0, h, h' => injection h with h; injection h' with h'; subst h h'; simp [rls]
  | 1, h, h' => injection h with h; injection h' with h'; subst h h'; rfl
  | 2, h, h' => injection h with h; injection h' with h'; subst h h'; rfl
  | 3, h, h' => injection h with h; injection h' with h'; subst h h'; rfl
theorem rls_end {a b c d a' b' c' d' : LaneD} {i : Nat} (hi : i ≤ 4) (h : rls a b c d a' b' c' d' i = false) : rls a b c d a' b' c' d' 4 = false := by
  match i, hi with
  | 0, _ => exact absurd h (by simp [rls])
  | 1, _ => simp only [rls] at h ⊢; simp [h]
  | 2, _ => simp only [rls] at h ⊢; simp [h]
  | 3, _ => simp only [rls] at h ⊢; simp [h]
  | 4, _ => exact h
def refV (t o : Int) (a b c d : LaneD) (t' o' : Int) (a' b' c' d' : LaneD) : Bool := validB t o a b c d && validB t' o' a' b' c' d' && (t == t') && (rls a b c d a' b' c' d' 4 && (a'.p || (o == o')))
theorem refL_np {a b : LaneD} (h : refL a b = true) (hb : b.p = false) : a.p = false := by
  obtain ⟨an, ap, au⟩ := a
  obtain ⟨bn, bp, bu⟩ := b
  simp only at hb
  subst hb
  cases ap
  · rfl
  · simp [refL] at h
/-- What the program reckons, where both are valid and of one type. -/
theorem ref_prog {t o : Int} {a b c d : LaneD} {o' : Int} {a' b' c' d' : LaneD} (h : validB t o a b c d = true) (h' : validB t o' a' b' c' d' = true) :
    (rls a b c d a' b' c' d' 4 && (a'.p || (o == o'))) = (!((points t a.p && points t a'.p) && (o != o')) && rls a b c d a' b' c' d' 4) := by
  cases hl : rls a b c d a' b' c' d' 4 with
  | false => simp
  | true =>
    have h0 : refL a a' = true := by
      have := hl
      simp only [rls, Bool.and_eq_true] at this
      exact this.1.1.1
    unfold validB at h h'
    simp only [Bool.and_eq_true] at h h'
    obtain ⟨_, h⟩ := h
    obtain ⟨_, h'⟩ := h'
    cases h5 : (t == 5) with
    | true =>
      cases hp : a'.p with
      | true => simp [points, h5]
      | false =>
        have ha := refL_np h0 hp
        simp [points, h5, ha, bne]
    | false =>
      have e1 : points t a.p = false := by unfold points; rw [h5]; rfl
      have e2 : points t a'.p = false := by unfold points; rw [h5]; rfl
      rw [e1, if_neg (by simp)] at h
      rw [e2, if_neg (by simp)] at h'
      have k1 := eq_of_beq h
      have k2 := eq_of_beq h'
      subst k1 k2
      simp [e1]

set_option maxRecDepth 100000 in
set_option maxHeartbeats 8000000 in
theorem refines_any (t o : Int) (a b c d : LaneD) (t' o' : Int) (a' b' c' d' : LaneD) (w : World) (hT : Tab w) :
    Calls Tryd.prog 27 #[.agg #[.int .i64 t, .int .i64 o, .int .i64 a.n, .bool a.p, .bool a.u, .int .i64 b.n, .bool b.p, .bool b.u, .int .i64 c.n, .bool c.p, .bool c.u, .int .i64 d.n, .bool d.p, .bool d.u], .agg #[.int .i64 t', .int .i64 o', .int .i64 a'.n, .bool a'.p, .bool a'.u, .int .i64 b'.n, .bool b'.p, .bool b'.u, .int .i64 c'.n, .bool c'.p, .bool c'.u, .int .i64 d'.n, .bool d'.p, .bool d'.u]] w fun e w' => e = .returned (.bool (refV t o a b c d t' o' a' b' c' d')) ∧ Below w.heap.size w w' := by
  obtain ⟨q, hq⟩ : ∃ q, w.heap.size = q := ⟨_, rfl⟩
  obtain ⟨w1, hw1⟩ : ∃ x, w.alloc (.cells #[.int .i64 t, .int .i64 o, .int .i64 a.n, .bool a.p, .bool a.u, .int .i64 b.n, .bool b.p, .bool b.u, .int .i64 c.n, .bool c.p, .bool c.u, .int .i64 d.n, .bool d.p, .bool d.u] 27) = x := ⟨_, rfl⟩
  have hs1 : w1.heap.size = q + 1 := by rw [← hw1, World.size_alloc, hq]
  have hA1 : Whole w1 q 27 (vc t o a b c d) := by rw [← hw1, ← hq]; exact Whole.new w _ _
  have hb1 : Below q w w1 := by rw [← hw1, ← hq]; exact (Below.refl _ _).alloc (Nat.le_refl _) _
  obtain ⟨w2, hw2⟩ : ∃ x, w1.alloc (.cells #[.int .i64 t', .int .i64 o', .int .i64 a'.n, .bool a'.p, .bool a'.u, .int .i64 b'.n, .bool b'.p, .bool b'.u, .int .i64 c'.n, .bool c'.p, .bool c'.u, .int .i64 d'.n, .bool d'.p, .bool d'.u] 27) = x := ⟨_, rfl⟩
  have hs2 : w2.heap.size = q + 1 + 1 := by rw [← hw2, World.size_alloc, hs1]
  have hB2 : Whole w2 (q + 1) 27 (vc t' o' a' b' c' d') := by rw [← hw2, ← hs1]; exact Whole.new w1 _ _
  have hb12 : Below w1.heap.size w1 w2 := by rw [← hw2]; exact (Below.refl _ _).alloc (Nat.le_refl _) _
  have HB2 : Hid (Below q w w2) := hide (hb1.trans (hb12.mono (by omega)))
  have HA2 := hide (hA1.below' hb12)
  have HC2 := hide hB2
  have HS2 : Hid (q + 1 + 1 ≤ w2.heap.size) := hide (by omega)
  have HT2 := hide ((hT.below (by rw [hq]; exact hb1)).below hb12)
  obtain ⟨v1, hv1⟩ : ∃ v, validB t o a b c d = v := ⟨_, rfl⟩
  obtain ⟨v2, hv2⟩ : ∃ v, validB t' o' a' b' c' d' = v := ⟨_, rfl⟩
  obtain ⟨te, hte⟩ : ∃ x, (t == t') = x := ⟨_, rfl⟩
  have hte' : (t != t') = !te := by rw [← hte]; rfl
  have HV1 := hide (fun W hT => valid_any t o a b c d W hT)
  have HV2 := hide (fun W hT => valid_any t' o' a' b' c' d' W hT)
  rw [hv1] at HV1
  rw [hv2] at HV2
  have HE := hide (And.intro hv1 (And.intro hv2 hte))
  obtain ⟨c0, c1, c2, c3, c4, c5, c6, c7, c8, c9, c10, c11, c12, c13⟩ := vc_cells HA2.out
  obtain ⟨e0, e1, e2, e3, e4, e5, e6, e7, e8, e9, e10, e11, e12, e13⟩ := vc_cells HC2.out
  clear hA1 hb1 hB2 hb12 hv1 hv2 hT
  go_enter Tryd.func27, Tryd.ntmps27
  go_wp2_with fail
  refine (HV1.out _ HT2.out).mono ?_
  rintro en w3 ⟨rfl, hb3⟩
  have HA3 := hide (HA2.out.below' hb3)
  have HC3 := hide (HC2.out.below' hb3)
  have HB3 : Hid (Below q w w3) := hide (HB2.out.trans (hb3.mono (by have := HS2.out; omega)))
  have HS3 : Hid (q + 1 + 1 ≤ w3.heap.size) := hide (by have := HS2.out; have := hb3.size; omega)
  have HT3 := hide (HT2.out.below hb3)
  clear hb3 c0 c1 c2 c3 c4 c5 c6 c7 c8 c9 c10 c11 c12 c13 e0 e1 e2 e3 e4 e5 e6 e7 e8 e9 e10 e11 e12 e13 hw1 hw2 hs1 hs2
  obtain ⟨c0, c1, c2, c3, c4, c5, c6, c7, c8, c9, c10, c11, c12, c13⟩ := vc_cells HA3.out
  obtain ⟨e0, e1, e2, e3, e4, e5, e6, e7, e8, e9, e10, e11, e12, e13⟩ := vc_cells HC3.out
  cases v1
  · go_wp2_with fail
    go_ret
    refine ⟨?_, by first | exact HB3.out | (rw [hq]; exact HB3.out)⟩
    unfold refV
    rw [HE.out.1]
    (try rfl)
  go_wp2_with fail
  refine (HV2.out _ HT3.out).mono ?_
  rintro en w4 ⟨rfl, hb4⟩
  have HA4 := hide (HA3.out.below' hb4)
  have HC4 := hide (HC3.out.below' hb4)
  have HB4 : Hid (Below q w w4) := hide (HB3.out.trans (hb4.mono (by have := HS3.out; omega)))
  have HS4 : Hid (q + 1 + 1 ≤ w4.heap.size) := hide (by have := HS3.out; have := hb4.size; omega)
  clear hb4 c0 c1 c2 c3 c4 c5 c6 c7 c8 c9 c10 c11 c12 c13 e0 e1 e2 e3 e4 e5 e6 e7 e8 e9 e10 e11 e12 e13
  obtain ⟨c0, c1, c2, c3, c4, c5, c6, c7, c8, c9, c10, c11, c12, c13⟩ := vc_cells HA4.out
  obtain ⟨e0, e1, e2, e3, e4, e5, e6, e7, e8, e9, e10, e11, e12, e13⟩ := vc_cells HC4.out
  cases v2
  · go_wp2_with fail
    go_ret
    refine ⟨?_, by first | exact HB4.out | (rw [hq]; exact HB4.out)⟩
    unfold refV
    rw [HE.out.1, HE.out.2.1]
    (try rfl)
  cases te
  · go_wp2_with fail
    go_ret
    refine ⟨?_, by first | exact HB4.out | (rw [hq]; exact HB4.out)⟩
    unfold refV
    rw [HE.out.1, HE.out.2.1, HE.out.2.2]
    (try rfl)
  have HTE := hide (eq_of_beq HE.out.2.2)
  have HRV : Hid (refV t o a b c d t' o' a' b' c' d' = (!((points t a.p && points t' a'.p) && (o != o')) && rls a b c d a' b' c' d' 4)) := hide (by
    have h1 := HE.out.1
    have h2 := HE.out.2.1
    have e := HTE.out
    subst e
    unfold refV
    rw [h1, h2, ← ref_prog h1 h2]; simp)
  obtain ⟨p1, hp1⟩ : ∃ p, points t a.p = p := ⟨_, rfl⟩
  obtain ⟨p2, hp2⟩ : ∃ p, points t' a'.p = p := ⟨_, rfl⟩
  obtain ⟨oe, hoe⟩ : ∃ x, (o != o') = x := ⟨_, rfl⟩
  have HP := hide (And.intro hp1 (And.intro hp2 hoe))
  have HK1 := hide (fun W => points_any t o a b c d W)
  have HK2 := hide (fun W => points_any t' o' a' b' c' d' W)
  rw [hp1] at HK1
  rw [hp2] at HK2
  clear hp1 hp2
  go_wp2_with fail
  refine (HK1.out _).mono ?_
  rintro en w5 ⟨rfl, hb5⟩
  clear hte hte'
  have HA5 := hide (HA4.out.below' hb5)
  have HC5 := hide (HC4.out.below' hb5)
  have HB5 : Hid (Below q w w5) := hide (HB4.out.trans (hb5.mono (by have := HS4.out; omega)))
  have HS5 : Hid (q + 1 + 1 ≤ w5.heap.size) := hide (by have := HS4.out; have := hb5.size; omega)
  clear hb5 c0 c1 c2 c3 c4 c5 c6 c7 c8 c9 c10 c11 c12 c13 e0 e1 e2 e3 e4 e5 e6 e7 e8 e9 e10 e11 e12 e13
  have HLOOP : ∀ w6, Hid (Below w5.heap.size w5 w6) → (p1 && p2 && oe) = false → True := fun _ _ _ => trivial
  clear HLOOP
  obtain ⟨c0, c1, c2, c3, c4, c5, c6, c7, c8, c9, c10, c11, c12, c13⟩ := vc_cells HA5.out
  obtain ⟨e0, e1, e2, e3, e4, e5, e6, e7, e8, e9, e10, e11, e12, e13⟩ := vc_cells HC5.out
  cases p1
  · go_wp2_with fail
    clear c0 c1 c2 c3 c4 c5 c6 c7 c8 c9 c10 c11 c12 c13 e0 e1 e2 e3 e4 e5 e6 e7 e8 e9 e10 e11 e12 e13
    go_loopw [37] (fun z wr => ∃ i : Nat, i ≤ 4 ∧ z = .int .i64 (i : Nat) ∧ Hid (rls a b c d a' b' c' d' i = true) ∧ Hid (Below w5.heap.size w5 wr)) (fun z _ => 4 - (intOf z).toNat)
    case atStart => exact ⟨0, by omega, rfl, hide rfl, hide (Below.refl _ _)⟩
    case round =>
      obtain ⟨wq, rfl⟩ : ∃ x, x = wr := ⟨_, rfl⟩
      obtain ⟨i, hi, rfl, HO, HF⟩ := hrel
      have HBQ : Hid (Below q w wq) := hide (HB5.out.trans (HF.out.mono (by have := HS5.out; omega)))
      have hqs : q + 1 + 1 ≤ wq.heap.size := by have h1 := HF.out.size; have := HS5.out; omega
      by_cases hlt : i < 4
      · obtain ⟨l, hl⟩ : ∃ l, [a, b, c, d][i]? = some l := ⟨_, List.getElem?_eq_getElem hlt⟩
        obtain ⟨l', hl'⟩ : ∃ l, [a', b', c', d'][i]? = some l := ⟨_, List.getElem?_eq_getElem hlt⟩
        obtain ⟨kb, hkb⟩ : ∃ k, refL l l' = k := ⟨_, rfl⟩
        have HG : Hid (rls a b c d a' b' c' d' (i + 1) = kb) := hide (by rw [rls_succ a b c d a' b' c' d' i l l' hl hl', HO.out, Bool.true_and, hkb])
        have hix : ∀ W, Sem.run Tryd.prog (Instr.index 25 (.agg #[.int .i64 a.n, .bool a.p, .bool a.u, .int .i64 b.n, .bool b.p, .bool b.u, .int .i64 c.n, .bool c.p, .bool c.u, .int .i64 d.n, .bool d.p, .bool d.u]) (.int .i64 (i : Nat))) W = .ok (.agg #[.int .i64 l.n, .bool l.p, .bool l.u]) W := by
          intro W
          rcases (show i = 0 ∨ i = 1 ∨ i = 2 ∨ i = 3 by omega) with rfl | rfl | rfl | rfl
          · injection hl with hl; subst hl; kernel_rfl
          · injection hl with hl; subst hl; kernel_rfl
          · injection hl with hl; subst hl; kernel_rfl
          · injection hl with hl; subst hl; kernel_rfl
        have hcell : Hid (∀ W, Whole W (q + 1) 27 (vc t' o' a' b' c' d') → W.cell? ⟨q + 1, 2 + i * 3, none⟩ = some (.int .i64 l'.n) ∧ W.cell? ⟨q + 1, 2 + i * 3 + 1, none⟩ = some (.bool l'.p) ∧ W.cell? ⟨q + 1, 2 + i * 3 + 2, none⟩ = some (.bool l'.u)) := hide (by
          intro W hW
          rcases (show i = 0 ∨ i = 1 ∨ i = 2 ∨ i = 3 by omega) with rfl | rfl | rfl | rfl
          · injection hl' with hl'; subst hl'; exact ⟨hW.cell 2, hW.cell 3, hW.cell 4⟩
          · injection hl' with hl'; subst hl'; exact ⟨hW.cell 5, hW.cell 6, hW.cell 7⟩
          · injection hl' with hl'; subst hl'; exact ⟨hW.cell 8, hW.cell 9, hW.cell 10⟩
          · injection hl' with hl'; subst hl'; exact ⟨hW.cell 11, hW.cell 12, hW.cell 13⟩)
        have hlt' : (i : Int) < 4 := by omega
        have hi5 : i + 1 ≤ 4 := by omega
        obtain ⟨sq, hsq⟩ : ∃ s, wq.heap.size = s := ⟨_, rfl⟩
        have HKL := hide (fun W => refl_any l l' W)
        rw [hkb] at HKL
        have hCQ := HC5.out.below' HF.out
        clear hl hl' HO hkb
        go_wp2_with fail
        obtain ⟨wa, hwa⟩ : ∃ x, wq.alloc (.cells #[.int .i64 l.n, .bool l.p, .bool l.u] 24) = x := ⟨_, rfl⟩
        rw [hwa]
        have hbA : Below wq.heap.size wq wa := by rw [← hwa]; exact (Below.refl _ _).alloc (Nat.le_refl _) _
        have hL : Whole wa sq 24 #[.int .i64 l.n, .bool l.p, .bool l.u] := by rw [← hwa, ← hsq]; exact Whole.new wq _ _
        have l0 : wa.cell? ⟨sq, 0, none⟩ = some (.int .i64 l.n) := hL.cell 0
        have l1 : wa.cell? ⟨sq, 1, none⟩ = some (.bool l.p) := hL.cell 1
        have l2 : wa.cell? ⟨sq, 2, none⟩ = some (.bool l.u) := hL.cell 2
        obtain ⟨m0, m1, m2⟩ := hcell.out wa (hCQ.below' hbA)
        have HBX : Hid (Below w5.heap.size w5 wa) := hide (HF.out.trans (hbA.mono HF.out.size))
        have HBQA : Hid (Below q w wa) := hide (HBQ.out.trans (hbA.mono (by omega)))
        have hsz : q ≤ wa.heap.size := by have := hbA.size; omega
        clear hL hwa hsq hbA hCQ
        have cc := And.intro l0 (And.intro l1 (And.intro l2 (And.intro m0 (And.intro m1 m2))))
        go_region_held3 (fun w' => w'.cell? ⟨sq, 0, none⟩ = some (.int .i64 l.n) ∧ w'.cell? ⟨sq, 1, none⟩ = some (.bool l.p) ∧ w'.cell? ⟨sq, 2, none⟩ = some (.bool l.u) ∧ w'.cell? ⟨q + 1, 2 + i * 3, none⟩ = some (.int .i64 l'.n) ∧ w'.cell? ⟨q + 1, 2 + i * 3 + 1, none⟩ = some (.bool l'.p) ∧ w'.cell? ⟨q + 1, 2 + i * 3 + 2, none⟩ = some (.bool l'.u)) (exact cc) (first | (go_at_call 45; refine (HKL.out _).mono ?_; rintro en wb ⟨rfl, hbb⟩; replace hbb : Below wa.heap.size wa wb := ⟨hbb.os, hbb.tape, hbb.output, hbb.size, hbb.block⟩; have HBY := hide (HBX.out.trans (hbb.mono HBX.out.size)); have HBE := hide (HBQA.out.trans (hbb.mono hsz)); replace cc := And.intro ((hbb.cell (p := ⟨sq, 0, none⟩) (lt_of_cell l0)).trans l0) (And.intro ((hbb.cell (p := ⟨sq, 1, none⟩) (lt_of_cell l1)).trans l1) (And.intro ((hbb.cell (p := ⟨sq, 2, none⟩) (lt_of_cell l2)).trans l2) (And.intro ((hbb.cell (p := ⟨q + 1, 2 + i * 3, none⟩) (lt_of_cell m0)).trans m0) (And.intro ((hbb.cell (p := ⟨q + 1, 2 + i * 3 + 1, none⟩) (lt_of_cell m1)).trans m1) ((hbb.cell (p := ⟨q + 1, 2 + i * 3 + 2, none⟩) (lt_of_cell m2)).trans m2))))); clear hbb))
        all_goals
          clear cc l0 l1 l2 m0 m1 m2
          cases kb
          · go_wp2_with fail
            go_ret
            refine ⟨?_, by first | exact HBE.out | (rw [hq]; exact HBE.out)⟩
            rw [HRV.out, rls_end hi5 HG.out, Bool.and_false]
            (try rfl)
          · go_wp2_with fail
            go_roundw
            case rel => exact ⟨i + 1, by omega, by go_num, HG, HBY⟩
            case measure => simp [intOf]; omega
      · obtain rfl : i = 4 := by omega
        clear hlt
        go_wp2_with fail
        go_ret
        refine ⟨?_, by first | exact HBQ.out | (rw [hq]; exact HBQ.out)⟩
        rw [HRV.out, HO.out]
        rw [HP.out.1]
        (try rfl)
  · go_wp2_with fail
    refine (HK2.out _).mono ?_
    rintro en w6 ⟨rfl, hb6⟩
    have HA6 := hide (HA5.out.below' hb6)
    have HC6 := hide (HC5.out.below' hb6)
    have HB6 : Hid (Below q w w6) := hide (HB5.out.trans (hb6.mono (by have := HS5.out; omega)))
    have HS6 : Hid (q + 1 + 1 ≤ w6.heap.size) := hide (by have := HS5.out; have := hb6.size; omega)
    clear hb6 c0 c1 c2 c3 c4 c5 c6 c7 c8 c9 c10 c11 c12 c13 e0 e1 e2 e3 e4 e5 e6 e7 e8 e9 e10 e11 e12 e13
    obtain ⟨c0, c1, c2, c3, c4, c5, c6, c7, c8, c9, c10, c11, c12, c13⟩ := vc_cells HA6.out
    obtain ⟨e0, e1, e2, e3, e4, e5, e6, e7, e8, e9, e10, e11, e12, e13⟩ := vc_cells HC6.out
    cases p2
    · go_wp2_with fail
      clear c0 c1 c2 c3 c4 c5 c6 c7 c8 c9 c10 c11 c12 c13 e0 e1 e2 e3 e4 e5 e6 e7 e8 e9 e10 e11 e12 e13
      go_loopw [37] (fun z wr => ∃ i : Nat, i ≤ 4 ∧ z = .int .i64 (i : Nat) ∧ Hid (rls a b c d a' b' c' d' i = true) ∧ Hid (Below w6.heap.size w6 wr)) (fun z _ => 4 - (intOf z).toNat)
      case atStart => exact ⟨0, by omega, rfl, hide rfl, hide (Below.refl _ _)⟩
      case round =>
        obtain ⟨wq, rfl⟩ : ∃ x, x = wr := ⟨_, rfl⟩
        obtain ⟨i, hi, rfl, HO, HF⟩ := hrel
        have HBQ : Hid (Below q w wq) := hide (HB6.out.trans (HF.out.mono (by have := HS6.out; omega)))
        have hqs : q + 1 + 1 ≤ wq.heap.size := by have h1 := HF.out.size; have := HS6.out; omega
        by_cases hlt : i < 4
        · obtain ⟨l, hl⟩ : ∃ l, [a, b, c, d][i]? = some l := ⟨_, List.getElem?_eq_getElem hlt⟩
          obtain ⟨l', hl'⟩ : ∃ l, [a', b', c', d'][i]? = some l := ⟨_, List.getElem?_eq_getElem hlt⟩
          obtain ⟨kb, hkb⟩ : ∃ k, refL l l' = k := ⟨_, rfl⟩
          have HG : Hid (rls a b c d a' b' c' d' (i + 1) = kb) := hide (by rw [rls_succ a b c d a' b' c' d' i l l' hl hl', HO.out, Bool.true_and, hkb])
          have hix : ∀ W, Sem.run Tryd.prog (Instr.index 25 (.agg #[.int .i64 a.n, .bool a.p, .bool a.u, .int .i64 b.n, .bool b.p, .bool b.u, .int .i64 c.n, .bool c.p, .bool c.u, .int .i64 d.n, .bool d.p, .bool d.u]) (.int .i64 (i : Nat))) W = .ok (.agg #[.int .i64 l.n, .bool l.p, .bool l.u]) W := by
            intro W
            rcases (show i = 0 ∨ i = 1 ∨ i = 2 ∨ i = 3 by omega) with rfl | rfl | rfl | rfl
            · injection hl with hl; subst hl; kernel_rfl
            · injection hl with hl; subst hl; kernel_rfl
            · injection hl with hl; subst hl; kernel_rfl
            · injection hl with hl; subst hl; kernel_rfl
          have hcell : Hid (∀ W, Whole W (q + 1) 27 (vc t' o' a' b' c' d') → W.cell? ⟨q + 1, 2 + i * 3, none⟩ = some (.int .i64 l'.n) ∧ W.cell? ⟨q + 1, 2 + i * 3 + 1, none⟩ = some (.bool l'.p) ∧ W.cell? ⟨q + 1, 2 + i * 3 + 2, none⟩ = some (.bool l'.u)) := hide (by
            intro W hW
            rcases (show i = 0 ∨ i = 1 ∨ i = 2 ∨ i = 3 by omega) with rfl | rfl | rfl | rfl
            · injection hl' with hl'; subst hl'; exact ⟨hW.cell 2, hW.cell 3, hW.cell 4⟩
            · injection hl' with hl'; subst hl'; exact ⟨hW.cell 5, hW.cell 6, hW.cell 7⟩
            · injection hl' with hl'; subst hl'; exact ⟨hW.cell 8, hW.cell 9, hW.cell 10⟩
            · injection hl' with hl'; subst hl'; exact ⟨hW.cell 11, hW.cell 12, hW.cell 13⟩)
          have hlt' : (i : Int) < 4 := by omega
          have hi5 : i + 1 ≤ 4 := by omega
          obtain ⟨sq, hsq⟩ : ∃ s, wq.heap.size = s := ⟨_, rfl⟩
          have HKL := hide (fun W => refl_any l l' W)
          rw [hkb] at HKL
          have hCQ := HC6.out.below' HF.out
          clear hl hl' HO hkb
          go_wp2_with fail
          obtain ⟨wa, hwa⟩ : ∃ x, wq.alloc (.cells #[.int .i64 l.n, .bool l.p, .bool l.u] 24) = x := ⟨_, rfl⟩
          rw [hwa]
          have hbA : Below wq.heap.size wq wa := by rw [← hwa]; exact (Below.refl _ _).alloc (Nat.le_refl _) _
          have hL : Whole wa sq 24 #[.int .i64 l.n, .bool l.p, .bool l.u] := by rw [← hwa, ← hsq]; exact Whole.new wq _ _
          have l0 : wa.cell? ⟨sq, 0, none⟩ = some (.int .i64 l.n) := hL.cell 0
          have l1 : wa.cell? ⟨sq, 1, none⟩ = some (.bool l.p) := hL.cell 1
          have l2 : wa.cell? ⟨sq, 2, none⟩ = some (.bool l.u) := hL.cell 2
          obtain ⟨m0, m1, m2⟩ := hcell.out wa (hCQ.below' hbA)
          have HBX : Hid (Below w6.heap.size w6 wa) := hide (HF.out.trans (hbA.mono HF.out.size))
          have HBQA : Hid (Below q w wa) := hide (HBQ.out.trans (hbA.mono (by omega)))
          have hsz : q ≤ wa.heap.size := by have := hbA.size; omega
          clear hL hwa hsq hbA hCQ
          have cc := And.intro l0 (And.intro l1 (And.intro l2 (And.intro m0 (And.intro m1 m2))))
          go_region_held3 (fun w' => w'.cell? ⟨sq, 0, none⟩ = some (.int .i64 l.n) ∧ w'.cell? ⟨sq, 1, none⟩ = some (.bool l.p) ∧ w'.cell? ⟨sq, 2, none⟩ = some (.bool l.u) ∧ w'.cell? ⟨q + 1, 2 + i * 3, none⟩ = some (.int .i64 l'.n) ∧ w'.cell? ⟨q + 1, 2 + i * 3 + 1, none⟩ = some (.bool l'.p) ∧ w'.cell? ⟨q + 1, 2 + i * 3 + 2, none⟩ = some (.bool l'.u)) (exact cc) (first | (go_at_call 45; refine (HKL.out _).mono ?_; rintro en wb ⟨rfl, hbb⟩; replace hbb : Below wa.heap.size wa wb := ⟨hbb.os, hbb.tape, hbb.output, hbb.size, hbb.block⟩; have HBY := hide (HBX.out.trans (hbb.mono HBX.out.size)); have HBE := hide (HBQA.out.trans (hbb.mono hsz)); replace cc := And.intro ((hbb.cell (p := ⟨sq, 0, none⟩) (lt_of_cell l0)).trans l0) (And.intro ((hbb.cell (p := ⟨sq, 1, none⟩) (lt_of_cell l1)).trans l1) (And.intro ((hbb.cell (p := ⟨sq, 2, none⟩) (lt_of_cell l2)).trans l2) (And.intro ((hbb.cell (p := ⟨q + 1, 2 + i * 3, none⟩) (lt_of_cell m0)).trans m0) (And.intro ((hbb.cell (p := ⟨q + 1, 2 + i * 3 + 1, none⟩) (lt_of_cell m1)).trans m1) ((hbb.cell (p := ⟨q + 1, 2 + i * 3 + 2, none⟩) (lt_of_cell m2)).trans m2))))); clear hbb))
          all_goals
            clear cc l0 l1 l2 m0 m1 m2
            cases kb
            · go_wp2_with fail
              go_ret
              refine ⟨?_, by first | exact HBE.out | (rw [hq]; exact HBE.out)⟩
              rw [HRV.out, rls_end hi5 HG.out, Bool.and_false]
              (try rfl)
            · go_wp2_with fail
              go_roundw
              case rel => exact ⟨i + 1, by omega, by go_num, HG, HBY⟩
              case measure => simp [intOf]; omega
        · obtain rfl : i = 4 := by omega
          clear hlt
          go_wp2_with fail
          go_ret
          refine ⟨?_, by first | exact HBQ.out | (rw [hq]; exact HBQ.out)⟩
          rw [HRV.out, HO.out]
          rw [HP.out.1, HP.out.2.1]
          (try rfl)
    · cases oe
      · go_wp2_with fail
        clear c0 c1 c2 c3 c4 c5 c6 c7 c8 c9 c10 c11 c12 c13 e0 e1 e2 e3 e4 e5 e6 e7 e8 e9 e10 e11 e12 e13
        go_loopw [37] (fun z wr => ∃ i : Nat, i ≤ 4 ∧ z = .int .i64 (i : Nat) ∧ Hid (rls a b c d a' b' c' d' i = true) ∧ Hid (Below w6.heap.size w6 wr)) (fun z _ => 4 - (intOf z).toNat)
        case atStart => exact ⟨0, by omega, rfl, hide rfl, hide (Below.refl _ _)⟩
        case round =>
          obtain ⟨wq, rfl⟩ : ∃ x, x = wr := ⟨_, rfl⟩
          obtain ⟨i, hi, rfl, HO, HF⟩ := hrel
          have HBQ : Hid (Below q w wq) := hide (HB6.out.trans (HF.out.mono (by have := HS6.out; omega)))
          have hqs : q + 1 + 1 ≤ wq.heap.size := by have h1 := HF.out.size; have := HS6.out; omega
          by_cases hlt : i < 4
          · obtain ⟨l, hl⟩ : ∃ l, [a, b, c, d][i]? = some l := ⟨_, List.getElem?_eq_getElem hlt⟩
            obtain ⟨l', hl'⟩ : ∃ l, [a', b', c', d'][i]? = some l := ⟨_, List.getElem?_eq_getElem hlt⟩
            obtain ⟨kb, hkb⟩ : ∃ k, refL l l' = k := ⟨_, rfl⟩
            have HG : Hid (rls a b c d a' b' c' d' (i + 1) = kb) := hide (by rw [rls_succ a b c d a' b' c' d' i l l' hl hl', HO.out, Bool.true_and, hkb])
            have hix : ∀ W, Sem.run Tryd.prog (Instr.index 25 (.agg #[.int .i64 a.n, .bool a.p, .bool a.u, .int .i64 b.n, .bool b.p, .bool b.u, .int .i64 c.n, .bool c.p, .bool c.u, .int .i64 d.n, .bool d.p, .bool d.u]) (.int .i64 (i : Nat))) W = .ok (.agg #[.int .i64 l.n, .bool l.p, .bool l.u]) W := by
              intro W
              rcases (show i = 0 ∨ i = 1 ∨ i = 2 ∨ i = 3 by omega) with rfl | rfl | rfl | rfl
              · injection hl with hl; subst hl; kernel_rfl
              · injection hl with hl; subst hl; kernel_rfl
              · injection hl with hl; subst hl; kernel_rfl
              · injection hl with hl; subst hl; kernel_rfl
            have hcell : Hid (∀ W, Whole W (q + 1) 27 (vc t' o' a' b' c' d') → W.cell? ⟨q + 1, 2 + i * 3, none⟩ = some (.int .i64 l'.n) ∧ W.cell? ⟨q + 1, 2 + i * 3 + 1, none⟩ = some (.bool l'.p) ∧ W.cell? ⟨q + 1, 2 + i * 3 + 2, none⟩ = some (.bool l'.u)) := hide (by
              intro W hW
              rcases (show i = 0 ∨ i = 1 ∨ i = 2 ∨ i = 3 by omega) with rfl | rfl | rfl | rfl
              · injection hl' with hl'; subst hl'; exact ⟨hW.cell 2, hW.cell 3, hW.cell 4⟩
              · injection hl' with hl'; subst hl'; exact ⟨hW.cell 5, hW.cell 6, hW.cell 7⟩
              · injection hl' with hl'; subst hl'; exact ⟨hW.cell 8, hW.cell 9, hW.cell 10⟩
              · injection hl' with hl'; subst hl'; exact ⟨hW.cell 11, hW.cell 12, hW.cell 13⟩)
            have hlt' : (i : Int) < 4 := by omega
            have hi5 : i + 1 ≤ 4 := by omega
            obtain ⟨sq, hsq⟩ : ∃ s, wq.heap.size = s := ⟨_, rfl⟩
            have HKL := hide (fun W => refl_any l l' W)
            rw [hkb] at HKL
            have hCQ := HC6.out.below' HF.out
            clear hl hl' HO hkb
            go_wp2_with fail
            obtain ⟨wa, hwa⟩ : ∃ x, wq.alloc (.cells #[.int .i64 l.n, .bool l.p, .bool l.u] 24) = x := ⟨_, rfl⟩
            rw [hwa]
            have hbA : Below wq.heap.size wq wa := by rw [← hwa]; exact (Below.refl _ _).alloc (Nat.le_refl _) _
            have hL : Whole wa sq 24 #[.int .i64 l.n, .bool l.p, .bool l.u] := by rw [← hwa, ← hsq]; exact Whole.new wq _ _
            have l0 : wa.cell? ⟨sq, 0, none⟩ = some (.int .i64 l.n) := hL.cell 0
            have l1 : wa.cell? ⟨sq, 1, none⟩ = some (.bool l.p) := hL.cell 1
            have l2 : wa.cell? ⟨sq, 2, none⟩ = some (.bool l.u) := hL.cell 2
            obtain ⟨m0, m1, m2⟩ := hcell.out wa (hCQ.below' hbA)
            have HBX : Hid (Below w6.heap.size w6 wa) := hide (HF.out.trans (hbA.mono HF.out.size))
            have HBQA : Hid (Below q w wa) := hide (HBQ.out.trans (hbA.mono (by omega)))
            have hsz : q ≤ wa.heap.size := by have := hbA.size; omega
            clear hL hwa hsq hbA hCQ
            have cc := And.intro l0 (And.intro l1 (And.intro l2 (And.intro m0 (And.intro m1 m2))))
            go_region_held3 (fun w' => w'.cell? ⟨sq, 0, none⟩ = some (.int .i64 l.n) ∧ w'.cell? ⟨sq, 1, none⟩ = some (.bool l.p) ∧ w'.cell? ⟨sq, 2, none⟩ = some (.bool l.u) ∧ w'.cell? ⟨q + 1, 2 + i * 3, none⟩ = some (.int .i64 l'.n) ∧ w'.cell? ⟨q + 1, 2 + i * 3 + 1, none⟩ = some (.bool l'.p) ∧ w'.cell? ⟨q + 1, 2 + i * 3 + 2, none⟩ = some (.bool l'.u)) (exact cc) (first | (go_at_call 45; refine (HKL.out _).mono ?_; rintro en wb ⟨rfl, hbb⟩; replace hbb : Below wa.heap.size wa wb := ⟨hbb.os, hbb.tape, hbb.output, hbb.size, hbb.block⟩; have HBY := hide (HBX.out.trans (hbb.mono HBX.out.size)); have HBE := hide (HBQA.out.trans (hbb.mono hsz)); replace cc := And.intro ((hbb.cell (p := ⟨sq, 0, none⟩) (lt_of_cell l0)).trans l0) (And.intro ((hbb.cell (p := ⟨sq, 1, none⟩) (lt_of_cell l1)).trans l1) (And.intro ((hbb.cell (p := ⟨sq, 2, none⟩) (lt_of_cell l2)).trans l2) (And.intro ((hbb.cell (p := ⟨q + 1, 2 + i * 3, none⟩) (lt_of_cell m0)).trans m0) (And.intro ((hbb.cell (p := ⟨q + 1, 2 + i * 3 + 1, none⟩) (lt_of_cell m1)).trans m1) ((hbb.cell (p := ⟨q + 1, 2 + i * 3 + 2, none⟩) (lt_of_cell m2)).trans m2))))); clear hbb))
            all_goals
              clear cc l0 l1 l2 m0 m1 m2
              cases kb
              · go_wp2_with fail
                go_ret
                refine ⟨?_, by first | exact HBE.out | (rw [hq]; exact HBE.out)⟩
                rw [HRV.out, rls_end hi5 HG.out, Bool.and_false]
                (try rfl)
              · go_wp2_with fail
                go_roundw
                case rel => exact ⟨i + 1, by omega, by go_num, HG, HBY⟩
                case measure => simp [intOf]; omega
          · obtain rfl : i = 4 := by omega
            clear hlt
            go_wp2_with fail
            go_ret
            refine ⟨?_, by first | exact HBQ.out | (rw [hq]; exact HBQ.out)⟩
            rw [HRV.out, HO.out]
            rw [HP.out.1, HP.out.2.1, HP.out.2.2]
            (try rfl)
      · go_wp2_with fail
        go_ret
        refine ⟨?_, by first | exact HB6.out | (rw [hq]; exact HB6.out)⟩
        rw [HRV.out, HP.out.1, HP.out.2.1, HP.out.2.2]
        (try rfl)
end Go.Proofs.YtojeaghljebbbaaDoor

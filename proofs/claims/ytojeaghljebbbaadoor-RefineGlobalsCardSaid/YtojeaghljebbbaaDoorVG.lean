/-
  Layer 11 (value): Refines of the reference.
-/
import Derived.Test.YtojeaghljebbbaaDoorVF
namespace Go.Proofs.YtojeaghljebbbaaDoor
open Go.RowKit

theorem zeroL_eq {l : LaneD} (h : zeroL l = true) : l = ⟨0, false, false⟩ := by
  obtain ⟨n, p, u⟩ := l
  unfold zeroL at h
  cases p <;> cases u <;> simp at h
  subst h
  rfl
theorem refL_zero {a b : LaneD} (ha : zeroL a = true) (hb : zeroL b = true) : refL a b = true := by
  rw [zeroL_eq ha, zeroL_eq hb]; rfl
theorem okAt_far {t i : Int} {l : LaneD} (h : okAt t i l = true) (hi : ¬ i < numL t) : zeroL l = true := by
  unfold okAt at h
  rwa [if_neg hi] at h
/-- Lanes that the type does not use are equal. -/
theorem rls_fill {t o : Int} {a b c d : LaneD} {o' : Int} {a' b' c' d' : LaneD} (h : validB t o a b c d = true) (h' : validB t o' a' b' c' d' = true) {n : Nat} (hn : numL t = n) (hr : rls a b c d a' b' c' d' n = true) : rls a b c d a' b' c' d' 4 = true := by
  unfold validB at h h'
  simp only [oks, Bool.and_eq_true, decide_eq_true_eq] at h h'
  obtain ⟨⟨h0, ⟨⟨-, hb⟩, hc⟩, hd⟩, -⟩ := h
  obtain ⟨⟨-, ⟨⟨-, hb'⟩, hc'⟩, hd'⟩, -⟩ := h'
  rcases numL_cases t with e | e | e | e
  · omega
  · obtain rfl : n = 1 := by omega
    simp only [rls] at hr ⊢
    simp [hr, refL_zero (okAt_far hb (by omega)) (okAt_far hb' (by omega)), refL_zero (okAt_far hc (by omega)) (okAt_far hc' (by omega)), refL_zero (okAt_far hd (by omega)) (okAt_far hd' (by omega))]
  · obtain rfl : n = 2 := by omega
    simp only [rls] at hr ⊢
    simp [hr, refL_zero (okAt_far hc (by omega)) (okAt_far hc' (by omega)), refL_zero (okAt_far hd (by omega)) (okAt_far hd' (by omega))]
  · obtain rfl : n = 4 := by omega
    exact hr

set_option maxRecDepth 100000 in
set_option maxHeartbeats 8000000 in
theorem rrefines_any (t o : Int) (a b c d : LaneD) (t' o' : Int) (a' b' c' d' : LaneD) (w : World) :
    Calls Tryd.prog 28 #[.agg #[.int .i64 t, .int .i64 o, .int .i64 a.n, .bool a.p, .bool a.u, .int .i64 b.n, .bool b.p, .bool b.u, .int .i64 c.n, .bool c.p, .bool c.u, .int .i64 d.n, .bool d.p, .bool d.u], .agg #[.int .i64 t', .int .i64 o', .int .i64 a'.n, .bool a'.p, .bool a'.u, .int .i64 b'.n, .bool b'.p, .bool b'.u, .int .i64 c'.n, .bool c'.p, .bool c'.u, .int .i64 d'.n, .bool d'.p, .bool d'.u]] w fun e w' => e = .returned (.bool (refV t o a b c d t' o' a' b' c' d')) ∧ Below w.heap.size w w' := by
  obtain ⟨q, hq⟩ : ∃ q, w.heap.size = q := ⟨_, rfl⟩
  obtain ⟨w1, hw1⟩ : ∃ x, w.alloc (.cells #[.int .i64 t, .int .i64 o, .int .i64 a.n, .bool a.p, .bool a.u, .int .i64 b.n, .bool b.p, .bool b.u, .int .i64 c.n, .bool c.p, .bool c.u, .int .i64 d.n, .bool d.p, .bool d.u] 27) = x := ⟨_, rfl⟩
  have hs1 : w1.heap.size = q + 1 := by rw [← hw1, World.size_alloc, hq]
  have hA1 : Whole w1 q 27 (vc t o a b c d) := by rw [← hw1, ← hq]; exact Whole.new w _ _
  have hb1 : Below q w w1 := by rw [← hw1, ← hq]; exact (Below.refl _ _).alloc (Nat.le_refl _) _
  obtain ⟨w2, hw2⟩ : ∃ x, w1.alloc (.cells #[.int .i64 t', .int .i64 o', .int .i64 a'.n, .bool a'.p, .bool a'.u, .int .i64 b'.n, .bool b'.p, .bool b'.u, .int .i64 c'.n, .bool c'.p, .bool c'.u, .int .i64 d'.n, .bool d'.p, .bool d'.u] 27) = x := ⟨_, rfl⟩
  have hs2 : w2.heap.size = q + 1 + 1 := by rw [← hw2, World.size_alloc, hs1]
  have hB2 : Whole w2 (q + 1) 27 (vc t' o' a' b' c' d') := by rw [← hw2, ← hs1]; exact Whole.new w1 _ _
  have hb12 : Below w1.heap.size w1 w2 := by rw [← hw2]; exact (Below.refl _ _).alloc (Nat.le_refl _) _
  have HB2 : Hid (Below q w w2) := hide (hb1.trans (hb12.mono (by omega)))
  have HA2 := hide (hA1.below' hb12)
  have HC2 := hide hB2
  have HS2 : Hid (q + 1 + 1 ≤ w2.heap.size) := hide (by omega)

  obtain ⟨v1, hv1⟩ : ∃ v, validB t o a b c d = v := ⟨_, rfl⟩
  obtain ⟨v2, hv2⟩ : ∃ v, validB t' o' a' b' c' d' = v := ⟨_, rfl⟩
  obtain ⟨te, hte⟩ : ∃ x, (t == t') = x := ⟨_, rfl⟩
  have hte' : (t != t') = !te := by rw [← hte]; rfl
  have HV1 := hide (fun W => rvalid_any t o a b c d W)
  have HV2 := hide (fun W => rvalid_any t' o' a' b' c' d' W)
  rw [hv1] at HV1
  rw [hv2] at HV2
  have HE := hide (And.intro hv1 (And.intro hv2 hte))
  obtain ⟨c0, c1, c2, c3, c4, c5, c6, c7, c8, c9, c10, c11, c12, c13⟩ := vc_cells HA2.out
  obtain ⟨e0, e1, e2, e3, e4, e5, e6, e7, e8, e9, e10, e11, e12, e13⟩ := vc_cells HC2.out
  clear hA1 hb1 hB2 hb12 hv1 hv2
  go_enter Tryd.func28, Tryd.ntmps28
  go_wp2_with fail
  refine (HV1.out _).mono ?_
  rintro en w3 ⟨rfl, hb3⟩
  have HA3 := hide (HA2.out.below' hb3)
  have HC3 := hide (HC2.out.below' hb3)
  have HB3 : Hid (Below q w w3) := hide (HB2.out.trans (hb3.mono (by have := HS2.out; omega)))
  have HS3 : Hid (q + 1 + 1 ≤ w3.heap.size) := hide (by have := HS2.out; have := hb3.size; omega)
  skip
  clear hb3 c0 c1 c2 c3 c4 c5 c6 c7 c8 c9 c10 c11 c12 c13 e0 e1 e2 e3 e4 e5 e6 e7 e8 e9 e10 e11 e12 e13 hw1 hw2 hs1 hs2
  obtain ⟨c0, c1, c2, c3, c4, c5, c6, c7, c8, c9, c10, c11, c12, c13⟩ := vc_cells HA3.out
  obtain ⟨e0, e1, e2, e3, e4, e5, e6, e7, e8, e9, e10, e11, e12, e13⟩ := vc_cells HC3.out
  cases v1
  · go_wp2_with fail
    go_ret
    refine ⟨?_, by first | exact HB3.out | (rw [hq]; exact HB3.out)⟩
    unfold refV
    rw [HE.out.1]
    (try rfl)
  go_wp2_with fail
  refine (HV2.out _).mono ?_
  rintro en w4 ⟨rfl, hb4⟩
  have HA4 := hide (HA3.out.below' hb4)
  have HC4 := hide (HC3.out.below' hb4)
  have HB4 : Hid (Below q w w4) := hide (HB3.out.trans (hb4.mono (by have := HS3.out; omega)))
  have HS4 : Hid (q + 1 + 1 ≤ w4.heap.size) := hide (by have := HS3.out; have := hb4.size; omega)
  clear hb4 c0 c1 c2 c3 c4 c5 c6 c7 c8 c9 c10 c11 c12 c13 e0 e1 e2 e3 e4 e5 e6 e7 e8 e9 e10 e11 e12 e13
  obtain ⟨c0, c1, c2, c3, c4, c5, c6, c7, c8, c9, c10, c11, c12, c13⟩ := vc_cells HA4.out
  obtain ⟨e0, e1, e2, e3, e4, e5, e6, e7, e8, e9, e10, e11, e12, e13⟩ := vc_cells HC4.out
  cases v2
  · go_wp2_with fail
    go_ret
    refine ⟨?_, by first | exact HB4.out | (rw [hq]; exact HB4.out)⟩
    unfold refV
    rw [HE.out.1, HE.out.2.1]
    (try rfl)
  cases te
  · go_wp2_with fail
    go_ret
    refine ⟨?_, by first | exact HB4.out | (rw [hq]; exact HB4.out)⟩
    unfold refV
    rw [HE.out.1, HE.out.2.1, HE.out.2.2]
    (try rfl)
  have HTE := hide (eq_of_beq HE.out.2.2)
  obtain ⟨n, hn, hn4⟩ : ∃ n : Nat, numL t = n ∧ n ≤ 4 := by rcases numL_cases t with h | h | h | h <;> exact ⟨(numL t).toNat, by omega, by omega⟩
  have HN := hide hn
  have HFL : Hid (rls a b c d a' b' c' d' n = true → rls a b c d a' b' c' d' 4 = true) := hide (fun k => by
    have h1 := HE.out.1
    have h2 := HE.out.2.1
    have e := HTE.out
    subst e
    exact rls_fill h1 h2 HN.out k)
  have HRV : Hid (refV t o a b c d t' o' a' b' c' d' = (rls a b c d a' b' c' d' 4 && (a'.p || (o == o')))) := hide (by
    unfold refV
    rw [HE.out.1, HE.out.2.1, HE.out.2.2]; simp)
  go_wp2_with fail
  clear c0 c1 c2 c3 c4 c5 c6 c7 c8 c9 c10 c11 c12 c13 e0 e1 e2 e3 e4 e5 e6 e7 e8 e9 e10 e11 e12 e13 hte hte' hn
  go_loopw [5] (fun z wr => ∃ i : Nat, i ≤ n ∧ z = .int .i64 (i : Nat) ∧ Hid (rls a b c d a' b' c' d' i = true) ∧ Hid (Below w4.heap.size w4 wr)) (fun z _ => n - (intOf z).toNat)
  case atStart => exact ⟨0, Nat.zero_le _, rfl, hide rfl, hide (Below.refl _ _)⟩
  case round =>
    obtain ⟨wq, rfl⟩ : ∃ x, x = wr := ⟨_, rfl⟩
    obtain ⟨i, hi, rfl, HO, HF⟩ := hrel
    have HBQ : Hid (Below q w wq) := hide (HB4.out.trans (HF.out.mono (by have := HS4.out; omega)))
    have hAQ := HA4.out.below' HF.out
    have hCQ := HC4.out.below' HF.out
    obtain ⟨c0, c1, c2, c3, c4, c5, c6, c7, c8, c9, c10, c11, c12, c13⟩ := vc_cells hAQ
    obtain ⟨e0, e1, e2, e3, e4, e5, e6, e7, e8, e9, e10, e11, e12, e13⟩ := vc_cells hCQ
    by_cases hlt : i < n
    · have hi4 : i < 4 := by omega
      have hlt' : (i : Int) < n := by omega
      have hlt4 : (i : Int) < 4 := by omega
      obtain ⟨l, hl⟩ : ∃ l, [a, b, c, d][i]? = some l := ⟨_, List.getElem?_eq_getElem hi4⟩
      obtain ⟨l', hl'⟩ : ∃ l, [a', b', c', d'][i]? = some l := ⟨_, List.getElem?_eq_getElem hi4⟩
      obtain ⟨kb, hkb⟩ : ∃ k, refL l l' = k := ⟨_, rfl⟩
      have HG : Hid (rls a b c d a' b' c' d' (i + 1) = kb) := hide (by rw [rls_succ a b c d a' b' c' d' i l l' hl hl', HO.out, Bool.true_and, hkb])
      have hall : ∀ (g : Nat) (T O : Int) (x0 x1 x2 x3 y : LaneD) (W : World), [x0, x1, x2, x3][i]? = some y → Whole W g 27 (vc T O x0 x1 x2 x3) → W.cell? ⟨g, 2 + i * 3, none⟩ = some (.int .i64 y.n) ∧ W.cell? ⟨g, 2 + i * 3 + 1, none⟩ = some (.bool y.p) ∧ W.cell? ⟨g, 2 + i * 3 + 2, none⟩ = some (.bool y.u) := by
        intro g T O x0 x1 x2 x3 y W hy hW
        rcases (show i = 0 ∨ i = 1 ∨ i = 2 ∨ i = 3 by omega) with rfl | rfl | rfl | rfl
        · injection hy with hy; subst hy; exact ⟨hW.cell 2, hW.cell 3, hW.cell 4⟩
        · injection hy with hy; subst hy; exact ⟨hW.cell 5, hW.cell 6, hW.cell 7⟩
        · injection hy with hy; subst hy; exact ⟨hW.cell 8, hW.cell 9, hW.cell 10⟩
        · injection hy with hy; subst hy; exact ⟨hW.cell 11, hW.cell 12, hW.cell 13⟩
      obtain ⟨l0, l1, l2⟩ := hall q t o a b c d l wq hl hAQ
      obtain ⟨m0, m1, m2⟩ := hall (q + 1) t' o' a' b' c' d' l' wq hl' hCQ
      have HKL := hide (fun W => rrefl_any l l' W)
      rw [hkb] at HKL
      have hsz : q ≤ wq.heap.size := by have := HF.out.size; have := HS4.out; omega
      clear hl hl' HO hkb hall hAQ hCQ
      go_wp2_with fail
      refine (rlanes_any _ _).mono ?_
      rintro en w' ⟨rfl, rfl⟩
      rw [HN.out]
      go_wp2_with fail
      clear c0 c1 c2 c3 c4 c5 c6 c7 c8 c9 c10 c11 c12 c13 e0 e1 e2 e3 e4 e5 e6 e7 e8 e9 e10 e11 e12 e13
      have cc := And.intro l0 (And.intro l1 (And.intro l2 (And.intro m0 (And.intro m1 m2))))
      go_region_held3 (fun w' => w'.cell? ⟨q, 2 + i * 3, none⟩ = some (.int .i64 l.n) ∧ w'.cell? ⟨q, 2 + i * 3 + 1, none⟩ = some (.bool l.p) ∧ w'.cell? ⟨q, 2 + i * 3 + 2, none⟩ = some (.bool l.u) ∧ w'.cell? ⟨q + 1, 2 + i * 3, none⟩ = some (.int .i64 l'.n) ∧ w'.cell? ⟨q + 1, 2 + i * 3 + 1, none⟩ = some (.bool l'.p) ∧ w'.cell? ⟨q + 1, 2 + i * 3 + 2, none⟩ = some (.bool l'.u)) (exact cc) (first | (go_at_call 46; refine (HKL.out _).mono ?_; rintro en wb ⟨rfl, hbb⟩; replace hbb : Below wq.heap.size wq wb := ⟨hbb.os, hbb.tape, hbb.output, hbb.size, hbb.block⟩; have HBY := hide (HF.out.trans (hbb.mono HF.out.size)); have HBE := hide (HBQ.out.trans (hbb.mono hsz)); replace cc := And.intro ((hbb.cell (p := ⟨q, 2 + i * 3, none⟩) (lt_of_cell l0)).trans l0) (And.intro ((hbb.cell (p := ⟨q, 2 + i * 3 + 1, none⟩) (lt_of_cell l1)).trans l1) (And.intro ((hbb.cell (p := ⟨q, 2 + i * 3 + 2, none⟩) (lt_of_cell l2)).trans l2) (And.intro ((hbb.cell (p := ⟨q + 1, 2 + i * 3, none⟩) (lt_of_cell m0)).trans m0) (And.intro ((hbb.cell (p := ⟨q + 1, 2 + i * 3 + 1, none⟩) (lt_of_cell m1)).trans m1) ((hbb.cell (p := ⟨q + 1, 2 + i * 3 + 2, none⟩) (lt_of_cell m2)).trans m2))))); clear hbb))
      all_goals
        clear cc l0 l1 l2 m0 m1 m2
        cases kb
        · go_wp2_with fail
          go_ret
          refine ⟨?_, by first | exact HBE.out | (rw [hq]; exact HBE.out)⟩
          rw [HRV.out, rls_end (i := i + 1) (by omega) HG.out, Bool.false_and]
          (try rfl)
        · go_wp2_with fail
          go_roundw
          case rel => exact ⟨i + 1, by omega, by go_num, HG, HBY⟩
          case measure => simp [intOf]; omega
    · obtain rfl : i = n := by omega
      obtain ⟨ap, hap⟩ : ∃ p, a'.p = p := ⟨_, rfl⟩
      obtain ⟨oe, hoe⟩ : ∃ x, (o == o') = x := ⟨_, rfl⟩
      have HX := hide (And.intro hap hoe)
      rw [hap] at e3
      clear hlt hAQ hCQ hap
      cases ap <;> cases oe
      all_goals
        go_wp2_with fail
        refine (rlanes_any _ _).mono ?_
        rintro en w' ⟨rfl, rfl⟩
        rw [HN.out]
        go_wp2_with fail
        go_ret
        refine ⟨?_, by first | exact HBQ.out | (rw [hq]; exact HBQ.out)⟩
        rw [HRV.out, HFL.out HO.out, HX.out.1, HX.out.2]
        (try rfl)
end Go.Proofs.YtojeaghljebbbaaDoor

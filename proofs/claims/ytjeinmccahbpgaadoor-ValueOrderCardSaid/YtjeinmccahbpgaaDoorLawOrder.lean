/-
  ValueOrder, layer 11 (value), given what works answers.
-/
import Derived.Deep.Cut
import Derived.Deep.RegionHeld3
import Derived.Test.YtjeinmccahbpgaaDoorVEq
import Derived.Test.YtjeinmccahbpgaaDoorVG
namespace Go.Proofs.YtjeinmccahbpgaaDoor
open Go.RowKit

theorem refL_refl (a : LaneD) : refL a a = true := by simp [refL]
theorem refL_trans {a b c : LaneD} (h : refL a b = true) (k : refL b c = true) : refL a c = true := by
  obtain ⟨an, ap, au⟩ := a
  obtain ⟨bn, bp, bu⟩ := b
  obtain ⟨cn, cp, cu⟩ := c
  simp only [refL] at h k ⊢
  cases ap <;> cases au <;> cases bp <;> cases bu <;> cases cp <;> cases cu <;> simp_all
theorem refL_p {b c : LaneD} (hb : b.p = true) (k : refL b c = true) : c.p = true := by
  obtain ⟨bn, bp, bu⟩ := b
  obtain ⟨cn, cp, cu⟩ := c
  simp only [refL] at k hb ⊢
  subst hb
  cases bu <;> cases cp <;> cases cu <;> simp_all
theorem rls4 (a b c d a' b' c' d' : LaneD) : rls a b c d a' b' c' d' 4 = true ↔ refL a a' = true ∧ refL b b' = true ∧ refL c c' = true ∧ refL d d' = true := by
  simp only [rls]
  cases refL a a' <;> cases refL b b' <;> cases refL c c' <;> cases refL d d' <;> simp
theorem refV_refl (t o : Int) (a b c d : LaneD) : refV t o a b c d t o a b c d = validB t o a b c d := by
  have h := (rls4 a b c d a b c d).2 ⟨refL_refl a, refL_refl b, refL_refl c, refL_refl d⟩
  simp [refV, h]
theorem refV_iff {t o a b c d t' o' a' b' c' d'} : refV t o a b c d t' o' a' b' c' d' = true ↔ validB t o a b c d = true ∧ validB t' o' a' b' c' d' = true ∧ t = t' ∧ (refL a a' = true ∧ refL b b' = true ∧ refL c c' = true ∧ refL d d' = true) ∧ (a'.p = true ∨ o = o') := by
  rw [← rls4]
  simp [refV, and_assoc]
theorem refV_trans {t o a b c d t' o' a' b' c' d' t2 o2 a2 b2 c2 d2} (h : refV t o a b c d t' o' a' b' c' d' = true) (k : refV t' o' a' b' c' d' t2 o2 a2 b2 c2 d2 = true) : refV t o a b c d t2 o2 a2 b2 c2 d2 = true := by
  rw [refV_iff] at h k ⊢
  obtain ⟨h1, h2, h3, ⟨h4, h5, h6, h7⟩, h8⟩ := h
  obtain ⟨k1, k2, k3, ⟨k4, k5, k6, k7⟩, k8⟩ := k
  refine ⟨h1, k2, h3.trans k3, ⟨refL_trans h4 k4, refL_trans h5 k5, refL_trans h6 k6, refL_trans h7 k7⟩, ?_⟩
  rcases h8 with h8 | h8
  · exact .inl (refL_p h8 k4)
  · rcases k8 with k8 | k8
    · exact .inl k8
    · exact .inr (h8.trans k8)

set_option maxRecDepth 100000 in
set_option maxHeartbeats 16000000 in
theorem order_0 (t o : Int) (a b c d : LaneD) (t' o' : Int) (a' b' c' d' : LaneD) (t2 o2 : Int) (a2 b2 c2 d2 : LaneD) (w : World) (hT : Tab w) (hW : ∀ W, Below w.heap.size w W → Calls Tryd.prog 21 #[] W fun e W' => e = .returned (.bool true) ∧ Below W.heap.size W W')
    (e12 : refV t o a b c d t' o' a' b' c' d' = false) :
    Calls Tryd.prog 6 #[.agg #[.int .i64 t, .int .i64 o, .int .i64 a.n, .bool a.p, .bool a.u, .int .i64 b.n, .bool b.p, .bool b.u, .int .i64 c.n, .bool c.p, .bool c.u, .int .i64 d.n, .bool d.p, .bool d.u], .agg #[.int .i64 t', .int .i64 o', .int .i64 a'.n, .bool a'.p, .bool a'.u, .int .i64 b'.n, .bool b'.p, .bool b'.u, .int .i64 c'.n, .bool c'.p, .bool c'.u, .int .i64 d'.n, .bool d'.p, .bool d'.u], .agg #[.int .i64 t2, .int .i64 o2, .int .i64 a2.n, .bool a2.p, .bool a2.u, .int .i64 b2.n, .bool b2.p, .bool b2.u, .int .i64 c2.n, .bool c2.p, .bool c2.u, .int .i64 d2.n, .bool d2.p, .bool d2.u]] w fun e w' => e = .returned (.bool true) ∧ Below w.heap.size w w' := by
  obtain ⟨q, hq⟩ : ∃ q, w.heap.size = q := ⟨_, rfl⟩
  obtain ⟨w1, hw1⟩ : ∃ W, w.alloc (.cells #[.int .i64 t, .int .i64 o, .int .i64 a.n, .bool a.p, .bool a.u, .int .i64 b.n, .bool b.p, .bool b.u, .int .i64 c.n, .bool c.p, .bool c.u, .int .i64 d.n, .bool d.p, .bool d.u] 27) = W := ⟨_, rfl⟩
  have hs1 : w1.heap.size = q + 1 := by rw [← hw1, World.size_alloc, hq]
  have hR1 : Whole w1 q 27 (vc t o a b c d) := by rw [← hw1, ← hq]; exact Whole.new w _ _
  have hb1 : Below w.heap.size w w1 := by rw [← hw1]; exact (Below.refl _ _).alloc (Nat.le_refl _) _
  obtain ⟨w2, hw2⟩ : ∃ W, w1.alloc (.cells #[.int .i64 t', .int .i64 o', .int .i64 a'.n, .bool a'.p, .bool a'.u, .int .i64 b'.n, .bool b'.p, .bool b'.u, .int .i64 c'.n, .bool c'.p, .bool c'.u, .int .i64 d'.n, .bool d'.p, .bool d'.u] 27) = W := ⟨_, rfl⟩
  have hs2 : w2.heap.size = q + 1 + 1 := by rw [← hw2, World.size_alloc, hs1]
  have hR2 : Whole w2 (q + 1) 27 (vc t' o' a' b' c' d') := by rw [← hw2, ← hs1]; exact Whole.new w1 _ _
  have hb12 : Below w1.heap.size w1 w2 := by rw [← hw2]; exact (Below.refl _ _).alloc (Nat.le_refl _) _
  obtain ⟨w3, hw3⟩ : ∃ W, w2.alloc (.cells #[.int .i64 t2, .int .i64 o2, .int .i64 a2.n, .bool a2.p, .bool a2.u, .int .i64 b2.n, .bool b2.p, .bool b2.u, .int .i64 c2.n, .bool c2.p, .bool c2.u, .int .i64 d2.n, .bool d2.p, .bool d2.u] 27) = W := ⟨_, rfl⟩
  have hR3 : Whole w3 (q + 1 + 1) 27 (vc t2 o2 a2 b2 c2 d2) := by rw [← hw3, ← hs2]; exact Whole.new w2 _ _
  have hb23 : Below w2.heap.size w2 w3 := by rw [← hw3]; exact (Below.refl _ _).alloc (Nat.le_refl _) _
  have HB : Hid (Below w.heap.size w w3) := hide ((hb1.trans (hb12.mono hb1.size)).trans (hb23.mono (Nat.le_trans hb1.size hb12.size)))
  have HA := hide ((hR1.below' hb12).below' hb23)
  have HV := hide (hR2.below' hb23)
  have HX := hide hR3
  have HT := hide hT
  have HW := hide hW
  clear hT hW hR1 hR2 hR3 hb1 hb12 hb23
  obtain ⟨kb, hk⟩ : ∃ x, validB t o a b c d = x := ⟨_, rfl⟩
  have e11 : refV t o a b c d t o a b c d = kb := (refV_refl t o a b c d).trans hk
  have e1 : validB t o a b c d = kb := hk
  clear hk
  go_enter Tryd.func6, Tryd.ntmps6
  go_upto_region 1 with fail
  clear hw1 hw2 hw3 hs1 hs2
  replace HB : Hid (Below w.heap.size w w3.drew) := hide HB.out.drew
  replace HA : Hid (Whole w3.drew q 27 (vc t o a b c d)) := hide (HA.out.drewN 1)
  replace HV : Hid (Whole w3.drew (q + 1) 27 (vc t' o' a' b' c' d')) := hide (HV.out.drewN 1)
  replace HX : Hid (Whole w3.drew (q + 1 + 1) 27 (vc t2 o2 a2 b2 c2 d2)) := hide (HX.out.drewN 1)
  go_region_held3 (fun w' => (w'.cell? ⟨q, 0, none⟩ = some (.int .i64 t) ∧ w'.cell? ⟨q, 1, none⟩ = some (.int .i64 o) ∧ w'.cell? ⟨q, 2, none⟩ = some (.int .i64 a.n) ∧ w'.cell? ⟨q, 3, none⟩ = some (.bool a.p) ∧ w'.cell? ⟨q, 4, none⟩ = some (.bool a.u) ∧ w'.cell? ⟨q, 5, none⟩ = some (.int .i64 b.n) ∧ w'.cell? ⟨q, 6, none⟩ = some (.bool b.p) ∧ w'.cell? ⟨q, 7, none⟩ = some (.bool b.u) ∧ w'.cell? ⟨q, 8, none⟩ = some (.int .i64 c.n) ∧ w'.cell? ⟨q, 9, none⟩ = some (.bool c.p) ∧ w'.cell? ⟨q, 10, none⟩ = some (.bool c.u) ∧ w'.cell? ⟨q, 11, none⟩ = some (.int .i64 d.n) ∧ w'.cell? ⟨q, 12, none⟩ = some (.bool d.p) ∧ w'.cell? ⟨q, 13, none⟩ = some (.bool d.u))) (exact vc_cells HA.out) (first | (go_at_call 26; refine (refines_any t o a b c d t o a b c d _ (by exact HT.out.below HB.out)).mono ?_; rintro en wn ⟨rfl, hb⟩; rw [e11]; replace HA := hide (HA.out.below' hb); replace HV := hide (HV.out.below' hb); replace HX := hide (HX.out.below' hb); replace HB := hide (HB.out.trans (hb.mono HB.out.size)); clear hb) | (go_at_call 23; refine (rvalid_any t o a b c d _).mono ?_; rintro en wn ⟨rfl, hb⟩; rw [e1]; replace HA := hide (HA.out.below' hb); replace HV := hide (HV.out.below' hb); replace HX := hide (HX.out.below' hb); replace HB := hide (HB.out.trans (hb.mono HB.out.size)); clear hb))
  all_goals
    obtain ⟨x0, x1, x2, x3, x4, x5, x6, x7, x8, x9, x10, x11, x12, x13⟩ := vc_cells HA.out
    obtain ⟨y0, y1, y2, y3, y4, y5, y6, y7, y8, y9, y10, y11, y12, y13⟩ := vc_cells HV.out
    obtain ⟨z0, z1, z2, z3, z4, z5, z6, z7, z8, z9, z10, z11, z12, z13⟩ := vc_cells HX.out
    go_wp2_with fail
    refine (refines_any t o a b c d t' o' a' b' c' d' _ (by exact HT.out.below HB.out)).mono ?_
    rintro en wn ⟨rfl, hb⟩
    rw [e12]
    clear x0 x1 x2 x3 x4 x5 x6 x7 x8 x9 x10 x11 x12 x13 y0 y1 y2 y3 y4 y5 y6 y7 y8 y9 y10 y11 y12 y13 z0 z1 z2 z3 z4 z5 z6 z7 z8 z9 z10 z11 z12 z13
    replace HA := hide (HA.out.below' hb)
    replace HV := hide (HV.out.below' hb)
    replace HX := hide (HX.out.below' hb)
    replace HB := hide (HB.out.trans (hb.mono HB.out.size))
    clear hb
    obtain ⟨x0, x1, x2, x3, x4, x5, x6, x7, x8, x9, x10, x11, x12, x13⟩ := vc_cells HA.out
    obtain ⟨y0, y1, y2, y3, y4, y5, y6, y7, y8, y9, y10, y11, y12, y13⟩ := vc_cells HV.out
    obtain ⟨z0, z1, z2, z3, z4, z5, z6, z7, z8, z9, z10, z11, z12, z13⟩ := vc_cells HX.out
    go_wp2_with fail
    refine (HW.out _ (by exact HB.out)).mono ?_
    rintro en wn ⟨rfl, hb⟩
    clear x0 x1 x2 x3 x4 x5 x6 x7 x8 x9 x10 x11 x12 x13 y0 y1 y2 y3 y4 y5 y6 y7 y8 y9 y10 y11 y12 y13 z0 z1 z2 z3 z4 z5 z6 z7 z8 z9 z10 z11 z12 z13
    replace HA := hide (HA.out.below' hb)
    replace HV := hide (HV.out.below' hb)
    replace HX := hide (HX.out.below' hb)
    replace HB := hide (HB.out.trans (hb.mono HB.out.size))
    clear hb
    obtain ⟨x0, x1, x2, x3, x4, x5, x6, x7, x8, x9, x10, x11, x12, x13⟩ := vc_cells HA.out
    obtain ⟨y0, y1, y2, y3, y4, y5, y6, y7, y8, y9, y10, y11, y12, y13⟩ := vc_cells HV.out
    obtain ⟨z0, z1, z2, z3, z4, z5, z6, z7, z8, z9, z10, z11, z12, z13⟩ := vc_cells HX.out
    go_wp2_with fail
    go_ret
    exact ⟨rfl, HB.out⟩

set_option maxRecDepth 100000 in
set_option maxHeartbeats 16000000 in
theorem order_1 (t o : Int) (a b c d : LaneD) (t' o' : Int) (a' b' c' d' : LaneD) (t2 o2 : Int) (a2 b2 c2 d2 : LaneD) (w : World) (hT : Tab w) (hW : ∀ W, Below w.heap.size w W → Calls Tryd.prog 21 #[] W fun e W' => e = .returned (.bool true) ∧ Below W.heap.size W W')
    (e12 : refV t o a b c d t' o' a' b' c' d' = true) (e23 : refV t' o' a' b' c' d' t2 o2 a2 b2 c2 d2 = false) :
    Calls Tryd.prog 6 #[.agg #[.int .i64 t, .int .i64 o, .int .i64 a.n, .bool a.p, .bool a.u, .int .i64 b.n, .bool b.p, .bool b.u, .int .i64 c.n, .bool c.p, .bool c.u, .int .i64 d.n, .bool d.p, .bool d.u], .agg #[.int .i64 t', .int .i64 o', .int .i64 a'.n, .bool a'.p, .bool a'.u, .int .i64 b'.n, .bool b'.p, .bool b'.u, .int .i64 c'.n, .bool c'.p, .bool c'.u, .int .i64 d'.n, .bool d'.p, .bool d'.u], .agg #[.int .i64 t2, .int .i64 o2, .int .i64 a2.n, .bool a2.p, .bool a2.u, .int .i64 b2.n, .bool b2.p, .bool b2.u, .int .i64 c2.n, .bool c2.p, .bool c2.u, .int .i64 d2.n, .bool d2.p, .bool d2.u]] w fun e w' => e = .returned (.bool true) ∧ Below w.heap.size w w' := by
  obtain ⟨q, hq⟩ : ∃ q, w.heap.size = q := ⟨_, rfl⟩
  obtain ⟨w1, hw1⟩ : ∃ W, w.alloc (.cells #[.int .i64 t, .int .i64 o, .int .i64 a.n, .bool a.p, .bool a.u, .int .i64 b.n, .bool b.p, .bool b.u, .int .i64 c.n, .bool c.p, .bool c.u, .int .i64 d.n, .bool d.p, .bool d.u] 27) = W := ⟨_, rfl⟩
  have hs1 : w1.heap.size = q + 1 := by rw [← hw1, World.size_alloc, hq]
  have hR1 : Whole w1 q 27 (vc t o a b c d) := by rw [← hw1, ← hq]; exact Whole.new w _ _
  have hb1 : Below w.heap.size w w1 := by rw [← hw1]; exact (Below.refl _ _).alloc (Nat.le_refl _) _
  obtain ⟨w2, hw2⟩ : ∃ W, w1.alloc (.cells #[.int .i64 t', .int .i64 o', .int .i64 a'.n, .bool a'.p, .bool a'.u, .int .i64 b'.n, .bool b'.p, .bool b'.u, .int .i64 c'.n, .bool c'.p, .bool c'.u, .int .i64 d'.n, .bool d'.p, .bool d'.u] 27) = W := ⟨_, rfl⟩
  have hs2 : w2.heap.size = q + 1 + 1 := by rw [← hw2, World.size_alloc, hs1]
  have hR2 : Whole w2 (q + 1) 27 (vc t' o' a' b' c' d') := by rw [← hw2, ← hs1]; exact Whole.new w1 _ _
  have hb12 : Below w1.heap.size w1 w2 := by rw [← hw2]; exact (Below.refl _ _).alloc (Nat.le_refl _) _
  obtain ⟨w3, hw3⟩ : ∃ W, w2.alloc (.cells #[.int .i64 t2, .int .i64 o2, .int .i64 a2.n, .bool a2.p, .bool a2.u, .int .i64 b2.n, .bool b2.p, .bool b2.u, .int .i64 c2.n, .bool c2.p, .bool c2.u, .int .i64 d2.n, .bool d2.p, .bool d2.u] 27) = W := ⟨_, rfl⟩
  have hR3 : Whole w3 (q + 1 + 1) 27 (vc t2 o2 a2 b2 c2 d2) := by rw [← hw3, ← hs2]; exact Whole.new w2 _ _
  have hb23 : Below w2.heap.size w2 w3 := by rw [← hw3]; exact (Below.refl _ _).alloc (Nat.le_refl _) _
  have HB : Hid (Below w.heap.size w w3) := hide ((hb1.trans (hb12.mono hb1.size)).trans (hb23.mono (Nat.le_trans hb1.size hb12.size)))
  have HA := hide ((hR1.below' hb12).below' hb23)
  have HV := hide (hR2.below' hb23)
  have HX := hide hR3
  have HT := hide hT
  have HW := hide hW
  clear hT hW hR1 hR2 hR3 hb1 hb12 hb23
  obtain ⟨kb, hk⟩ : ∃ x, validB t o a b c d = x := ⟨_, rfl⟩
  have e11 : refV t o a b c d t o a b c d = kb := (refV_refl t o a b c d).trans hk
  have e1 : validB t o a b c d = kb := hk
  clear hk
  go_enter Tryd.func6, Tryd.ntmps6
  go_upto_region 1 with fail
  clear hw1 hw2 hw3 hs1 hs2
  replace HB : Hid (Below w.heap.size w w3.drew) := hide HB.out.drew
  replace HA : Hid (Whole w3.drew q 27 (vc t o a b c d)) := hide (HA.out.drewN 1)
  replace HV : Hid (Whole w3.drew (q + 1) 27 (vc t' o' a' b' c' d')) := hide (HV.out.drewN 1)
  replace HX : Hid (Whole w3.drew (q + 1 + 1) 27 (vc t2 o2 a2 b2 c2 d2)) := hide (HX.out.drewN 1)
  go_region_held3 (fun w' => (w'.cell? ⟨q, 0, none⟩ = some (.int .i64 t) ∧ w'.cell? ⟨q, 1, none⟩ = some (.int .i64 o) ∧ w'.cell? ⟨q, 2, none⟩ = some (.int .i64 a.n) ∧ w'.cell? ⟨q, 3, none⟩ = some (.bool a.p) ∧ w'.cell? ⟨q, 4, none⟩ = some (.bool a.u) ∧ w'.cell? ⟨q, 5, none⟩ = some (.int .i64 b.n) ∧ w'.cell? ⟨q, 6, none⟩ = some (.bool b.p) ∧ w'.cell? ⟨q, 7, none⟩ = some (.bool b.u) ∧ w'.cell? ⟨q, 8, none⟩ = some (.int .i64 c.n) ∧ w'.cell? ⟨q, 9, none⟩ = some (.bool c.p) ∧ w'.cell? ⟨q, 10, none⟩ = some (.bool c.u) ∧ w'.cell? ⟨q, 11, none⟩ = some (.int .i64 d.n) ∧ w'.cell? ⟨q, 12, none⟩ = some (.bool d.p) ∧ w'.cell? ⟨q, 13, none⟩ = some (.bool d.u))) (exact vc_cells HA.out) (first | (go_at_call 26; refine (refines_any t o a b c d t o a b c d _ (by exact HT.out.below HB.out)).mono ?_; rintro en wn ⟨rfl, hb⟩; rw [e11]; replace HA := hide (HA.out.below' hb); replace HV := hide (HV.out.below' hb); replace HX := hide (HX.out.below' hb); replace HB := hide (HB.out.trans (hb.mono HB.out.size)); clear hb) | (go_at_call 23; refine (rvalid_any t o a b c d _).mono ?_; rintro en wn ⟨rfl, hb⟩; rw [e1]; replace HA := hide (HA.out.below' hb); replace HV := hide (HV.out.below' hb); replace HX := hide (HX.out.below' hb); replace HB := hide (HB.out.trans (hb.mono HB.out.size)); clear hb))
  all_goals
    obtain ⟨x0, x1, x2, x3, x4, x5, x6, x7, x8, x9, x10, x11, x12, x13⟩ := vc_cells HA.out
    obtain ⟨y0, y1, y2, y3, y4, y5, y6, y7, y8, y9, y10, y11, y12, y13⟩ := vc_cells HV.out
    obtain ⟨z0, z1, z2, z3, z4, z5, z6, z7, z8, z9, z10, z11, z12, z13⟩ := vc_cells HX.out
    go_wp2_with fail
    refine (refines_any t o a b c d t' o' a' b' c' d' _ (by exact HT.out.below HB.out)).mono ?_
    rintro en wn ⟨rfl, hb⟩
    rw [e12]
    clear x0 x1 x2 x3 x4 x5 x6 x7 x8 x9 x10 x11 x12 x13 y0 y1 y2 y3 y4 y5 y6 y7 y8 y9 y10 y11 y12 y13 z0 z1 z2 z3 z4 z5 z6 z7 z8 z9 z10 z11 z12 z13
    replace HA := hide (HA.out.below' hb)
    replace HV := hide (HV.out.below' hb)
    replace HX := hide (HX.out.below' hb)
    replace HB := hide (HB.out.trans (hb.mono HB.out.size))
    clear hb
    obtain ⟨x0, x1, x2, x3, x4, x5, x6, x7, x8, x9, x10, x11, x12, x13⟩ := vc_cells HA.out
    obtain ⟨y0, y1, y2, y3, y4, y5, y6, y7, y8, y9, y10, y11, y12, y13⟩ := vc_cells HV.out
    obtain ⟨z0, z1, z2, z3, z4, z5, z6, z7, z8, z9, z10, z11, z12, z13⟩ := vc_cells HX.out
    go_wp2_with fail
    refine (refines_any t' o' a' b' c' d' t2 o2 a2 b2 c2 d2 _ (by exact HT.out.below HB.out)).mono ?_
    rintro en wn ⟨rfl, hb⟩
    rw [e23]
    clear x0 x1 x2 x3 x4 x5 x6 x7 x8 x9 x10 x11 x12 x13 y0 y1 y2 y3 y4 y5 y6 y7 y8 y9 y10 y11 y12 y13 z0 z1 z2 z3 z4 z5 z6 z7 z8 z9 z10 z11 z12 z13
    replace HA := hide (HA.out.below' hb)
    replace HV := hide (HV.out.below' hb)
    replace HX := hide (HX.out.below' hb)
    replace HB := hide (HB.out.trans (hb.mono HB.out.size))
    clear hb
    obtain ⟨x0, x1, x2, x3, x4, x5, x6, x7, x8, x9, x10, x11, x12, x13⟩ := vc_cells HA.out
    obtain ⟨y0, y1, y2, y3, y4, y5, y6, y7, y8, y9, y10, y11, y12, y13⟩ := vc_cells HV.out
    obtain ⟨z0, z1, z2, z3, z4, z5, z6, z7, z8, z9, z10, z11, z12, z13⟩ := vc_cells HX.out
    go_wp2_with fail
    refine (HW.out _ (by exact HB.out)).mono ?_
    rintro en wn ⟨rfl, hb⟩
    clear x0 x1 x2 x3 x4 x5 x6 x7 x8 x9 x10 x11 x12 x13 y0 y1 y2 y3 y4 y5 y6 y7 y8 y9 y10 y11 y12 y13 z0 z1 z2 z3 z4 z5 z6 z7 z8 z9 z10 z11 z12 z13
    replace HA := hide (HA.out.below' hb)
    replace HV := hide (HV.out.below' hb)
    replace HX := hide (HX.out.below' hb)
    replace HB := hide (HB.out.trans (hb.mono HB.out.size))
    clear hb
    obtain ⟨x0, x1, x2, x3, x4, x5, x6, x7, x8, x9, x10, x11, x12, x13⟩ := vc_cells HA.out
    obtain ⟨y0, y1, y2, y3, y4, y5, y6, y7, y8, y9, y10, y11, y12, y13⟩ := vc_cells HV.out
    obtain ⟨z0, z1, z2, z3, z4, z5, z6, z7, z8, z9, z10, z11, z12, z13⟩ := vc_cells HX.out
    go_wp2_with fail
    go_ret
    exact ⟨rfl, HB.out⟩

set_option maxRecDepth 100000 in
set_option maxHeartbeats 16000000 in
theorem order_2 (t o : Int) (a b c d : LaneD) (t' o' : Int) (a' b' c' d' : LaneD) (t2 o2 : Int) (a2 b2 c2 d2 : LaneD) (w : World) (hT : Tab w) (hW : ∀ W, Below w.heap.size w W → Calls Tryd.prog 21 #[] W fun e W' => e = .returned (.bool true) ∧ Below W.heap.size W W')
    (e12 : refV t o a b c d t' o' a' b' c' d' = true) (e23 : refV t' o' a' b' c' d' t2 o2 a2 b2 c2 d2 = true) (e13 : refV t o a b c d t2 o2 a2 b2 c2 d2 = true) :
    Calls Tryd.prog 6 #[.agg #[.int .i64 t, .int .i64 o, .int .i64 a.n, .bool a.p, .bool a.u, .int .i64 b.n, .bool b.p, .bool b.u, .int .i64 c.n, .bool c.p, .bool c.u, .int .i64 d.n, .bool d.p, .bool d.u], .agg #[.int .i64 t', .int .i64 o', .int .i64 a'.n, .bool a'.p, .bool a'.u, .int .i64 b'.n, .bool b'.p, .bool b'.u, .int .i64 c'.n, .bool c'.p, .bool c'.u, .int .i64 d'.n, .bool d'.p, .bool d'.u], .agg #[.int .i64 t2, .int .i64 o2, .int .i64 a2.n, .bool a2.p, .bool a2.u, .int .i64 b2.n, .bool b2.p, .bool b2.u, .int .i64 c2.n, .bool c2.p, .bool c2.u, .int .i64 d2.n, .bool d2.p, .bool d2.u]] w fun e w' => e = .returned (.bool true) ∧ Below w.heap.size w w' := by
  obtain ⟨q, hq⟩ : ∃ q, w.heap.size = q := ⟨_, rfl⟩
  obtain ⟨w1, hw1⟩ : ∃ W, w.alloc (.cells #[.int .i64 t, .int .i64 o, .int .i64 a.n, .bool a.p, .bool a.u, .int .i64 b.n, .bool b.p, .bool b.u, .int .i64 c.n, .bool c.p, .bool c.u, .int .i64 d.n, .bool d.p, .bool d.u] 27) = W := ⟨_, rfl⟩
  have hs1 : w1.heap.size = q + 1 := by rw [← hw1, World.size_alloc, hq]
  have hR1 : Whole w1 q 27 (vc t o a b c d) := by rw [← hw1, ← hq]; exact Whole.new w _ _
  have hb1 : Below w.heap.size w w1 := by rw [← hw1]; exact (Below.refl _ _).alloc (Nat.le_refl _) _
  obtain ⟨w2, hw2⟩ : ∃ W, w1.alloc (.cells #[.int .i64 t', .int .i64 o', .int .i64 a'.n, .bool a'.p, .bool a'.u, .int .i64 b'.n, .bool b'.p, .bool b'.u, .int .i64 c'.n, .bool c'.p, .bool c'.u, .int .i64 d'.n, .bool d'.p, .bool d'.u] 27) = W := ⟨_, rfl⟩
  have hs2 : w2.heap.size = q + 1 + 1 := by rw [← hw2, World.size_alloc, hs1]
  have hR2 : Whole w2 (q + 1) 27 (vc t' o' a' b' c' d') := by rw [← hw2, ← hs1]; exact Whole.new w1 _ _
  have hb12 : Below w1.heap.size w1 w2 := by rw [← hw2]; exact (Below.refl _ _).alloc (Nat.le_refl _) _
  obtain ⟨w3, hw3⟩ : ∃ W, w2.alloc (.cells #[.int .i64 t2, .int .i64 o2, .int .i64 a2.n, .bool a2.p, .bool a2.u, .int .i64 b2.n, .bool b2.p, .bool b2.u, .int .i64 c2.n, .bool c2.p, .bool c2.u, .int .i64 d2.n, .bool d2.p, .bool d2.u] 27) = W := ⟨_, rfl⟩
  have hR3 : Whole w3 (q + 1 + 1) 27 (vc t2 o2 a2 b2 c2 d2) := by rw [← hw3, ← hs2]; exact Whole.new w2 _ _
  have hb23 : Below w2.heap.size w2 w3 := by rw [← hw3]; exact (Below.refl _ _).alloc (Nat.le_refl _) _
  have HB : Hid (Below w.heap.size w w3) := hide ((hb1.trans (hb12.mono hb1.size)).trans (hb23.mono (Nat.le_trans hb1.size hb12.size)))
  have HA := hide ((hR1.below' hb12).below' hb23)
  have HV := hide (hR2.below' hb23)
  have HX := hide hR3
  have HT := hide hT
  have HW := hide hW
  clear hT hW hR1 hR2 hR3 hb1 hb12 hb23
  obtain ⟨kb, hk⟩ : ∃ x, validB t o a b c d = x := ⟨_, rfl⟩
  have e11 : refV t o a b c d t o a b c d = kb := (refV_refl t o a b c d).trans hk
  have e1 : validB t o a b c d = kb := hk
  clear hk
  go_enter Tryd.func6, Tryd.ntmps6
  go_upto_region 1 with fail
  clear hw1 hw2 hw3 hs1 hs2
  replace HB : Hid (Below w.heap.size w w3.drew) := hide HB.out.drew
  replace HA : Hid (Whole w3.drew q 27 (vc t o a b c d)) := hide (HA.out.drewN 1)
  replace HV : Hid (Whole w3.drew (q + 1) 27 (vc t' o' a' b' c' d')) := hide (HV.out.drewN 1)
  replace HX : Hid (Whole w3.drew (q + 1 + 1) 27 (vc t2 o2 a2 b2 c2 d2)) := hide (HX.out.drewN 1)
  go_region_held3 (fun w' => (w'.cell? ⟨q, 0, none⟩ = some (.int .i64 t) ∧ w'.cell? ⟨q, 1, none⟩ = some (.int .i64 o) ∧ w'.cell? ⟨q, 2, none⟩ = some (.int .i64 a.n) ∧ w'.cell? ⟨q, 3, none⟩ = some (.bool a.p) ∧ w'.cell? ⟨q, 4, none⟩ = some (.bool a.u) ∧ w'.cell? ⟨q, 5, none⟩ = some (.int .i64 b.n) ∧ w'.cell? ⟨q, 6, none⟩ = some (.bool b.p) ∧ w'.cell? ⟨q, 7, none⟩ = some (.bool b.u) ∧ w'.cell? ⟨q, 8, none⟩ = some (.int .i64 c.n) ∧ w'.cell? ⟨q, 9, none⟩ = some (.bool c.p) ∧ w'.cell? ⟨q, 10, none⟩ = some (.bool c.u) ∧ w'.cell? ⟨q, 11, none⟩ = some (.int .i64 d.n) ∧ w'.cell? ⟨q, 12, none⟩ = some (.bool d.p) ∧ w'.cell? ⟨q, 13, none⟩ = some (.bool d.u))) (exact vc_cells HA.out) (first | (go_at_call 26; refine (refines_any t o a b c d t o a b c d _ (by exact HT.out.below HB.out)).mono ?_; rintro en wn ⟨rfl, hb⟩; rw [e11]; replace HA := hide (HA.out.below' hb); replace HV := hide (HV.out.below' hb); replace HX := hide (HX.out.below' hb); replace HB := hide (HB.out.trans (hb.mono HB.out.size)); clear hb) | (go_at_call 23; refine (rvalid_any t o a b c d _).mono ?_; rintro en wn ⟨rfl, hb⟩; rw [e1]; replace HA := hide (HA.out.below' hb); replace HV := hide (HV.out.below' hb); replace HX := hide (HX.out.below' hb); replace HB := hide (HB.out.trans (hb.mono HB.out.size)); clear hb))
  all_goals
    obtain ⟨x0, x1, x2, x3, x4, x5, x6, x7, x8, x9, x10, x11, x12, x13⟩ := vc_cells HA.out
    obtain ⟨y0, y1, y2, y3, y4, y5, y6, y7, y8, y9, y10, y11, y12, y13⟩ := vc_cells HV.out
    obtain ⟨z0, z1, z2, z3, z4, z5, z6, z7, z8, z9, z10, z11, z12, z13⟩ := vc_cells HX.out
    go_wp2_with fail
    refine (refines_any t o a b c d t' o' a' b' c' d' _ (by exact HT.out.below HB.out)).mono ?_
    rintro en wn ⟨rfl, hb⟩
    rw [e12]
    clear x0 x1 x2 x3 x4 x5 x6 x7 x8 x9 x10 x11 x12 x13 y0 y1 y2 y3 y4 y5 y6 y7 y8 y9 y10 y11 y12 y13 z0 z1 z2 z3 z4 z5 z6 z7 z8 z9 z10 z11 z12 z13
    replace HA := hide (HA.out.below' hb)
    replace HV := hide (HV.out.below' hb)
    replace HX := hide (HX.out.below' hb)
    replace HB := hide (HB.out.trans (hb.mono HB.out.size))
    clear hb
    obtain ⟨x0, x1, x2, x3, x4, x5, x6, x7, x8, x9, x10, x11, x12, x13⟩ := vc_cells HA.out
    obtain ⟨y0, y1, y2, y3, y4, y5, y6, y7, y8, y9, y10, y11, y12, y13⟩ := vc_cells HV.out
    obtain ⟨z0, z1, z2, z3, z4, z5, z6, z7, z8, z9, z10, z11, z12, z13⟩ := vc_cells HX.out
    go_wp2_with fail
    refine (refines_any t' o' a' b' c' d' t2 o2 a2 b2 c2 d2 _ (by exact HT.out.below HB.out)).mono ?_
    rintro en wn ⟨rfl, hb⟩
    rw [e23]
    clear x0 x1 x2 x3 x4 x5 x6 x7 x8 x9 x10 x11 x12 x13 y0 y1 y2 y3 y4 y5 y6 y7 y8 y9 y10 y11 y12 y13 z0 z1 z2 z3 z4 z5 z6 z7 z8 z9 z10 z11 z12 z13
    replace HA := hide (HA.out.below' hb)
    replace HV := hide (HV.out.below' hb)
    replace HX := hide (HX.out.below' hb)
    replace HB := hide (HB.out.trans (hb.mono HB.out.size))
    clear hb
    obtain ⟨x0, x1, x2, x3, x4, x5, x6, x7, x8, x9, x10, x11, x12, x13⟩ := vc_cells HA.out
    obtain ⟨y0, y1, y2, y3, y4, y5, y6, y7, y8, y9, y10, y11, y12, y13⟩ := vc_cells HV.out
    obtain ⟨z0, z1, z2, z3, z4, z5, z6, z7, z8, z9, z10, z11, z12, z13⟩ := vc_cells HX.out
    go_wp2_with fail
    refine (refines_any t o a b c d t2 o2 a2 b2 c2 d2 _ (by exact HT.out.below HB.out)).mono ?_
    rintro en wn ⟨rfl, hb⟩
    rw [e13]
    clear x0 x1 x2 x3 x4 x5 x6 x7 x8 x9 x10 x11 x12 x13 y0 y1 y2 y3 y4 y5 y6 y7 y8 y9 y10 y11 y12 y13 z0 z1 z2 z3 z4 z5 z6 z7 z8 z9 z10 z11 z12 z13
    replace HA := hide (HA.out.below' hb)
    replace HV := hide (HV.out.below' hb)
    replace HX := hide (HX.out.below' hb)
    replace HB := hide (HB.out.trans (hb.mono HB.out.size))
    clear hb
    obtain ⟨x0, x1, x2, x3, x4, x5, x6, x7, x8, x9, x10, x11, x12, x13⟩ := vc_cells HA.out
    obtain ⟨y0, y1, y2, y3, y4, y5, y6, y7, y8, y9, y10, y11, y12, y13⟩ := vc_cells HV.out
    obtain ⟨z0, z1, z2, z3, z4, z5, z6, z7, z8, z9, z10, z11, z12, z13⟩ := vc_cells HX.out
    go_wp2_with fail
    refine (HW.out _ (by exact HB.out)).mono ?_
    rintro en wn ⟨rfl, hb⟩
    clear x0 x1 x2 x3 x4 x5 x6 x7 x8 x9 x10 x11 x12 x13 y0 y1 y2 y3 y4 y5 y6 y7 y8 y9 y10 y11 y12 y13 z0 z1 z2 z3 z4 z5 z6 z7 z8 z9 z10 z11 z12 z13
    replace HA := hide (HA.out.below' hb)
    replace HV := hide (HV.out.below' hb)
    replace HX := hide (HX.out.below' hb)
    replace HB := hide (HB.out.trans (hb.mono HB.out.size))
    clear hb
    obtain ⟨x0, x1, x2, x3, x4, x5, x6, x7, x8, x9, x10, x11, x12, x13⟩ := vc_cells HA.out
    obtain ⟨y0, y1, y2, y3, y4, y5, y6, y7, y8, y9, y10, y11, y12, y13⟩ := vc_cells HV.out
    obtain ⟨z0, z1, z2, z3, z4, z5, z6, z7, z8, z9, z10, z11, z12, z13⟩ := vc_cells HX.out
    go_wp2_with fail
    go_ret
    exact ⟨rfl, HB.out⟩

theorem order_law (t o : Int) (a b c d : LaneD) (t' o' : Int) (a' b' c' d' : LaneD) (t2 o2 : Int) (a2 b2 c2 d2 : LaneD) (w : World) (hT : Tab w) (hW : ∀ W, Below w.heap.size w W → Calls Tryd.prog 21 #[] W fun e W' => e = .returned (.bool true) ∧ Below W.heap.size W W') :
    Calls Tryd.prog 6 #[.agg #[.int .i64 t, .int .i64 o, .int .i64 a.n, .bool a.p, .bool a.u, .int .i64 b.n, .bool b.p, .bool b.u, .int .i64 c.n, .bool c.p, .bool c.u, .int .i64 d.n, .bool d.p, .bool d.u], .agg #[.int .i64 t', .int .i64 o', .int .i64 a'.n, .bool a'.p, .bool a'.u, .int .i64 b'.n, .bool b'.p, .bool b'.u, .int .i64 c'.n, .bool c'.p, .bool c'.u, .int .i64 d'.n, .bool d'.p, .bool d'.u], .agg #[.int .i64 t2, .int .i64 o2, .int .i64 a2.n, .bool a2.p, .bool a2.u, .int .i64 b2.n, .bool b2.p, .bool b2.u, .int .i64 c2.n, .bool c2.p, .bool c2.u, .int .i64 d2.n, .bool d2.p, .bool d2.u]] w fun e w' => e = .returned (.bool true) ∧ Below w.heap.size w w' := by
  cases e12 : refV t o a b c d t' o' a' b' c' d'
  · exact order_0 t o a b c d t' o' a' b' c' d' t2 o2 a2 b2 c2 d2 w hT hW e12
  · cases e23 : refV t' o' a' b' c' d' t2 o2 a2 b2 c2 d2
    · exact order_1 t o a b c d t' o' a' b' c' d' t2 o2 a2 b2 c2 d2 w hT hW e12 e23
    · exact order_2 t o a b c d t' o' a' b' c' d' t2 o2 a2 b2 c2 d2 w hT hW e12 e23 (refV_trans e12 e23)
end Go.Proofs.YtjeinmccahbpgaaDoor

/-
  ValueOrder, layer 11 (value), given what works answers.
-/
import Derived.Deep.Cut
import Derived.Deep.RegionHeld3
import Derived.Test.YtojeaghljebbbaaDoorVEq
import Derived.Test.YtojeaghljebbbaaDoorVG
namespace Go.Proofs.YtojeaghljebbbaaDoor
open Go.RowKit

theorem refL_refl (a : LaneD) : refL a a = true := by simp [refL]
theorem refL_trans {a b c : LaneD} (h : refL a b = true) (k : refL b c = true) : refL a c = true := by
  obtain ⟨an, ap, au⟩ := a
  obtain ⟨bn, bp, bu⟩ := b
  obtain ⟨cn, cp, cu⟩ := c
  simp only [refL] at h k ⊢
  cases ap <;> cases au <;> cases bp <;> cases bu <;> cases cp <;> cases cu <;> simp_all
theorem refL_p {b c : LaneD} (hb : b.p = true) (k : refL b c = true) : c.p = true := by
  obtain ⟨bn, bp, bu⟩ := b
  obtain ⟨cn, cp, cu⟩ := c
  simp only [refL] at k hb ⊢
  subst hb
  cases bu <;> cases cp <;> cases cu <;> simp_all
theorem rls4 (a b c d a' b' c' d' : LaneD) : rls a b c d a' b' c' d' 4 = true ↔ refL a a' = true ∧ refL b b' = true ∧ refL c c' = true ∧ refL d d' = true := by
  simp only [rls]
  cases refL a a' <;> cases refL b b' <;> cases refL c c' <;> cases refL d d' <;> simp
theorem refV_refl (t o : Int) (a b c d : LaneD) : refV t o a b c d t o a b c d = validB t o a b c d := by
  have h := (rls4 a b c d a b c d).2 ⟨refL_refl a, refL_refl b, refL_refl c, refL_refl d⟩
  simp [refV, h]
theorem refV_iff {t o a b c d t' o' a' b' c' d'} : refV t o a b c d t' o' a' b' c' d' = true ↔ validB t o a b c d = true ∧ validB t' o' a' b' c' d' = true ∧ t = t' ∧ (refL a a' = true ∧ refL b b' = true ∧ refL c c' = true ∧ refL d d' = true) ∧ (a'.p = true ∨ o = o') := by
  rw [← rls4]
  simp [refV, and_assoc]
theorem refV_trans {t o a b c d t' o' a' b' c' d' t2 o2 a2 b2 c2 d2} (h : refV t o a b c d t' o' a' b' c' d' = true) (k : refV t' o' a' b' c' d' t2 o2 a2 b2 c2 d2 = true) : refV t o a b c d t2 o2 a2 b2 c2 d2 = true := by
  rw [refV_iff] at h k ⊢
  obtain ⟨h1, h2, h3, ⟨h4, h5, h6, h7⟩, h8⟩ := h
  obtain ⟨k1, k2, k3, ⟨k4, k5, k6, k7⟩, k8⟩ := k
  refine ⟨h1, k2, h3.trans k3, ⟨refL_trans h4 k4, refL_trans h5 k5, refL_trans h6 k6, refL_trans h7 k7⟩, ?_⟩
  rcases h8 with h8 | h8
  · exact .inl (refL_p h8 k4)
  · rcases k8 with k8 | k8
    · exact .inl k8
    · exact .inr (h8.trans k8)

end Go.Proofs.YtojeaghljebbbaaDoor

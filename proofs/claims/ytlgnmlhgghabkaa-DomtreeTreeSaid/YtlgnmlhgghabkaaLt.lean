/-
  Layer 8 (domtree): the theorems of Lengauer and Tarjan on the places of a depth-first tree: semidominators and immediate dominators.
-/
import Derived.Test.YtlgnmlhgghabkaaKit
namespace Go.Proofs.Ytlgnmlhgghabkaa
open Go.RowKit

/-- a is v, or above it in the tree. -/
inductive Anc (par : Nat → Nat) (a : Nat) : Nat → Prop
  | here : Anc par a a
  | up {v : Nat} : 0 < v → Anc par a (par v) → Anc par a v
/-- The places of a depth-first tree: their edges, and the tree's. -/
structure Dft (m : Nat) (E : Nat → Nat → Prop) (par : Nat → Nat) : Prop where
  pos : 0 < m
  lt : ∀ u v, E u v → u < m ∧ v < m
  parlt : ∀ p, 0 < p → p < m → par p < p
  parE : ∀ p, 0 < p → p < m → E (par p) p
  fwd : ∀ u v, E u v → u < v → Anc par u v
  iv : ∀ c y x, x < m → Anc par c x → c ≤ y → y ≤ x → Anc par c y
/-- From x a path leads to w, through greater places only. -/
inductive Up (E : Nat → Nat → Prop) (w : Nat) : Nat → Prop
  | here : Up E w w
  | step {x y : Nat} : w < x → E x y → Up E w y → Up E w x
/-- From v a path leads to w, through greater places only. -/
def Cand (E : Nat → Nat → Prop) (w v : Nat) : Prop := ∃ y, E v y ∧ Up E w y
/-- x can be reached without d. -/
inductive Av (E : Nat → Nat → Prop) (d : Nat) : Nat → Prop
  | root : 0 ≠ d → Av E d 0
  | step {u x : Nat} : Av E d u → E u x → x ≠ d → Av E d x
/-- The greatest place before w without which w cannot be reached. -/
structure IsIdom (E : Nat → Nat → Prop) (i w : Nat) : Prop where
  lt : i < w
  dom : ¬ Av E i w
  last : ∀ j, i < j → j < w → Av E j w
section
variable {m : Nat} {E : Nat → Nat → Prop} {par : Nat → Nat}
theorem Anc.trans {a b c : Nat} (h : Anc par a b) (k : Anc par b c) : Anc par a c := by
  induction k with
  | here => exact h
  | up h0 _ ih => exact .up h0 ih
theorem Up.ge {w x : Nat} (h : Up E w x) : w ≤ x := by
  cases h with
  | here => exact Nat.le_refl _
  | step h _ _ => omega
section
variable (D : Dft m E par)
include D
theorem Dft.le {a v : Nat} (h : Anc par a v) (hv : v < m) : a ≤ v := by
  induction h with
  | here => exact Nat.le_refl _
  | @up v h0 _ ih =>
    have := D.parlt v h0 hv
    have := ih (by omega)
    omega
theorem Dft.chain {a b w : Nat} (h : Anc par a w) (k : Anc par b w) (hab : a ≤ b) (hw : w < m) : Anc par a b := by
  induction k with
  | here => exact h
  | @up w h0 hb ih =>
    have hp := D.parlt w h0 hw
    cases h with
    | here =>
      have := D.le hb (by omega)
      omega
    | up _ h => exact ih h (by omega)
theorem Dft.edge {c x y : Nat} (h : Anc par c x) (e : E x y) (hc : c ≤ y) : Anc par c y := by
  by_cases l : x < y
  · exact h.trans (D.fwd x y e l)
  · exact D.iv c y x (D.lt x y e).1 h hc (by omega)
theorem Dft.upAnc {v w y : Nat} (hu : Up E w y) (hv : v ≤ w) (h : Anc par v y) : Anc par v w := by
  induction hu with
  | here => exact h
  | step _ e hu ih => exact ih (D.edge h e (Nat.le_trans hv hu.ge))
theorem Dft.candAnc {w v : Nat} (h : Cand E w v) (hv : v < w) : Anc par v w := by
  obtain ⟨y, e, hu⟩ := h
  exact D.upAnc hu (Nat.le_of_lt hv) (D.edge .here e (by have := hu.ge; omega))
theorem Dft.down {w u v : Nat} (h : Anc par u v) (hv : v < m) (hw : w < u) (k : Up E w v) : Up E w u := by
  induction h with
  | here => exact k
  | @up v h0 ha ih =>
    have hp := D.parlt v h0 hv
    have hl := D.le ha (by omega)
    exact ih (by omega) (.step (by omega) (D.parE v h0 hv) k)
/-- Where a path through greater places ends: below one of them lies a predecessor. -/
theorem Dft.split {w y : Nat} (h : Up E w y) : y = w ∨ ∃ u v, w < u ∧ Anc par u v ∧ E v w ∧ Up E u y := by
  induction h with
  | here => exact .inl rfl
  | @step x y hx e hu ih =>
    refine .inr ?_
    rcases ih with rfl | ⟨u, v, hwu, ha, hv, hup⟩
    · exact ⟨x, x, hx, .here, e, .here⟩
    · rcases Nat.lt_trichotomy u x with l | rfl | l
      · exact ⟨u, v, hwu, ha, hv, .step l e hup⟩
      · exact ⟨u, v, hwu, ha, hv, .here⟩
      · refine ⟨x, v, hx, ?_, hv, .here⟩
        have h1 : Anc par x y := D.edge .here e (by have := hup.ge; omega)
        exact (D.upAnc hup (Nat.le_of_lt l) h1).trans ha
/-- What the semidominators are, from the predecessors. -/
theorem Dft.cand_iff {w x : Nat} (hx : x < w) : Cand E w x ↔ (E x w ∨ ∃ u v, w < u ∧ Anc par u v ∧ E v w ∧ Cand E u x) := by
  constructor
  · rintro ⟨y, e, hu⟩
    rcases D.split hu with rfl | ⟨u, v, h1, h2, h3, h4⟩
    · exact .inl e
    · exact .inr ⟨u, v, h1, h2, h3, y, e, h4⟩
  · rintro (e | ⟨u, v, h1, h2, h3, y, e, h4⟩)
    · exact ⟨w, e, .here⟩
    · refine ⟨y, e, ?_⟩
      have hv : v < m := (D.lt v w h3).1
      have hwv : w < v := Nat.lt_of_lt_of_le h1 (D.le h2 hv)
      have hu : Up E w u := D.down h2 hv h1 (.step hwv h3 .here)
      clear e
      induction h4 with
      | here => exact hu
      | step hz e _ ih => exact .step (by omega) e ih
theorem Dft.avTree {d x : Nat} (hx : x < m) (hd : x < d) : Av E d x := by
  induction x using Nat.strongRecOn with
  | _ x ih =>
    by_cases h0 : x = 0
    · subst h0; exact .root (by omega)
    · have hp := D.parlt x (by omega) hx
      exact .step (ih (par x) hp (by omega) (by omega)) (D.parE x (by omega) hx) (by omega)
theorem Dft.avDown {d u v : Nat} (h : Anc par u v) (hv : v < m) (hd : d < u) (k : Av E d u) : Av E d v := by
  induction h with
  | here => exact k
  | @up v h0 ha ih =>
    have hp := D.parlt v h0 hv
    have hl := D.le ha (by omega)
    exact .step (ih (by omega)) (D.parE v h0 hv) (by omega)
omit D in
theorem avUp {d u y : Nat} (h : Up E u y) (hd : d < u) (k : Av E d y) : Av E d u := by
  induction h with
  | here => exact k
  | @step x y hx e hu ih => exact ih (.step k e (by have := hu.ge; omega))
theorem Dft.avCand {d u x : Nat} (h : Cand E u x) (hx : x < d) (hd : d < u) : Av E d u := by
  obtain ⟨y, e, hu⟩ := h
  exact avUp hu hd (.step (D.avTree (D.lt x y e).1 hx) e (by have := hu.ge; omega))
/-- Who is reached without s, lies below one with a lesser semidominator. -/
theorem Dft.entry {s v : Nat} (h : Av E s v) : v < s ∨ ∃ u x, s < u ∧ Anc par u v ∧ Cand E u x ∧ x < s := by
  induction h with
  | root h0 => exact .inl (by omega)
  | @step a v h e hne ih =>
    by_cases hv : v < s
    · exact .inl hv
    · have hsv : s < v := by omega
      refine .inr ?_
      rcases ih with hu | ⟨u, x, h1, h2, ⟨y, hy, hup⟩, h4⟩
      · exact ⟨v, a, hsv, .here, ⟨v, e, .here⟩, hu⟩
      · by_cases l : u ≤ v
        · exact ⟨u, x, h1, D.edge h2 e l, ⟨y, hy, hup⟩, h4⟩
        · refine ⟨v, x, hsv, .here, ⟨y, hy, ?_⟩, h4⟩
          have ha : a < m := (D.lt a v e).1
          have hva : v < a := Nat.lt_of_lt_of_le (by omega) (D.le h2 ha)
          have hu : Up E v u := D.down h2 ha (by omega) (.step hva e .here)
          clear hy
          induction hup with
          | here => exact hu
          | step hz e2 _ ih2 => exact .step (by omega) e2 ih2
end
/-- The semidominators. -/
structure IsSd (m : Nat) (E : Nat → Nat → Prop) (sd : Nat → Nat) : Prop where
  cand : ∀ w, 0 < w → w < m → Cand E w (sd w)
  least : ∀ w, 0 < w → w < m → ∀ v, Cand E w v → sd w ≤ v
section
variable {sd : Nat → Nat} (D : Dft m E par) (S : IsSd m E sd)
include D S
theorem Dft.sd_lt {w : Nat} (h0 : 0 < w) (hw : w < m) : sd w < w := by
  have h1 := S.least w h0 hw (par w) ⟨w, D.parE w h0 hw, .here⟩
  have h2 := D.parlt w h0 hw
  omega
theorem Dft.sd_anc {w : Nat} (h0 : 0 < w) (hw : w < m) : Anc par (sd w) w := D.candAnc (S.cand w h0 hw) (D.sd_lt S h0 hw)
theorem Dft.between {w j : Nat} (h0 : 0 < w) (hw : w < m) (h1 : sd w < j) (h2 : j < w) : Av E j w := D.avCand (S.cand w h0 hw) h1 h2
/-- No place between has a lesser semidominator: then it is the immediate dominator. -/
theorem Dft.two {w : Nat} (h0 : 0 < w) (hw : w < m) (h : ∀ u, sd w < u → Anc par u w → sd w ≤ sd u) : IsIdom E (sd w) w := by
  refine ⟨D.sd_lt S h0 hw, fun c => ?_, fun j h1 h2 => D.between S h0 hw h1 h2⟩
  have hl := D.sd_lt S h0 hw
  rcases D.entry c with e | ⟨u, x, h1, h2, h3, h4⟩
  · omega
  · have hu := D.le h2 hw
    have h5 := S.least u (by omega) (by omega) x h3
    have h6 := h u h1 h2
    omega
/-- Else the least such place has the same immediate dominator. -/
theorem Dft.three {w u i : Nat} (h0 : 0 < w) (hw : w < m) (h1 : sd w < u) (h2 : Anc par u w) (hm : ∀ u', sd w < u' → Anc par u' w → sd u ≤ sd u') (hlt : sd u < sd w) (hi : IsIdom E i u) : IsIdom E i w := by
  have hu := D.le h2 hw
  have hiu : i ≤ sd u := Nat.le_of_not_lt fun c => hi.dom (D.between S (by omega) (by omega) c hi.lt)
  have hil := hi.lt
  refine ⟨by omega, fun c => ?_, fun j h3 h4 => ?_⟩
  · rcases D.entry c with e | ⟨u', x, h3, h4, h5, h6⟩
    · omega
    · have hu' := D.le h4 hw
      have h7 := S.least u' (by omega) (by omega) x h5
      by_cases l : sd w < u'
      · have := hm u' l h4
        omega
      · have ha := D.chain h4 h2 (by omega) hw
        exact hi.dom (D.avDown ha (by omega) h3 (D.avCand h5 h6 h3))
  · by_cases l : sd w < j
    · exact D.between S h0 hw l h4
    · exact D.avDown h2 hw (by omega) (hi.last j h3 (by omega))
end
end
end Go.Proofs.Ytlgnmlhgghabkaa

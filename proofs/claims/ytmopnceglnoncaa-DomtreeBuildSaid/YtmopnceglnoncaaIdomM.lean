/-
  Layer 8 (domtree): the steps of immediateDominators, as mathematics.
-/
import Derived.Test.YtmopnceglnoncaaKit
namespace Go.Proofs.Ytmopnceglnoncaa
open Go.RowKit

/-- a is v, or above it in the tree. -/
inductive Anc (par : Nat → Nat) (a : Nat) : Nat → Prop
  | here : Anc par a a
  | up {v : Nat} : 0 < v → Anc par a (par v) → Anc par a v
/-- The places of a depth-first tree: their edges, and the tree's. -/
structure Dft (m : Nat) (E : Nat → Nat → Prop) (par : Nat → Nat) : Prop where
  pos : 0 < m
  lt : ∀ u v, E u v → u < m ∧ v < m
  parlt : ∀ p, 0 < p → p < m → par p < p
  parE : ∀ p, 0 < p → p < m → E (par p) p
  fwd : ∀ u v, E u v → u < v → Anc par u v
  iv : ∀ c y x, x < m → Anc par c x → c ≤ y → y ≤ x → Anc par c y
/-- From x a path leads to w, through greater places only. -/
inductive Up (E : Nat → Nat → Prop) (w : Nat) : Nat → Prop
  | here : Up E w w
  | step {x y : Nat} : w < x → E x y → Up E w y → Up E w x
/-- From v a path leads to w, through greater places only. -/
def Cand (E : Nat → Nat → Prop) (w v : Nat) : Prop := ∃ y, E v y ∧ Up E w y
/-- x can be reached without d. -/
inductive Av (E : Nat → Nat → Prop) (d : Nat) : Nat → Prop
  | root : 0 ≠ d → Av E d 0
  | step {u x : Nat} : Av E d u → E u x → x ≠ d → Av E d x
/-- The greatest place before w without which w cannot be reached. -/
structure IsIdom (E : Nat → Nat → Prop) (i w : Nat) : Prop where
  lt : i < w
  dom : ¬ Av E i w
  last : ∀ j, i < j → j < w → Av E j w
section
variable {m : Nat} {E : Nat → Nat → Prop} {par : Nat → Nat}
theorem Anc.trans {a b c : Nat} (h : Anc par a b) (k : Anc par b c) : Anc par a c := by
  induction k with
  | here => exact h
  | up h0 _ ih => exact .up h0 ih
theorem Up.ge {w x : Nat} (h : Up E w x) : w ≤ x := by
  cases h with
  | here => exact Nat.le_refl _
  | step h _ _ => omega
section
variable (D : Dft m E par)
include D
theorem Dft.le {a v : Nat} (h : Anc par a v) (hv : v < m) : a ≤ v := by
  induction h with
  | here => exact Nat.le_refl _
  | @up v h0 _ ih =>
    have := D.parlt v h0 hv
    have := ih (by omega)
    omega
theorem Dft.chain {a b w : Nat} (h : Anc par a w) (k : Anc par b w) (hab : a ≤ b) (hw : w < m) : Anc par a b := by
  induction k with
  | here => exact h
  | @up w h0 hb ih =>
    have hp := D.parlt w h0 hw
    cases h with
    | here =>
      have := D.le hb (by omega)
      omega
    | up _ h => exact ih h (by omega)
theorem Dft.edge {c x y : Nat} (h : Anc par c x) (e : E x y) (hc : c ≤ y) : Anc par c y := by
  by_cases l : x < y
  · exact h.trans (D.fwd x y e l)
  · exact D.iv c y x (D.lt x y e).1 h hc (by omega)
theorem Dft.upAnc {v w y : Nat} (hu : Up E w y) (hv : v ≤ w) (h : Anc par v y) : Anc par v w := by
  induction hu with
  | here => exact h
  | step _ e hu ih => exact ih (D.edge h e (Nat.le_trans hv hu.ge))
theorem Dft.candAnc {w v : Nat} (h : Cand E w v) (hv : v < w) : Anc par v w := by
  obtain ⟨y, e, hu⟩ := h
  exact D.upAnc hu (Nat.le_of_lt hv) (D.edge .here e (by have := hu.ge; omega))
theorem Dft.down {w u v : Nat} (h : Anc par u v) (hv : v < m) (hw : w < u) (k : Up E w v) : Up E w u := by
  induction h with
  | here => exact k
  | @up v h0 ha ih =>
    have hp := D.parlt v h0 hv
    have hl := D.le ha (by omega)
    exact ih (by omega) (.step (by omega) (D.parE v h0 hv) k)
/-- Where a path through greater places ends: below one of them lies a predecessor. -/
theorem Dft.split {w y : Nat} (h : Up E w y) : y = w ∨ ∃ u v, w < u ∧ Anc par u v ∧ E v w ∧ Up E u y := by
  induction h with
  | here => exact .inl rfl
  | @step x y hx e hu ih =>
    refine .inr ?_
    rcases ih with rfl | ⟨u, v, hwu, ha, hv, hup⟩
    · exact ⟨x, x, hx, .here, e, .here⟩
    · rcases Nat.lt_trichotomy u x with l | rfl | l
      · exact ⟨u, v, hwu, ha, hv, .step l e hup⟩
      · exact ⟨u, v, hwu, ha, hv, .here⟩
      · refine ⟨x, v, hx, ?_, hv, .here⟩
        have h1 : Anc par x y := D.edge .here e (by have := hup.ge; omega)
        exact (D.upAnc hup (Nat.le_of_lt l) h1).trans ha
/-- What the semidominators are, from the predecessors. -/
theorem Dft.cand_iff {w x : Nat} (hx : x < w) : Cand E w x ↔ (E x w ∨ ∃ u v, w < u ∧ Anc par u v ∧ E v w ∧ Cand E u x) := by
  constructor
  · rintro ⟨y, e, hu⟩
    rcases D.split hu with rfl | ⟨u, v, h1, h2, h3, h4⟩
    · exact .inl e
    · exact .inr ⟨u, v, h1, h2, h3, y, e, h4⟩
  · rintro (e | ⟨u, v, h1, h2, h3, y, e, h4⟩)
    · exact ⟨w, e, .here⟩
    · refine ⟨y, e, ?_⟩
      have hv : v < m := (D.lt v w h3).1
      have hwv : w < v := Nat.lt_of_lt_of_le h1 (D.le h2 hv)
      have hu : Up E w u := D.down h2 hv h1 (.step hwv h3 .here)
      clear e
      induction h4 with
      | here => exact hu
      | step hz e _ ih => exact .step (by omega) e ih
theorem Dft.avTree {d x : Nat} (hx : x < m) (hd : x < d) : Av E d x := by
  induction x using Nat.strongRecOn with
  | _ x ih =>
    by_cases h0 : x = 0
    · subst h0; exact .root (by omega)
    · have hp := D.parlt x (by omega) hx
      exact .step (ih (par x) hp (by omega) (by omega)) (D.parE x (by omega) hx) (by omega)
theorem Dft.avDown {d u v : Nat} (h : Anc par u v) (hv : v < m) (hd : d < u) (k : Av E d u) : Av E d v := by
  induction h with
  | here => exact k
  | @up v h0 ha ih =>
    have hp := D.parlt v h0 hv
    have hl := D.le ha (by omega)
    exact .step (ih (by omega)) (D.parE v h0 hv) (by omega)
omit D in
theorem avUp {d u y : Nat} (h : Up E u y) (hd : d < u) (k : Av E d y) : Av E d u := by
  induction h with
  | here => exact k
  | @step x y hx e hu ih => exact ih (.step k e (by have := hu.ge; omega))
theorem Dft.avCand {d u x : Nat} (h : Cand E u x) (hx : x < d) (hd : d < u) : Av E d u := by
  obtain ⟨y, e, hu⟩ := h
  exact avUp hu hd (.step (D.avTree (D.lt x y e).1 hx) e (by have := hu.ge; omega))
/-- Who is reached without s, lies below one with a lesser semidominator. -/
theorem Dft.entry {s v : Nat} (h : Av E s v) : v < s ∨ ∃ u x, s < u ∧ Anc par u v ∧ Cand E u x ∧ x < s := by
  induction h with
  | root h0 => exact .inl (by omega)
  | @step a v h e hne ih =>
    by_cases hv : v < s
    · exact .inl hv
    · have hsv : s < v := by omega
      refine .inr ?_
      rcases ih with hu | ⟨u, x, h1, h2, ⟨y, hy, hup⟩, h4⟩
      · exact ⟨v, a, hsv, .here, ⟨v, e, .here⟩, hu⟩
      · by_cases l : u ≤ v
        · exact ⟨u, x, h1, D.edge h2 e l, ⟨y, hy, hup⟩, h4⟩
        · refine ⟨v, x, hsv, .here, ⟨y, hy, ?_⟩, h4⟩
          have ha : a < m := (D.lt a v e).1
          have hva : v < a := Nat.lt_of_lt_of_le (by omega) (D.le h2 ha)
          have hu : Up E v u := D.down h2 ha (by omega) (.step hva e .here)
          clear hy
          induction hup with
          | here => exact hu
          | step hz e2 _ ih2 => exact .step (by omega) e2 ih2
end
/-- The semidominators. -/
structure IsSd (m : Nat) (E : Nat → Nat → Prop) (sd : Nat → Nat) : Prop where
  cand : ∀ w, 0 < w → w < m → Cand E w (sd w)
  least : ∀ w, 0 < w → w < m → ∀ v, Cand E w v → sd w ≤ v
section
variable {sd : Nat → Nat} (D : Dft m E par) (S : IsSd m E sd)
include D S
theorem Dft.sd_lt {w : Nat} (h0 : 0 < w) (hw : w < m) : sd w < w := by
  have h1 := S.least w h0 hw (par w) ⟨w, D.parE w h0 hw, .here⟩
  have h2 := D.parlt w h0 hw
  omega
theorem Dft.sd_anc {w : Nat} (h0 : 0 < w) (hw : w < m) : Anc par (sd w) w := D.candAnc (S.cand w h0 hw) (D.sd_lt S h0 hw)
theorem Dft.between {w j : Nat} (h0 : 0 < w) (hw : w < m) (h1 : sd w < j) (h2 : j < w) : Av E j w := D.avCand (S.cand w h0 hw) h1 h2
/-- No place between has a lesser semidominator: then it is the immediate dominator. -/
theorem Dft.two {w : Nat} (h0 : 0 < w) (hw : w < m) (h : ∀ u, sd w < u → Anc par u w → sd w ≤ sd u) : IsIdom E (sd w) w := by
  refine ⟨D.sd_lt S h0 hw, fun c => ?_, fun j h1 h2 => D.between S h0 hw h1 h2⟩
  have hl := D.sd_lt S h0 hw
  rcases D.entry c with e | ⟨u, x, h1, h2, h3, h4⟩
  · omega
  · have hu := D.le h2 hw
    have h5 := S.least u (by omega) (by omega) x h3
    have h6 := h u h1 h2
    omega
/-- Else the least such place has the same immediate dominator. -/
theorem Dft.three {w u i : Nat} (h0 : 0 < w) (hw : w < m) (h1 : sd w < u) (h2 : Anc par u w) (hm : ∀ u', sd w < u' → Anc par u' w → sd u ≤ sd u') (hlt : sd u < sd w) (hi : IsIdom E i u) : IsIdom E i w := by
  have hu := D.le h2 hw
  have hiu : i ≤ sd u := Nat.le_of_not_lt fun c => hi.dom (D.between S (by omega) (by omega) c hi.lt)
  have hil := hi.lt
  refine ⟨by omega, fun c => ?_, fun j h3 h4 => ?_⟩
  · rcases D.entry c with e | ⟨u', x, h3, h4, h5, h6⟩
    · omega
    · have hu' := D.le h4 hw
      have h7 := S.least u' (by omega) (by omega) x h5
      by_cases l : sd w < u'
      · have := hm u' l h4
        omega
      · have ha := D.chain h4 h2 (by omega) hw
        exact hi.dom (D.avDown ha (by omega) h3 (D.avCand h5 h6 h3))
  · by_cases l : sd w < j
    · exact D.between S h0 hw l h4
    · exact D.avDown h2 hw (by omega) (hi.last j h3 (by omega))
end
end
end Go.Proofs.Ytmopnceglnoncaa
namespace Go.Proofs.Ytmopnceglnoncaa
open Go.RowKit

def set1 (f : Nat → Nat) (x v : Nat) : Nat → Nat := fun i => if i = x then v else f i
theorem set1_at (f : Nat → Nat) (x v : Nat) : set1 f x v x = v := by simp [set1]
theorem set1_ne (f : Nat → Nat) {x y : Nat} (v : Nat) (h : y ≠ x) : set1 f x v y = f y := by simp [set1, h]
def seti (f : Nat → Int) (x : Nat) (v : Int) : Nat → Int := fun i => if i = x then v else f i
theorem seti_at (f : Nat → Int) (x : Nat) (v : Int) : seti f x v x = v := by simp [seti]
theorem seti_ne (f : Nat → Int) {x y : Nat} (v : Int) (h : y ≠ x) : seti f x v y = f y := by simp [seti, h]

/-- Linked are the places from k on. A linked place's up is one above it, and its best is the one with the least number semi from it to below up. -/
structure Forest (m k : Nat) (par semi : Nat → Nat) (up : Nat → Int) (best : Nat → Nat) : Prop where
  root : ∀ p, p < m → (p < k ∨ p = 0) → up p = -1 ∧ best p = p
  link : ∀ p, k ≤ p → 0 < p → p < m → ∃ a : Nat, up p = (a : Int) ∧ a < p ∧ Anc par a p ∧ (∀ u, Anc par u p → a < u → k ≤ u) ∧ Anc par (best p) p ∧ a < best p ∧ ∀ u, Anc par u p → a < u → semi (best p) ≤ semi u
/-- The way up from p is short: p is a root, or what it points to is one. -/
def Short (up : Nat → Int) (p : Nat) : Prop := up p = -1 ∨ ∃ a : Nat, up p = (a : Int) ∧ up a = -1
section
variable {m k : Nat} {E : Nat → Nat → Prop} {par semi : Nat → Nat} {up : Nat → Int} {best : Nat → Nat}
theorem Forest.neg (F : Forest m k par semi up best) {p : Nat} (hp : p < m) : up p = -1 ↔ (p < k ∨ p = 0) := by
  constructor
  · intro h
    by_cases c : p < k ∨ p = 0
    · exact c
    · obtain ⟨a, ha, -⟩ := F.link p (by omega) (by omega) hp
      omega
  · exact fun h => (F.root p hp h).1
theorem Forest.zero (par semi : Nat → Nat) (m : Nat) : Forest m m par semi (fun _ => -1) (fun p => p) := ⟨fun _ _ _ => ⟨rfl, rfl⟩, fun p h1 _ h3 => by omega⟩
/-- A new semi for a place that is not linked. -/
theorem Forest.fresh (F : Forest m k par semi up best) {s : Nat → Nat} (h : ∀ u, k ≤ u → s u = semi u) : Forest m k par s up best :=
  ⟨F.root, fun p h1 h2 h3 => by
    obtain ⟨a, h4, h5, h6, h7, h8, h9, h10⟩ := F.link p h1 h2 h3
    exact ⟨a, h4, h5, h6, h7, h8, h9, fun u hu hau => by rw [h _ (h7 _ h8 h9), h u (h7 u hu hau)]; exact h10 u hu hau⟩⟩
/-- link: the next place gets its parent. -/
theorem Forest.next (D : Dft m E par) (F : Forest m (k + 1) par semi up best) (h0 : 0 < k) (hk : k < m) : Forest m k par semi (seti up k (par k : Nat)) best := by
  refine ⟨fun p hp h => ?_, fun p h1 h2 h3 => ?_⟩
  · rw [seti_ne _ _ (by omega)]
    exact F.root p hp (by omega)
  · by_cases e : p = k
    · subst e
      rw [seti_at]
      have hb := (F.root p h3 (by omega)).2
      have hl := D.parlt p h0 hk
      refine ⟨par p, rfl, hl, .up h0 .here, fun u hu hau => ?_, by rw [hb]; exact .here, by rw [hb]; exact hl, fun u hu hau => ?_⟩
      · cases hu with
        | here => exact Nat.le_refl _
        | up _ hu => have := D.le hu (by omega); omega
      · cases hu with
        | here => rw [hb]; exact Nat.le_refl _
        | up _ hu => have := D.le hu (by omega); omega
    · rw [seti_ne _ _ e]
      obtain ⟨a, h4, h5, h6, h7, h8, h9, h10⟩ := F.link p (by omega) h2 h3
      exact ⟨a, h4, h5, h6, fun u hu hau => by have := h7 u hu hau; omega, h8, h9, h10⟩
/-- One step of making a way short: p's up a has a short way itself, to a root b. -/
theorem Forest.skip (D : Dft m E par) (F : Forest m k par semi up best) {p a b : Nat} (hp : p < m) (h1 : up p = (a : Int)) (h2 : up a = (b : Int)) : Forest m k par semi (seti up p (b : Int)) (set1 best p (if semi (best a) < semi (best p) then best a else best p)) := by
  have hpk : ¬ (p < k ∨ p = 0) := fun c => by have := (F.root p hp c).1; omega
  obtain ⟨a', e1, hap, hAp, hk1, hb1, hl1, hm1⟩ := F.link p (by omega) (by omega) hp
  obtain rfl : a = a' := by omega
  have hak : ¬ (a < k ∨ a = 0) := fun c => by have := (F.root a (by omega) c).1; omega
  obtain ⟨b', e2, hba, hBa, hk2, hb2, hl2, hm2⟩ := F.link a (by omega) (by omega) (by omega)
  obtain rfl : b = b' := by omega
  refine ⟨fun q hq h => ?_, fun q hq1 hq2 hq3 => ?_⟩
  · have hne : q ≠ p := fun e => hpk (e ▸ h)
    rw [seti_ne _ _ hne, set1_ne _ _ hne]
    exact F.root q hq h
  · by_cases e : q = p
    · subst e
      rw [seti_at, set1_at]
      refine ⟨b, rfl, by omega, hBa.trans hAp, fun u hu hbu => ?_, ?_, ?_, fun u hu hbu => ?_⟩
      · by_cases l : a < u
        · exact hk1 u hu l
        · exact hk2 u (D.chain hu hAp (by omega) hp) hbu
      · split
        · exact hb2.trans hAp
        · exact hb1
      · split
        · exact hl2
        · omega
      · by_cases l : a < u
        · have := hm1 u hu l
          split <;> omega
        · have := hm2 u (D.chain hu hAp (by omega) hp) hbu
          split <;> omega
    · rw [seti_ne _ _ e, set1_ne _ _ e]
      exact F.link q hq1 hq2 hq3
/-- What least answers: the place itself if it is not linked, else the best of the linked places above it. -/
theorem Forest.least (D : Dft m E par) (F : Forest m k par semi up best) {p : Nat} (hp : p < m) (hs : Short up p) : ((p < k ∨ p = 0) → best p = p) ∧ (¬ (p < k ∨ p = 0) → Anc par (best p) p ∧ k ≤ best p ∧ ∀ u, Anc par u p → k ≤ u → 0 < u → semi (best p) ≤ semi u) := by
  refine ⟨fun h => (F.root p hp h).2, fun h => ?_⟩
  obtain ⟨a, h4, h5, h6, h7, h8, h9, h10⟩ := F.link p (by omega) (by omega) hp
  rcases hs with e | ⟨a', e1, e2⟩
  · omega
  · obtain rfl : a = a' := by omega
    have hr := (F.neg (show a < m by omega)).1 e2
    exact ⟨h8, h7 _ h8 h9, fun u hu hk h0 => h10 u hu (by omega)⟩
end
end Go.Proofs.Ytmopnceglnoncaa
namespace Go.Proofs.Ytmopnceglnoncaa
open Go.RowKit

section
variable {m : Nat} {E : Nat → Nat → Prop} {par sd : Nat → Nat}
theorem anc_child {p w : Nat} (h : Anc par p w) (hne : p ≠ w) : ∃ c, 0 < c ∧ par c = p ∧ Anc par c w := by
  induction h with
  | here => exact absurd rfl hne
  | @up v h0 ha ih =>
    by_cases e : p = par v
    · exact ⟨v, h0, e.symm, .here⟩
    · obtain ⟨c, h1, h2, h3⟩ := ih e
      exact ⟨c, h1, h2, .up h0 h3⟩
/-- A place's semidominator is the least of what its predecessors offer. -/
structure Semi (m k : Nat) (sd semi : Nat → Nat) : Prop where
  old : ∀ u, k ≤ u → 0 < u → u < m → semi u = sd u
  new : ∀ u, u < k → semi u = u
/-- Of the predecessors of w some have been looked at: T. s is the least so far. -/
structure Look (m : Nat) (E : Nat → Nat → Prop) (w : Nat) (T : Nat → Prop) (s : Nat) : Prop where
  le : s ≤ w
  cand : s < w → Cand E w s
  least : ∀ v, T v → ∀ x, (v < w → v = x → s ≤ x) ∧ (w < v → ∀ u, w < u → Anc par u v → Cand E u x → s ≤ x)
end
section
variable {m : Nat} {E : Nat → Nat → Prop} {par sd semi : Nat → Nat}
/-- What is known of a place that has been taken out of its list. -/
def Half (E : Nat → Nat → Prop) (par sd : Nat → Nat) (w d : Nat) : Prop :=
  (d = sd w ∧ ∀ u, sd w < u → Anc par u w → sd w ≤ sd u) ∨ (sd w < d ∧ Anc par d w ∧ (∀ u, sd w < u → Anc par u w → sd d ≤ sd u) ∧ sd d < sd w)
theorem half_le (D : Dft m E par) (S : IsSd m E sd) {w d : Nat} (h0 : 0 < w) (hw : w < m) (h : Half E par sd w d) : d < w ∧ sd w ≤ d ∧ (d = sd w → IsIdom E d w) ∧ (d ≠ sd w → ∀ i, IsIdom E i d → IsIdom E i w) := by
  have hl := D.sd_lt S h0 hw
  rcases h with ⟨rfl, h⟩ | ⟨h1, h2, h3, h4⟩
  · exact ⟨hl, Nat.le_refl _, fun _ => D.two S h0 hw h, fun c => absurd rfl c⟩
  · have hd := D.le h2 hw
    have hne : d ≠ w := fun e => by subst e; omega
    exact ⟨by omega, by omega, fun e => by omega, fun _ i hi => D.three S h0 hw h1 h2 h3 h4 hi⟩
/-- The bounds of a predecessor's offer: from is the predecessor, b what least answers for it. -/
theorem offer (D : Dft m E par) (S : IsSd m E sd) {w v b s : Nat} {up : Nat → Int} {best : Nat → Nat} (hw0 : 0 < w) (hw : w < m) (hE : E v w) (hF : Forest m (w + 1) par semi up best) (hs : Semi m (w + 1) sd (set1 semi w w)) (hsw : ∀ u, u ≠ w → set1 semi w w u = semi u) (hb : b = best v) (hS : Short up v) : (v < w → semi b = v) ∧ (v = w → b = w) ∧ (w < v → Cand E w (semi b) ∧ semi b < w ∨ w ≤ semi b) ∧ (w < v → ∀ u, w < u → Anc par u v → semi b ≤ sd u) := by
  have hv := (D.lt v w hE).1
  obtain ⟨h1, h2⟩ := hF.least D hv hS
  subst hb
  refine ⟨fun c => ?_, fun c => ?_, fun c => ?_, fun c u hu hau => ?_⟩
  · rw [h1 (by omega)]
    have := hs.new v (by omega)
    rwa [hsw v (by omega)] at this
  · rw [h1 (by omega), c]
  · obtain ⟨h3, h4, h5⟩ := h2 (by omega)
    have hbl := D.le h3 hv
    have hso : semi (best v) = sd (best v) := by
      have := hs.old (best v) h4 (by omega) (by omega)
      rwa [hsw _ (by omega)] at this
    by_cases l : semi (best v) < w
    · refine .inl ⟨(D.cand_iff l).2 (.inr ⟨best v, v, by omega, h3, hE, ?_⟩), l⟩
      rw [hso]; exact S.cand _ (by omega) (by omega)
    · exact .inr (by omega)
  · obtain ⟨h3, h4, h5⟩ := h2 (by omega)
    have hul := D.le hau hv
    have h6 := h5 u hau (by omega) (by omega)
    have := hs.old u (by omega) (by omega) (by omega)
    rw [hsw _ (by omega)] at this
    omega
/-- All predecessors looked at: s is the semidominator. -/
theorem look_end (D : Dft m E par) (S : IsSd m E sd) {w s : Nat} (hw0 : 0 < w) (hw : w < m) (hle : s ≤ w) (hc : s < w → Cand E w s) (h1 : ∀ v, E v w → v < w → s ≤ v) (h2 : ∀ v, E v w → w < v → ∀ u, w < u → Anc par u v → s ≤ sd u) : s = sd w := by
  have hp := h1 (par w) (D.parE w hw0 hw) (D.parlt w hw0 hw)
  have hl := D.parlt w hw0 hw
  have hsd := D.sd_lt S hw0 hw
  refine Nat.le_antisymm ?_ (S.least w hw0 hw s (hc (by omega)))
  rcases (D.cand_iff hsd).1 (S.cand w hw0 hw) with e | ⟨u, v, a, b, e, f⟩
  · exact h1 _ e hsd
  · have hv := (D.lt v w e).1
    have huv := D.le b hv
    have := h2 v e (by omega) u a b
    have := S.least u (by omega) (by omega) _ f
    omega
/-- The lists of those that wait, and the dominators of the others. -/
structure Wait (m k : Nat) (E : Nat → Nat → Prop) (par sd : Nat → Nat) (W : Nat → List Nat) (dm : Nat → Nat) : Prop where
  mem : ∀ p w, w ∈ W p → k ≤ w ∧ 0 < w ∧ w < m ∧ sd w = p ∧ ∀ c, 0 < c → par c = p → Anc par c w → c < k
  all : ∀ w, k ≤ w → 0 < w → w < m → w ∈ W (sd w) ∨ Half E par sd w (dm w)
theorem Wait.zero (dm : Nat → Nat) : Wait m m E par sd (fun _ => []) dm := ⟨fun _ _ h => (by cases h), fun w h1 _ h3 => (by omega)⟩
theorem Wait.done (D : Dft m E par) (S : IsSd m E sd) {W : Nat → List Nat} {dm : Nat → Nat} (h : Wait m 1 E par sd W dm) : ∀ w, 0 < w → w < m → Half E par sd w (dm w) := fun w h0 hw => by
  rcases h.all w h0 h0 hw with c | c
  · have hl := D.sd_lt S h0 hw
    obtain ⟨c', h1, h2, h3⟩ := anc_child (D.sd_anc S h0 hw) (by omega)
    have := (h.mem _ _ c).2.2.2.2 c' h1 h2 h3
    omega
  · exact c
/-- Those that wait for p when its child k is linked: the linked places above them are those behind p. -/
theorem Wait.above (D : Dft m E par) (S : IsSd m E sd) {k : Nat} (h0 : 0 < k) (hk : k < m) {w : Nat} (hkw : k ≤ w) (hw : w < m) (hsd : sd w = par k) (hc : ∀ c, 0 < c → par c = par k → Anc par c w → c ≤ k) {u : Nat} (hu : Anc par u w) : k ≤ u ↔ par k < u := by
  have hp := D.parlt k h0 hk
  constructor
  · intro h; omega
  · intro h
    have hw0 : 0 < w := by omega
    have hl := D.sd_lt S hw0 hw
    have ha := D.sd_anc S hw0 hw
    rw [hsd] at ha hl
    obtain ⟨c, c0, c1, c2⟩ := anc_child ha (by omega)
    have hck := hc c c0 c1 c2
    have hcw := D.le c2 hw
    have hpc : par k < c := by have := D.parlt c c0 (by omega); omega
    have hcu : c ≤ u := by
      apply Classical.byContradiction
      intro hn
      have := D.chain hu c2 (by omega) hw
      cases this with
      | here => omega
      | up _ hh =>
        have := D.le hh (by have := D.parlt c c0 (by omega); omega)
        omega
    have hkc : k ≤ c := by
      apply Classical.byContradiction
      intro hn
      have h3 := D.iv c k w hw c2 (by omega) hkw
      cases h3 with
      | here => omega
      | up _ hh =>
        have := D.le hh (by omega)
        omega
    omega
end
end Go.Proofs.Ytmopnceglnoncaa
namespace Go.Proofs.Ytmopnceglnoncaa
open Go.RowKit

theorem least_ex {p : Nat → Prop} : ∀ n, p n → ∃ k, p k ∧ ∀ j, p j → k ≤ j := fun n => by
  induction n using Nat.strongRecOn with
  | _ n ih =>
    intro h
    by_cases c : ∃ j, j < n ∧ p j
    · obtain ⟨j, hj, hp⟩ := c
      exact ih j hj hp
    · exact ⟨n, h, fun j hj => Nat.le_of_not_lt fun l => c ⟨j, l, hj⟩⟩
theorem sd_ex {m : Nat} {E : Nat → Nat → Prop} {par : Nat → Nat} (D : Dft m E par) : ∃ sd, IsSd m E sd := by
  have h : ∀ w, ∃ k, (0 < w → w < m → Cand E w k ∧ ∀ j, Cand E w j → k ≤ j) := fun w => by
    by_cases c : 0 < w ∧ w < m
    · obtain ⟨k, h1, h2⟩ := least_ex (p := Cand E w) (par w) ⟨w, D.parE w c.1 c.2, .here⟩
      exact ⟨k, fun _ _ => ⟨h1, h2⟩⟩
    · exact ⟨0, fun h1 h2 => absurd ⟨h1, h2⟩ c⟩
  exact ⟨fun w => Classical.choose (h w), fun w h0 hw => (Classical.choose_spec (h w) h0 hw).1, fun w h0 hw => (Classical.choose_spec (h w) h0 hw).2⟩
/-- Some of the predecessors of w have been looked at; s is the least so far. -/
structure Looks (E : Nat → Nat → Prop) (par sd : Nat → Nat) (w : Nat) (T : Nat → Prop) (s : Nat) : Prop where
  le : s ≤ w
  cand : s < w → Cand E w s
  low : ∀ v, T v → v < w → s ≤ v
  high : ∀ v, T v → w < v → ∀ u, w < u → Anc par u v → s ≤ sd u
section
variable {m : Nat} {E : Nat → Nat → Prop} {par sd semi best dm : Nat → Nat} {up : Nat → Int} {w s v : Nat} {T T' : Nat → Prop}
theorem Looks.zero (w : Nat) : Looks E par sd w (fun _ => False) w := ⟨Nat.le_refl _, fun h => absurd h (Nat.lt_irrefl _), fun _ h => h.elim, fun _ h => h.elim⟩
/-- A predecessor without a place. -/
theorem Looks.congr (h : Looks E par sd w T s) (hT : ∀ v, T' v → T v) : Looks E par sd w T' s := ⟨h.le, h.cand, fun v hv => h.low v (hT v hv), fun v hv => h.high v (hT v hv)⟩
/-- A further predecessor. -/
theorem Looks.next (D : Dft m E par) (S : IsSd m E sd) (h : Looks E par sd w T s) (hw0 : 0 < w) (hw : w < m) (hE : E v w) (hF : Forest m (w + 1) par semi up best) (hold : ∀ u, w < u → u < m → semi u = sd u) (hnew : ∀ u, u < w → semi u = u) (hws : semi w = s) (hS : Short up v) (hT : ∀ x, T' x → T x ∨ x = v) : Looks E par sd w T' (min s (semi (best v))) := by
  have hv := (D.lt v w hE).1
  obtain ⟨h1, h2⟩ := hF.least D hv hS
  rcases Nat.lt_trichotomy v w with c | c | c
  · rw [h1 (by omega), hnew v c]
    refine ⟨by have := h.le; omega, fun hlt => ?_, fun x hx hxw => ?_, fun x hx hxw u hu ha => ?_⟩
    · by_cases e : s ≤ v
      · rw [Nat.min_eq_left e] at hlt ⊢; exact h.cand hlt
      · rw [Nat.min_eq_right (by omega)]; exact ⟨w, hE, .here⟩
    · rcases hT x hx with hx | rfl
      · have := h.low x hx hxw; omega
      · omega
    · rcases hT x hx with hx | rfl
      · have := h.high x hx hxw u hu ha; omega
      · omega
  · subst c
    rw [h1 (by omega), hws, Nat.min_self]
    refine ⟨h.le, h.cand, fun x hx hxw => ?_, fun x hx hxw u hu ha => ?_⟩
    · rcases hT x hx with hx | rfl
      · exact h.low x hx hxw
      · omega
    · rcases hT x hx with hx | rfl
      · exact h.high x hx hxw u hu ha
      · omega
  · obtain ⟨h3, h4, h5⟩ := h2 (by omega)
    have hbl := D.le h3 hv
    rw [hold (best v) (by omega) (by omega)]
    refine ⟨by have := h.le; omega, fun hlt => ?_, fun x hx hxw => ?_, fun x hx hxw u hu ha => ?_⟩
    · by_cases e : s ≤ sd (best v)
      · rw [Nat.min_eq_left e] at hlt ⊢; exact h.cand hlt
      · have hm : min s (sd (best v)) = sd (best v) := Nat.min_eq_right (by omega)
        rw [hm] at hlt ⊢
        exact (D.cand_iff hlt).2 (.inr ⟨best v, v, by omega, h3, hE, S.cand _ (by omega) (by omega)⟩)
    · rcases hT x hx with hx | rfl
      · have := h.low x hx hxw; omega
      · omega
    · rcases hT x hx with hx | rfl
      · have := h.high x hx hxw u hu ha; omega
      · have h6 := h5 u ha (by omega) (by omega)
        have hul := D.le ha hv
        rw [hold (best x) (by omega) (by omega), hold u (by omega) (by omega)] at h6
        omega
/-- All have been looked at. -/
theorem Looks.all (D : Dft m E par) (S : IsSd m E sd) (h : Looks E par sd w T s) (hw0 : 0 < w) (hw : w < m) (hT : ∀ v, E v w → T v) : s = sd w :=
  look_end D S hw0 hw h.le h.cand (fun v hv => h.low v (hT v hv)) (fun v hv => h.high v (hT v hv))

/-- The lists with w's place put behind the others of sd w. -/
def wadd (W : Nat → List Nat) (q w : Nat) : Nat → List Nat := fun i => if i = q then W q ++ [w] else W i
def wnil (W : Nat → List Nat) (q : Nat) : Nat → List Nat := fun i => if i = q then [] else W i
/-- Within the emptying of the list of k's parent: those of `done` have been taken out. -/
structure Empt (m k : Nat) (E : Nat → Nat → Prop) (par sd : Nat → Nat) (W : Nat → List Nat) (done : List Nat) (dm : Nat → Nat) : Prop where
  mem : ∀ p w, w ∈ W p → k ≤ w ∧ 0 < w ∧ w < m ∧ sd w = p ∧ ∀ c, 0 < c → par c = p → Anc par c w → c < k ∨ p = par k ∧ c ≤ k
  all : ∀ w, k ≤ w → 0 < w → w < m → w ∈ W (sd w) ∨ Half E par sd w (dm w)
  half : ∀ w ∈ done, Half E par sd w (dm w)
theorem Wait.empt (D : Dft m E par) {k : Nat} {W : Nat → List Nat} (h0 : 0 < k) (hk : k < m) (h : Wait m (k + 1) E par sd W dm) : Empt m k E par sd (wadd W (sd k) k) [] dm := by
  refine ⟨fun p w hw => ?_, fun w h1 h2 h3 => ?_, fun w hw => (by cases hw)⟩
  · have old : w ∈ W p → _ := fun hw => by
      obtain ⟨a1, a2, a3, a4, a5⟩ := h.mem p w hw
      exact (⟨by omega, a2, a3, a4, fun c c0 c1 c2 => by
        have := a5 c c0 c1 c2
        by_cases e : c = k
        · subst e; exact .inr ⟨c1.symm, Nat.le_refl _⟩
        · exact .inl (by omega)⟩ : k ≤ w ∧ 0 < w ∧ w < m ∧ sd w = p ∧ ∀ c, 0 < c → par c = p → Anc par c w → c < k ∨ p = par k ∧ c ≤ k)
    unfold wadd at hw
    by_cases e : p = sd k
    · rw [if_pos e] at hw
      rcases List.mem_append.1 hw with hw | hw
      · exact old (e ▸ hw)
      · obtain rfl : w = k := by simpa using hw
        exact ⟨Nat.le_refl _, h0, hk, e.symm, fun c c0 c1 c2 => by
          have := D.le c2 hk
          by_cases e2 : c = w
          · subst e2; exact .inr ⟨c1.symm, Nat.le_refl _⟩
          · exact .inl (by omega)⟩
    · rw [if_neg e] at hw; exact old hw
  · by_cases e : w = k
    · subst e
      exact .inl (by unfold wadd; rw [if_pos rfl]; simp)
    · rcases h.all w (by omega) h2 h3 with c | c
      · refine .inl ?_
        unfold wadd
        by_cases e2 : sd w = sd k
        · rw [if_pos e2, ← e2]; exact List.mem_append_left _ c
        · rw [if_neg e2]; exact c
      · exact .inr c
/-- One is taken out: b is what least answers for it. -/
theorem Empt.next (D : Dft m E par) (S : IsSd m E sd) {k : Nat} {W : Nat → List Nat} {done : List Nat} {x : Nat} (h0 : 0 < k) (hk : k < m) (h : Empt m k E par sd W done dm) (hx : x ∈ W (par k)) (F : Forest m k par semi up best) (hsemi : ∀ u, k ≤ u → u < m → semi u = sd u) (hS : Short up x) : Empt m k E par sd W (done ++ [x]) (set1 dm x (if semi (best x) < par k then best x else par k)) := by
  obtain ⟨a1, a2, a3, a4, a5⟩ := h.mem _ x hx
  have ab := fun {u} hu => Wait.above D S h0 hk a1 a3 a4 (fun c c0 c1 c2 => by rcases a5 c c0 c1 c2 with e | e <;> omega) (u := u) hu
  obtain ⟨b1, b2, b3⟩ := (F.least D a3 hS).2 (by omega)
  have hbl := D.le b1 a3
  have hH : Half E par sd x (if semi (best x) < par k then best x else par k) := by
    by_cases c : semi (best x) < par k
    · rw [if_pos c]
      refine .inr ⟨by rw [a4]; exact (ab b1).1 b2, b1, fun u hu ha => ?_, by rw [← hsemi (best x) b2 (by omega), a4]; exact c⟩
      have h1 := (ab ha).2 (by omega)
      have h2 := b3 u ha h1 (by omega)
      have h3 := D.le ha a3
      rw [hsemi (best x) b2 (by omega), hsemi u h1 (by omega)] at h2
      exact h2
    · rw [if_neg c]
      refine .inl ⟨a4.symm, fun u hu ha => ?_⟩
      have h1 := (ab ha).2 (by omega)
      have h2 := b3 u ha h1 (by omega)
      have h3 := D.le ha a3
      rw [hsemi u h1 (by omega)] at h2
      omega
  refine ⟨h.mem, fun w w1 w2 w3 => ?_, fun w hw => ?_⟩
  · by_cases e : w = x
    · subst e; rw [set1_at]; exact .inr hH
    · rw [set1_ne _ _ e]; exact h.all w w1 w2 w3
  · by_cases e : w = x
    · subst e; rw [set1_at]; exact hH
    · rw [set1_ne _ _ e]
      rcases List.mem_append.1 hw with hw | hw
      · exact h.half w hw
      · exact absurd (by simpa using hw) e
/-- All have been taken out. -/
theorem Empt.done {k : Nat} {W : Nat → List Nat} (h : Empt m k E par sd W (W (par k)) dm) : Wait m k E par sd (wnil W (par k)) dm := by
  refine ⟨fun p w hw => ?_, fun w h1 h2 h3 => ?_⟩
  · unfold wnil at hw
    by_cases e : p = par k
    · rw [if_pos e] at hw; cases hw
    · rw [if_neg e] at hw
      obtain ⟨a1, a2, a3, a4, a5⟩ := h.mem p w hw
      exact ⟨a1, a2, a3, a4, fun c c0 c1 c2 => by rcases a5 c c0 c1 c2 with c | ⟨c, _⟩ <;> first | exact c | exact absurd c e⟩
  · rcases h.all w h1 h2 h3 with c | c
    · by_cases e : sd w = par k
      · exact .inr (h.half w (e ▸ c))
      · exact .inl (by unfold wnil; rw [if_neg e]; exact c)
    · exact .inr c
/-- The last pass: the first i are done. -/
structure Last (m : Nat) (E : Nat → Nat → Prop) (dm d : Nat → Nat) (i : Nat) : Prop where
  done : ∀ w, 0 < w → w < m → w < i → IsIdom E (d w) w
  rest : ∀ w, i ≤ w → d w = dm w
  zero : d 0 = dm 0
theorem Last.begin : Last m E dm dm 1 := ⟨fun w h0 _ h1 => by omega, fun _ _ => rfl, rfl⟩
theorem Last.keep (D : Dft m E par) (S : IsSd m E sd) {d : Nat → Nat} {i : Nat} (h : Last m E dm d i) (h0 : 0 < i) (hi : i < m) (hh : Half E par sd i (dm i)) (e : d i = sd i) : Last m E dm d (i + 1) := by
  obtain ⟨_, _, a3, _⟩ := half_le D S h0 hi hh
  refine ⟨fun w w0 wm wi => ?_, fun w hw => h.rest w (by omega), h.zero⟩
  by_cases c : w = i
  · subst c
    rw [h.rest w (Nat.le_refl _)] at e ⊢
    exact a3 e
  · exact h.done w w0 wm (by omega)
theorem Last.turn (D : Dft m E par) (S : IsSd m E sd) {d : Nat → Nat} {i : Nat} (h : Last m E dm d i) (h0 : 0 < i) (hi : i < m) (hh : Half E par sd i (dm i)) (e : d i ≠ sd i) : Last m E dm (set1 d i (d (d i))) (i + 1) := by
  obtain ⟨a1, a2, _, a4⟩ := half_le D S h0 hi hh
  have hr := h.rest i (Nat.le_refl _)
  refine ⟨fun w w0 wm wi => ?_, fun w hw => by rw [set1_ne _ _ (by omega)]; exact h.rest w (by omega), by rw [set1_ne _ _ (by omega)]; exact h.zero⟩
  by_cases c : w = i
  · subst c
    rw [set1_at]
    rw [hr] at e ⊢
    exact a4 e _ (h.done (dm w) (by omega) (by omega) (by omega))
  · rw [set1_ne _ _ c]; exact h.done w w0 wm (by omega)
end
end Go.Proofs.Ytmopnceglnoncaa

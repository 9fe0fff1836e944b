/-
  Layer 8 (domtree): the run of Lengauer and Tarjan's algorithm, as mathematics.
-/
import Derived.Test.YtlgnmlhgghabkaaForest
namespace Go.Proofs.Ytlgnmlhgghabkaa
open Go.RowKit

section
variable {m : Nat} {E : Nat → Nat → Prop} {par sd : Nat → Nat}
theorem anc_child {p w : Nat} (h : Anc par p w) (hne : p ≠ w) : ∃ c, 0 < c ∧ par c = p ∧ Anc par c w := by
  induction h with
  | here => exact absurd rfl hne
  | @up v h0 ha ih =>
    by_cases e : p = par v
    · exact ⟨v, h0, e.symm, .here⟩
    · obtain ⟨c, h1, h2, h3⟩ := ih e
      exact ⟨c, h1, h2, .up h0 h3⟩
/-- A place's semidominator is the least of what its predecessors offer. -/
structure Semi (m k : Nat) (sd semi : Nat → Nat) : Prop where
  old : ∀ u, k ≤ u → 0 < u → u < m → semi u = sd u
  new : ∀ u, u < k → semi u = u
/-- Of the predecessors of w some have been looked at: T. s is the least so far. -/
structure Look (m : Nat) (E : Nat → Nat → Prop) (w : Nat) (T : Nat → Prop) (s : Nat) : Prop where
  le : s ≤ w
  cand : s < w → Cand E w s
  least : ∀ v, T v → ∀ x, (v < w → v = x → s ≤ x) ∧ (w < v → ∀ u, w < u → Anc par u v → Cand E u x → s ≤ x)
end
section
variable {m : Nat} {E : Nat → Nat → Prop} {par sd semi : Nat → Nat}
/-- What is known of a place that has been taken out of its list. -/
def Half (E : Nat → Nat → Prop) (par sd : Nat → Nat) (w d : Nat) : Prop :=
  (d = sd w ∧ ∀ u, sd w < u → Anc par u w → sd w ≤ sd u) ∨ (sd w < d ∧ Anc par d w ∧ (∀ u, sd w < u → Anc par u w → sd d ≤ sd u) ∧ sd d < sd w)
theorem half_le (D : Dft m E par) (S : IsSd m E sd) {w d : Nat} (h0 : 0 < w) (hw : w < m) (h : Half E par sd w d) : d < w ∧ sd w ≤ d ∧ (d = sd w → IsIdom E d w) ∧ (d ≠ sd w → ∀ i, IsIdom E i d → IsIdom E i w) := by
  have hl := D.sd_lt S h0 hw
  rcases h with ⟨rfl, h⟩ | ⟨h1, h2, h3, h4⟩
  · exact ⟨hl, Nat.le_refl _, fun _ => D.two S h0 hw h, fun c => absurd rfl c⟩
  · have hd := D.le h2 hw
    have hne : d ≠ w := fun e => by subst e; omega
    exact ⟨by omega, by omega, fun e => by omega, fun _ i hi => D.three S h0 hw h1 h2 h3 h4 hi⟩
/-- The bounds of a predecessor's offer: from is the predecessor, b what least answers for it. -/
theorem offer (D : Dft m E par) (S : IsSd m E sd) {w v b s : Nat} {up : Nat → Int} {best : Nat → Nat} (hw0 : 0 < w) (hw : w < m) (hE : E v w) (hF : Forest m (w + 1) par semi up best) (hs : Semi m (w + 1) sd (set1 semi w w)) (hsw : ∀ u, u ≠ w → set1 semi w w u = semi u) (hb : b = best v) (hS : Short up v) : (v < w → semi b = v) ∧ (v = w → b = w) ∧ (w < v → Cand E w (semi b) ∧ semi b < w ∨ w ≤ semi b) ∧ (w < v → ∀ u, w < u → Anc par u v → semi b ≤ sd u) := by
  have hv := (D.lt v w hE).1
  obtain ⟨h1, h2⟩ := hF.least D hv hS
  subst hb
  refine ⟨fun c => ?_, fun c => ?_, fun c => ?_, fun c u hu hau => ?_⟩
  · rw [h1 (by omega)]
    have := hs.new v (by omega)
    rwa [hsw v (by omega)] at this
  · rw [h1 (by omega), c]
  · obtain ⟨h3, h4, h5⟩ := h2 (by omega)
    have hbl := D.le h3 hv
    have hso : semi (best v) = sd (best v) := by
      have := hs.old (best v) h4 (by omega) (by omega)
      rwa [hsw _ (by omega)] at this
    by_cases l : semi (best v) < w
    · refine .inl ⟨(D.cand_iff l).2 (.inr ⟨best v, v, by omega, h3, hE, ?_⟩), l⟩
      rw [hso]; exact S.cand _ (by omega) (by omega)
    · exact .inr (by omega)
  · obtain ⟨h3, h4, h5⟩ := h2 (by omega)
    have hul := D.le hau hv
    have h6 := h5 u hau (by omega) (by omega)
    have := hs.old u (by omega) (by omega) (by omega)
    rw [hsw _ (by omega)] at this
    omega
/-- All predecessors looked at: s is the semidominator. -/
theorem look_end (D : Dft m E par) (S : IsSd m E sd) {w s : Nat} (hw0 : 0 < w) (hw : w < m) (hle : s ≤ w) (hc : s < w → Cand E w s) (h1 : ∀ v, E v w → v < w → s ≤ v) (h2 : ∀ v, E v w → w < v → ∀ u, w < u → Anc par u v → s ≤ sd u) : s = sd w := by
  have hp := h1 (par w) (D.parE w hw0 hw) (D.parlt w hw0 hw)
  have hl := D.parlt w hw0 hw
  have hsd := D.sd_lt S hw0 hw
  refine Nat.le_antisymm ?_ (S.least w hw0 hw s (hc (by omega)))
  rcases (D.cand_iff hsd).1 (S.cand w hw0 hw) with e | ⟨u, v, a, b, e, f⟩
  · exact h1 _ e hsd
  · have hv := (D.lt v w e).1
    have huv := D.le b hv
    have := h2 v e (by omega) u a b
    have := S.least u (by omega) (by omega) _ f
    omega
/-- The lists of those that wait, and the dominators of the others. -/
structure Wait (m k : Nat) (E : Nat → Nat → Prop) (par sd : Nat → Nat) (W : Nat → List Nat) (dm : Nat → Nat) : Prop where
  mem : ∀ p w, w ∈ W p → k ≤ w ∧ 0 < w ∧ w < m ∧ sd w = p ∧ ∀ c, 0 < c → par c = p → Anc par c w → c < k
  all : ∀ w, k ≤ w → 0 < w → w < m → w ∈ W (sd w) ∨ Half E par sd w (dm w)
theorem Wait.zero (dm : Nat → Nat) : Wait m m E par sd (fun _ => []) dm := ⟨fun _ _ h => (by cases h), fun w h1 _ h3 => (by omega)⟩
theorem Wait.done (D : Dft m E par) (S : IsSd m E sd) {W : Nat → List Nat} {dm : Nat → Nat} (h : Wait m 1 E par sd W dm) : ∀ w, 0 < w → w < m → Half E par sd w (dm w) := fun w h0 hw => by
  rcases h.all w h0 h0 hw with c | c
  · have hl := D.sd_lt S h0 hw
    obtain ⟨c', h1, h2, h3⟩ := anc_child (D.sd_anc S h0 hw) (by omega)
    have := (h.mem _ _ c).2.2.2.2 c' h1 h2 h3
    omega
  · exact c
/-- Those that wait for p when its child k is linked: the linked places above them are those behind p. -/
theorem Wait.above (D : Dft m E par) (S : IsSd m E sd) {k : Nat} (h0 : 0 < k) (hk : k < m) {w : Nat} (hkw : k ≤ w) (hw : w < m) (hsd : sd w = par k) (hc : ∀ c, 0 < c → par c = par k → Anc par c w → c ≤ k) {u : Nat} (hu : Anc par u w) : k ≤ u ↔ par k < u := by
  have hp := D.parlt k h0 hk
  constructor
  · intro h; omega
  · intro h
    have hw0 : 0 < w := by omega
    have hl := D.sd_lt S hw0 hw
    have ha := D.sd_anc S hw0 hw
    rw [hsd] at ha hl
    obtain ⟨c, c0, c1, c2⟩ := anc_child ha (by omega)
    have hck := hc c c0 c1 c2
    have hcw := D.le c2 hw
    have hpc : par k < c := by have := D.parlt c c0 (by omega); omega
    have hcu : c ≤ u := by
      apply Classical.byContradiction
      intro hn
      have := D.chain hu c2 (by omega) hw
      cases this with
      | here => omega
      | up _ hh =>
        have := D.le hh (by have := D.parlt c c0 (by omega); omega)
        omega
    have hkc : k ≤ c := by
      apply Classical.byContradiction
      intro hn
      have h3 := D.iv c k w hw c2 (by omega) hkw
      cases h3 with
      | here => omega
      | up _ hh =>
        have := D.le hh (by omega)
        omega
    omega
end
end Go.Proofs.Ytlgnmlhgghabkaa

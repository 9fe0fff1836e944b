/-
  Layer 8 (domtree): the steps of immediateDominators, as mathematics.
-/
import Derived.Test.YtlgnmlhgghabkaaLtRun
namespace Go.Proofs.Ytlgnmlhgghabkaa
open Go.RowKit

theorem least_ex {p : Nat → Prop} : ∀ n, p n → ∃ k, p k ∧ ∀ j, p j → k ≤ j := fun n => by
  induction n using Nat.strongRecOn with
  | _ n ih =>
    intro h
    by_cases c : ∃ j, j < n ∧ p j
    · obtain ⟨j, hj, hp⟩ := c
      exact ih j hj hp
    · exact ⟨n, h, fun j hj => Nat.le_of_not_lt fun l => c ⟨j, l, hj⟩⟩
theorem sd_ex {m : Nat} {E : Nat → Nat → Prop} {par : Nat → Nat} (D : Dft m E par) : ∃ sd, IsSd m E sd := by
  have h : ∀ w, ∃ k, (0 < w → w < m → Cand E w k ∧ ∀ j, Cand E w j → k ≤ j) := fun w => by
    by_cases c : 0 < w ∧ w < m
    · obtain ⟨k, h1, h2⟩ := least_ex (p := Cand E w) (par w) ⟨w, D.parE w c.1 c.2, .here⟩
      exact ⟨k, fun _ _ => ⟨h1, h2⟩⟩
    · exact ⟨0, fun h1 h2 => absurd ⟨h1, h2⟩ c⟩
  exact ⟨fun w => Classical.choose (h w), fun w h0 hw => (Classical.choose_spec (h w) h0 hw).1, fun w h0 hw => (Classical.choose_spec (h w) h0 hw).2⟩
/-- Some of the predecessors of w have been looked at; s is the least so far. -/
structure Looks (E : Nat → Nat → Prop) (par sd : Nat → Nat) (w : Nat) (T : Nat → Prop) (s : Nat) : Prop where
  le : s ≤ w
  cand : s < w → Cand E w s
  low : ∀ v, T v → v < w → s ≤ v
  high : ∀ v, T v → w < v → ∀ u, w < u → Anc par u v → s ≤ sd u
section
variable {m : Nat} {E : Nat → Nat → Prop} {par sd semi best dm : Nat → Nat} {up : Nat → Int} {w s v : Nat} {T T' : Nat → Prop}
theorem Looks.zero (w : Nat) : Looks E par sd w (fun _ => False) w := ⟨Nat.le_refl _, fun h => absurd h (Nat.lt_irrefl _), fun _ h => h.elim, fun _ h => h.elim⟩
/-- A predecessor without a place. -/
theorem Looks.congr (h : Looks E par sd w T s) (hT : ∀ v, T' v → T v) : Looks E par sd w T' s := ⟨h.le, h.cand, fun v hv => h.low v (hT v hv), fun v hv => h.high v (hT v hv)⟩
/-- A further predecessor. -/
theorem Looks.next (D : Dft m E par) (S : IsSd m E sd) (h : Looks E par sd w T s) (hw0 : 0 < w) (hw : w < m) (hE : E v w) (hF : Forest m (w + 1) par semi up best) (hold : ∀ u, w < u → u < m → semi u = sd u) (hnew : ∀ u, u < w → semi u = u) (hws : semi w = s) (hS : Short up v) (hT : ∀ x, T' x → T x ∨ x = v) : Looks E par sd w T' (min s (semi (best v))) := by
  have hv := (D.lt v w hE).1
  obtain ⟨h1, h2⟩ := hF.least D hv hS
  rcases Nat.lt_trichotomy v w with c | c | c
  · rw [h1 (by omega), hnew v c]
    refine ⟨by have := h.le; omega, fun hlt => ?_, fun x hx hxw => ?_, fun x hx hxw u hu ha => ?_⟩
    · by_cases e : s ≤ v
      · rw [Nat.min_eq_left e] at hlt ⊢; exact h.cand hlt
      · rw [Nat.min_eq_right (by omega)]; exact ⟨w, hE, .here⟩
    · rcases hT x hx with hx | rfl
      · have := h.low x hx hxw; omega
      · omega
    · rcases hT x hx with hx | rfl
      · have := h.high x hx hxw u hu ha; omega
      · omega
  · subst c
    rw [h1 (by omega), hws, Nat.min_self]
    refine ⟨h.le, h.cand, fun x hx hxw => ?_, fun x hx hxw u hu ha => ?_⟩
    · rcases hT x hx with hx | rfl
      · exact h.low x hx hxw
      · omega
    · rcases hT x hx with hx | rfl
      · exact h.high x hx hxw u hu ha
      · omega
  · obtain ⟨h3, h4, h5⟩ := h2 (by omega)
    have hbl := D.le h3 hv
    rw [hold (best v) (by omega) (by omega)]
    refine ⟨by have := h.le; omega, fun hlt => ?_, fun x hx hxw => ?_, fun x hx hxw u hu ha => ?_⟩
    · by_cases e : s ≤ sd (best v)
      · rw [Nat.min_eq_left e] at hlt ⊢; exact h.cand hlt
      · have hm : min s (sd (best v)) = sd (best v) := Nat.min_eq_right (by omega)
        rw [hm] at hlt ⊢
        exact (D.cand_iff hlt).2 (.inr ⟨best v, v, by omega, h3, hE, S.cand _ (by omega) (by omega)⟩)
    · rcases hT x hx with hx | rfl
      · have := h.low x hx hxw; omega
      · omega
    · rcases hT x hx with hx | rfl
      · have := h.high x hx hxw u hu ha; omega
      · have h6 := h5 u ha (by omega) (by omega)
        have hul := D.le ha hv
        rw [hold (best x) (by omega) (by omega), hold u (by omega) (by omega)] at h6
        omega
/-- All have been looked at. -/
theorem Looks.all (D : Dft m E par) (S : IsSd m E sd) (h : Looks E par sd w T s) (hw0 : 0 < w) (hw : w < m) (hT : ∀ v, E v w → T v) : s = sd w :=
  look_end D S hw0 hw h.le h.cand (fun v hv => h.low v (hT v hv)) (fun v hv => h.high v (hT v hv))

/-- The lists with w's place put behind the others of sd w. -/
def wadd (W : Nat → List Nat) (q w : Nat) : Nat → List Nat := fun i => if i = q then W q ++ [w] else W i
def wnil (W : Nat → List Nat) (q : Nat) : Nat → List Nat := fun i => if i = q then [] else W i
/-- Within the emptying of the list of k's parent: those of `done` have been taken out. -/
structure Empt (m k : Nat) (E : Nat → Nat → Prop) (par sd : Nat → Nat) (W : Nat → List Nat) (done : List Nat) (dm : Nat → Nat) : Prop where
  mem : ∀ p w, w ∈ W p → k ≤ w ∧ 0 < w ∧ w < m ∧ sd w = p ∧ ∀ c, 0 < c → par c = p → Anc par c w → c < k ∨ p = par k ∧ c ≤ k
  all : ∀ w, k ≤ w → 0 < w → w < m → w ∈ W (sd w) ∨ Half E par sd w (dm w)
  half : ∀ w ∈ done, Half E par sd w (dm w)
theorem Wait.empt (D : Dft m E par) {k : Nat} {W : Nat → List Nat} (h0 : 0 < k) (hk : k < m) (h : Wait m (k + 1) E par sd W dm) : Empt m k E par sd (wadd W (sd k) k) [] dm := by
  refine ⟨fun p w hw => ?_, fun w h1 h2 h3 => ?_, fun w hw => (by cases hw)⟩
  · have old : w ∈ W p → _ := fun hw => by
      obtain ⟨a1, a2, a3, a4, a5⟩ := h.mem p w hw
      exact (⟨by omega, a2, a3, a4, fun c c0 c1 c2 => by
        have := a5 c c0 c1 c2
        by_cases e : c = k
        · subst e; exact .inr ⟨c1.symm, Nat.le_refl _⟩
        · exact .inl (by omega)⟩ : k ≤ w ∧ 0 < w ∧ w < m ∧ sd w = p ∧ ∀ c, 0 < c → par c = p → Anc par c w → c < k ∨ p = par k ∧ c ≤ k)
    unfold wadd at hw
    by_cases e : p = sd k
    · rw [if_pos e] at hw
      rcases List.mem_append.1 hw with hw | hw
      · exact old (e ▸ hw)
      · obtain rfl : w = k := by simpa using hw
        exact ⟨Nat.le_refl _, h0, hk, e.symm, fun c c0 c1 c2 => by
          have := D.le c2 hk
          by_cases e2 : c = w
          · subst e2; exact .inr ⟨c1.symm, Nat.le_refl _⟩
          · exact .inl (by omega)⟩
    · rw [if_neg e] at hw; exact old hw
  · by_cases e : w = k
    · subst e
      exact .inl (by unfold wadd; rw [if_pos rfl]; simp)
    · rcases h.all w (by omega) h2 h3 with c | c
      · refine .inl ?_
        unfold wadd
        by_cases e2 : sd w = sd k
        · rw [if_pos e2, ← e2]; exact List.mem_append_left _ c
        · rw [if_neg e2]; exact c
      · exact .inr c
/-- One is taken out: b is what least answers for it. -/
theorem Empt.next (D : Dft m E par) (S : IsSd m E sd) {k : Nat} {W : Nat → List Nat} {done : List Nat} {x : Nat} (h0 : 0 < k) (hk : k < m) (h : Empt m k E par sd W done dm) (hx : x ∈ W (par k)) (F : Forest m k par semi up best) (hsemi : ∀ u, k ≤ u → u < m → semi u = sd u) (hS : Short up x) : Empt m k E par sd W (done ++ [x]) (set1 dm x (if semi (best x) < par k then best x else par k)) := by
  obtain ⟨a1, a2, a3, a4, a5⟩ := h.mem _ x hx
  have ab := fun {u} hu => Wait.above D S h0 hk a1 a3 a4 (fun c c0 c1 c2 => by rcases a5 c c0 c1 c2 with e | e <;> omega) (u := u) hu
  obtain ⟨b1, b2, b3⟩ := (F.least D a3 hS).2 (by omega)
  have hbl := D.le b1 a3
  have hH : Half E par sd x (if semi (best x) < par k then best x else par k) := by
    by_cases c : semi (best x) < par k
    · rw [if_pos c]
      refine .inr ⟨by rw [a4]; exact (ab b1).1 b2, b1, fun u hu ha => ?_, by rw [← hsemi (best x) b2 (by omega), a4]; exact c⟩
      have h1 := (ab ha).2 (by omega)
      have h2 := b3 u ha h1 (by omega)
      have h3 := D.le ha a3
      rw [hsemi (best x) b2 (by omega), hsemi u h1 (by omega)] at h2
      exact h2
    · rw [if_neg c]
      refine .inl ⟨a4.symm, fun u hu ha => ?_⟩
      have h1 := (ab ha).2 (by omega)
      have h2 := b3 u ha h1 (by omega)
      have h3 := D.le ha a3
      rw [hsemi u h1 (by omega)] at h2
      omega
  refine ⟨h.mem, fun w w1 w2 w3 => ?_, fun w hw => ?_⟩
  · by_cases e : w = x
    · subst e; rw [set1_at]; exact .inr hH
    · rw [set1_ne _ _ e]; exact h.all w w1 w2 w3
  · by_cases e : w = x
    · subst e; rw [set1_at]; exact hH
    · rw [set1_ne _ _ e]
      rcases List.mem_append.1 hw with hw | hw
      · exact h.half w hw
      · exact absurd (by simpa using hw) e
/-- All have been taken out. -/
theorem Empt.done {k : Nat} {W : Nat → List Nat} (h : Empt m k E par sd W (W (par k)) dm) : Wait m k E par sd (wnil W (par k)) dm := by
  refine ⟨fun p w hw => ?_, fun w h1 h2 h3 => ?_⟩
  · unfold wnil at hw
    by_cases e : p = par k
    · rw [if_pos e] at hw; cases hw
    · rw [if_neg e] at hw
      obtain ⟨a1, a2, a3, a4, a5⟩ := h.mem p w hw
      exact ⟨a1, a2, a3, a4, fun c c0 c1 c2 => by rcases a5 c c0 c1 c2 with c | ⟨c, _⟩ <;> first | exact c | exact absurd c e⟩
  · rcases h.all w h1 h2 h3 with c | c
    · by_cases e : sd w = par k
      · exact .inr (h.half w (e ▸ c))
      · exact .inl (by unfold wnil; rw [if_neg e]; exact c)
    · exact .inr c
/-- The last pass: the first i are done. -/
structure Last (m : Nat) (E : Nat → Nat → Prop) (dm d : Nat → Nat) (i : Nat) : Prop where
  done : ∀ w, 0 < w → w < m → w < i → IsIdom E (d w) w
  rest : ∀ w, i ≤ w → d w = dm w
  zero : d 0 = dm 0
theorem Last.begin : Last m E dm dm 1 := ⟨fun w h0 _ h1 => by omega, fun _ _ => rfl, rfl⟩
theorem Last.keep (D : Dft m E par) (S : IsSd m E sd) {d : Nat → Nat} {i : Nat} (h : Last m E dm d i) (h0 : 0 < i) (hi : i < m) (hh : Half E par sd i (dm i)) (e : d i = sd i) : Last m E dm d (i + 1) := by
  obtain ⟨_, _, a3, _⟩ := half_le D S h0 hi hh
  refine ⟨fun w w0 wm wi => ?_, fun w hw => h.rest w (by omega), h.zero⟩
  by_cases c : w = i
  · subst c
    rw [h.rest w (Nat.le_refl _)] at e ⊢
    exact a3 e
  · exact h.done w w0 wm (by omega)
theorem Last.turn (D : Dft m E par) (S : IsSd m E sd) {d : Nat → Nat} {i : Nat} (h : Last m E dm d i) (h0 : 0 < i) (hi : i < m) (hh : Half E par sd i (dm i)) (e : d i ≠ sd i) : Last m E dm (set1 d i (d (d i))) (i + 1) := by
  obtain ⟨a1, a2, _, a4⟩ := half_le D S h0 hi hh
  have hr := h.rest i (Nat.le_refl _)
  refine ⟨fun w w0 wm wi => ?_, fun w hw => by rw [set1_ne _ _ (by omega)]; exact h.rest w (by omega), by rw [set1_ne _ _ (by omega)]; exact h.zero⟩
  by_cases c : w = i
  · subst c
    rw [set1_at]
    rw [hr] at e ⊢
    exact a4 e _ (h.done (dm w) (by omega) (by omega) (by omega))
  · rw [set1_ne _ _ c]; exact h.done w w0 wm (by omega)
end
end Go.Proofs.Ytlgnmlhgghabkaa

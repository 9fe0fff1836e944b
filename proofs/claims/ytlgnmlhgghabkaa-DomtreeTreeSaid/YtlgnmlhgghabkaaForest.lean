/-
  Layer 8 (domtree): the forest of the linked places, whose ways up are made short.
-/
import Derived.Test.YtlgnmlhgghabkaaLt
namespace Go.Proofs.Ytlgnmlhgghabkaa
open Go.RowKit

def set1 (f : Nat → Nat) (x v : Nat) : Nat → Nat := fun i => if i = x then v else f i
theorem set1_at (f : Nat → Nat) (x v : Nat) : set1 f x v x = v := by simp [set1]
theorem set1_ne (f : Nat → Nat) {x y : Nat} (v : Nat) (h : y ≠ x) : set1 f x v y = f y := by simp [set1, h]
def seti (f : Nat → Int) (x : Nat) (v : Int) : Nat → Int := fun i => if i = x then v else f i
theorem seti_at (f : Nat → Int) (x : Nat) (v : Int) : seti f x v x = v := by simp [seti]
theorem seti_ne (f : Nat → Int) {x y : Nat} (v : Int) (h : y ≠ x) : seti f x v y = f y := by simp [seti, h]

/-- Linked are the places from k on. A linked place's up is one above it, and its best is the one with the least number semi from it to below up. -/
structure Forest (m k : Nat) (par semi : Nat → Nat) (up : Nat → Int) (best : Nat → Nat) : Prop where
  root : ∀ p, p < m → (p < k ∨ p = 0) → up p = -1 ∧ best p = p
  link : ∀ p, k ≤ p → 0 < p → p < m → ∃ a : Nat, up p = (a : Int) ∧ a < p ∧ Anc par a p ∧ (∀ u, Anc par u p → a < u → k ≤ u) ∧ Anc par (best p) p ∧ a < best p ∧ ∀ u, Anc par u p → a < u → semi (best p) ≤ semi u
/-- The way up from p is short: p is a root, or what it points to is one. -/
def Short (up : Nat → Int) (p : Nat) : Prop := up p = -1 ∨ ∃ a : Nat, up p = (a : Int) ∧ up a = -1
section
variable {m k : Nat} {E : Nat → Nat → Prop} {par semi : Nat → Nat} {up : Nat → Int} {best : Nat → Nat}
theorem Forest.neg (F : Forest m k par semi up best) {p : Nat} (hp : p < m) : up p = -1 ↔ (p < k ∨ p = 0) := by
  constructor
  · intro h
    by_cases c : p < k ∨ p = 0
    · exact c
    · obtain ⟨a, ha, -⟩ := F.link p (by omega) (by omega) hp
      omega
  · exact fun h => (F.root p hp h).1
theorem Forest.zero (par semi : Nat → Nat) (m : Nat) : Forest m m par semi (fun _ => -1) (fun p => p) := ⟨fun _ _ _ => ⟨rfl, rfl⟩, fun p h1 _ h3 => by omega⟩
/-- A new semi for a place that is not linked. -/
theorem Forest.fresh (F : Forest m k par semi up best) {s : Nat → Nat} (h : ∀ u, k ≤ u → s u = semi u) : Forest m k par s up best :=
  ⟨F.root, fun p h1 h2 h3 => by
    obtain ⟨a, h4, h5, h6, h7, h8, h9, h10⟩ := F.link p h1 h2 h3
    exact ⟨a, h4, h5, h6, h7, h8, h9, fun u hu hau => by rw [h _ (h7 _ h8 h9), h u (h7 u hu hau)]; exact h10 u hu hau⟩⟩
/-- link: the next place gets its parent. -/
theorem Forest.next (D : Dft m E par) (F : Forest m (k + 1) par semi up best) (h0 : 0 < k) (hk : k < m) : Forest m k par semi (seti up k (par k : Nat)) best := by
  refine ⟨fun p hp h => ?_, fun p h1 h2 h3 => ?_⟩
  · rw [seti_ne _ _ (by omega)]
    exact F.root p hp (by omega)
  · by_cases e : p = k
    · subst e
      rw [seti_at]
      have hb := (F.root p h3 (by omega)).2
      have hl := D.parlt p h0 hk
      refine ⟨par p, rfl, hl, .up h0 .here, fun u hu hau => ?_, by rw [hb]; exact .here, by rw [hb]; exact hl, fun u hu hau => ?_⟩
      · cases hu with
        | here => exact Nat.le_refl _
        | up _ hu => have := D.le hu (by omega); omega
      · cases hu with
        | here => rw [hb]; exact Nat.le_refl _
        | up _ hu => have := D.le hu (by omega); omega
    · rw [seti_ne _ _ e]
      obtain ⟨a, h4, h5, h6, h7, h8, h9, h10⟩ := F.link p (by omega) h2 h3
      exact ⟨a, h4, h5, h6, fun u hu hau => by have := h7 u hu hau; omega, h8, h9, h10⟩
/-- One step of making a way short: p's up a has a short way itself, to a root b. -/
theorem Forest.skip (D : Dft m E par) (F : Forest m k par semi up best) {p a b : Nat} (hp : p < m) (h1 : up p = (a : Int)) (h2 : up a = (b : Int)) : Forest m k par semi (seti up p (b : Int)) (set1 best p (if semi (best a) < semi (best p) then best a else best p)) := by
  have hpk : ¬ (p < k ∨ p = 0) := fun c => by have := (F.root p hp c).1; omega
  obtain ⟨a', e1, hap, hAp, hk1, hb1, hl1, hm1⟩ := F.link p (by omega) (by omega) hp
  obtain rfl : a = a' := by omega
  have hak : ¬ (a < k ∨ a = 0) := fun c => by have := (F.root a (by omega) c).1; omega
  obtain ⟨b', e2, hba, hBa, hk2, hb2, hl2, hm2⟩ := F.link a (by omega) (by omega) (by omega)
  obtain rfl : b = b' := by omega
  refine ⟨fun q hq h => ?_, fun q hq1 hq2 hq3 => ?_⟩
  · have hne : q ≠ p := fun e => hpk (e ▸ h)
    rw [seti_ne _ _ hne, set1_ne _ _ hne]
    exact F.root q hq h
  · by_cases e : q = p
    · subst e
      rw [seti_at, set1_at]
      refine ⟨b, rfl, by omega, hBa.trans hAp, fun u hu hbu => ?_, ?_, ?_, fun u hu hbu => ?_⟩
      · by_cases l : a < u
        · exact hk1 u hu l
        · exact hk2 u (D.chain hu hAp (by omega) hp) hbu
      · split
        · exact hb2.trans hAp
        · exact hb1
      · split
        · exact hl2
        · omega
      · by_cases l : a < u
        · have := hm1 u hu l
          split <;> omega
        · have := hm2 u (D.chain hu hAp (by omega) hp) hbu
          split <;> omega
    · rw [seti_ne _ _ e, set1_ne _ _ e]
      exact F.link q hq1 hq2 hq3
/-- What least answers: the place itself if it is not linked, else the best of the linked places above it. -/
theorem Forest.least (D : Dft m E par) (F : Forest m k par semi up best) {p : Nat} (hp : p < m) (hs : Short up p) : ((p < k ∨ p = 0) → best p = p) ∧ (¬ (p < k ∨ p = 0) → Anc par (best p) p ∧ k ≤ best p ∧ ∀ u, Anc par u p → k ≤ u → 0 < u → semi (best p) ≤ semi u) := by
  refine ⟨fun h => (F.root p hp h).2, fun h => ?_⟩
  obtain ⟨a, h4, h5, h6, h7, h8, h9, h10⟩ := F.link p (by omega) (by omega) hp
  rcases hs with e | ⟨a', e1, e2⟩
  · omega
  · obtain rfl : a = a' := by omega
    have hr := (F.neg (show a < m by omega)).1 e2
    exact ⟨h8, h7 _ h8 h9, fun u hu hk h0 => h10 u hu (by omega)⟩
end
end Go.Proofs.Ytlgnmlhgghabkaa

/-
  Layer 6 (digraph), the reference: distances, round by round, reckoned.
-/
import Derived.Test.YtaehfohljblmoaaShortMore
import Derived.Test.YtaehfohljblmoaaTReachMath
namespace Go.Proofs.Ytaehfohljblmoaa
open Go.RowKit

/-- Within round d: the first a rows are done, and j of row a. -/
structure Rnd (g : List (List Int)) (t d : Nat) (o : List Int) (a j : Nat) : Prop where
  len : o.length = g.length
  val : ∀ x, x < g.length → o.getD x 0 = -1 ∨ o.getD x 0 = (dist (rev g) t).getD x 0
  low : ∀ x, x < g.length → 0 ≤ (dist (rev g) t).getD x 0 → (dist (rev g) t).getD x 0 ≤ d → o.getD x 0 = (dist (rev g) t).getD x 0
  rows : ∀ x, x < a → x < g.length → (dist (rev g) t).getD x 0 = (d : Int) + 1 → o.getD x 0 = (dist (rev g) t).getD x 0
  row : ∀ i y, i < j → (succs g a)[i]? = some y → (dist (rev g) t).getD y 0 = d → o.getD a 0 ≠ -1
theorem revGood {g : List (List Int)} {t : Nat} (ht : t < g.length) : Good g.length (rev g) t (dist (rev g) t) := by
  have := dist_good (rev_ok g) (v := t) (by rw [rev_len]; exact ht)
  rw [rev_len] at this
  exact this
theorem Rnd.init {g : List (List Int)} {t : Nat} (ht : t < g.length) : Rnd g t 0 (dist0 g.length t) 0 0 := by
  have hg := revGood ht
  have hl : t < (List.replicate g.length (-1 : Int)).length := by rw [List.length_replicate]; exact ht
  have key : ∀ y, (dist0 g.length t).getD y 0 = if t = y then 0 else (List.replicate g.length (-1 : Int)).getD y 0 := fun y => getD_set hl
  have rep : ∀ y, y < g.length → (List.replicate g.length (-1 : Int)).getD y 0 = -1 := fun y hy => by rw [List.getD_eq_getElem?_getD, List.getElem?_replicate, if_pos hy]; rfl
  refine ⟨by simp [dist0], fun x hx => ?_, fun x hx h0 h1 => ?_, fun x hx => by omega, fun i y hi => by omega⟩
  · rw [key]
    by_cases c : t = x
    · subst c; rw [if_pos rfl, hg.dv]; exact .inr rfl
    · rw [if_neg c, rep x hx]; exact .inl rfl
  · have := hg.zero x hx (by omega)
    subst this
    rw [key, if_pos rfl, hg.dv]
theorem Rnd.begin {g : List (List Int)} {t d : Nat} {o : List Int} (h : Rnd g t d o g.length 0) : Rnd g t (d + 1) o 0 0 := by
  refine ⟨h.len, h.val, fun x hx h0 h1 => ?_, fun x hx => by omega, fun i y hi => by omega⟩
  by_cases c : (dist (rev g) t).getD x 0 ≤ d
  · exact h.low x hx h0 c
  · exact h.rows x hx hx (by omega)
section
variable {g : List (List Int)} {t d a b j : Nat} {o : List Int}
theorem Rnd.skip (h : Rnd g t d o a j) (hb : (succs g a)[j]? = some b) (hbn : b < g.length) (hs : o.getD a 0 ≠ -1 ∨ o.getD b 0 ≠ d) : Rnd g t d o a (j + 1) :=
  ⟨h.len, h.val, h.low, h.rows, fun i y hi hy hd => by
    rcases Nat.lt_succ_iff_lt_or_eq.1 hi with hi | rfl
    · exact h.row i y hi hy hd
    · rw [hb] at hy
      injection hy with e
      subst e
      rcases hs with hs | hs
      · exact hs
      · exact absurd ((h.low b hbn (by omega) (by omega)).trans hd) hs⟩
theorem Rnd.hit (hok : okG g = true) (ht : t < g.length) (h : Rnd g t d o a j) (hb : (succs g a)[j]? = some b) (ha : a < g.length) (hbn : b < g.length) (h1 : o.getD a 0 = -1) (h2 : o.getD b 0 = d) : Rnd g t d (o.set a ((d : Int) + 1)) a (j + 1) := by
  have hDb : (dist (rev g) t).getD b 0 = d := by
    rcases h.val b hbn with h3 | h3
    · omega
    · omega
  have hsh := dist_shut (rev_ok g) (v := t) (by rw [rev_len]; exact ht)
  have hDa := hsh b (by rw [rev_len]; exact hbn) (by omega) a ((succs_rev hok hbn).2 ⟨ha, List.mem_of_getElem? hb⟩)
  have hDa2 : (dist (rev g) t).getD a 0 = (d : Int) + 1 := by
    have : ¬ ((dist (rev g) t).getD a 0 ≤ d) := fun c => by
      have := h.low a ha hDa.1 c
      omega
    omega
  have hal : a < o.length := by rw [h.len]; exact ha
  refine ⟨by rw [List.length_set]; exact h.len, fun x hx => ?_, fun x hx h3 h4 => ?_, fun x hx hxn h3 => ?_, fun i y _ _ _ => ?_⟩
  · rw [getD_set hal]
    by_cases c : a = x
    · subst c; rw [if_pos rfl]; exact .inr hDa2.symm
    · rw [if_neg c]; exact h.val x hx
  · rw [getD_set hal, if_neg (fun c => by subst c; omega)]
    exact h.low x hx h3 h4
  · rw [getD_set hal, if_neg (by omega)]
    exact h.rows x hx hxn h3
  · rw [getD_set hal, if_pos rfl]; omega
theorem Rnd.rowEnd (hok : okG g = true) (ht : t < g.length) (h : Rnd g t d o a j) (ha : a < g.length) (hj : (succs g a).length ≤ j) : Rnd g t d o (a + 1) 0 := by
  have hg := revGood ht
  refine ⟨h.len, h.val, h.low, fun x hx hxn h3 => ?_, fun i y hi => by omega⟩
  rcases Nat.lt_succ_iff_lt_or_eq.1 hx with hx | rfl
  · exact h.rows x hx hxn h3
  · obtain ⟨y, hy, hm, he⟩ := hg.down x hxn (by omega)
    have h4 := ((succs_rev hok hy).1 hm).2
    obtain ⟨i, hi⟩ := List.getElem?_of_mem h4
    have h5 := h.row i y (by have := (List.getElem?_eq_some_iff.1 hi).1; omega) hi (by omega)
    exact (h.val x hxn).resolve_left h5
theorem Rnd.all (ht : t < g.length) (h : Rnd g t g.length o 0 0) : o = dist (rev g) t := by
  have hg := revGood ht
  apply List.ext_getElem?
  intro x
  by_cases hx : x < g.length
  · rw [getD_get (by rw [h.len]; exact hx), getD_get (by rw [hg.len]; exact hx)]
    congr 1
    have hr := hg.rng x hx
    by_cases c : (dist (rev g) t).getD x 0 = -1
    · rcases h.val x hx with h1 | h1
      · rw [h1, c]
      · exact h1
    · exact h.low x hx (by omega) (by omega)
  · rw [List.getElem?_eq_none (by rw [h.len]; omega), List.getElem?_eq_none (by rw [hg.len]; omega)]
end
end Go.Proofs.Ytaehfohljblmoaa

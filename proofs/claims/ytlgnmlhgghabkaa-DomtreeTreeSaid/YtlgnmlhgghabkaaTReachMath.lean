/-
  Layer 6 (digraph), the reference: reachability by a fixpoint, reckoned.
-/
import Derived.Test.YtlgnmlhgghabkaaReachMath
namespace Go.Proofs.Ytlgnmlhgghabkaa
open Go.RowKit

/-- Within one pass over all edges: f0 at its start, f now, ch: has something changed; the first a rows are done, and j of row a. -/
structure Pass (g : List (List Int)) (v : Nat) (f0 f : Nat → Bool) (ch : Bool) (a j : Nat) : Prop where
  less : ch = true → cnt f g.length < cnt f0 g.length
  le : cnt f g.length ≤ cnt f0 g.length
  shut : ch = false → ∀ y x, y < a → f y = true → x ∈ succs g y → f x = true
  row : ch = false → f a = true → ∀ x, x ∈ (succs g a).take j → f x = true
  way : ∀ x, f x = true → Way g v x
  start : f v = true
section
variable {g : List (List Int)} {v : Nat} {f0 f : Nat → Bool} {ch : Bool} {a j : Nat}
theorem Pass.begin (hw : ∀ x, f x = true → Way g v x) (hs : f v = true) : Pass g v f f false 0 0 :=
  ⟨fun h => (by cases h), Nat.le_refl _, fun _ y x hy => by omega, fun _ _ x hx => by simp at hx, hw, hs⟩
theorem Pass.skip (h : Pass g v f0 f ch a j) {b : Nat} (hb : (succs g a)[j]? = some b) (hf : f a = false ∨ f b = true) : Pass g v f0 f ch a (j + 1) :=
  ⟨h.less, h.le, h.shut, fun hc ha x hx => by
    rw [List.take_add_one, hb] at hx
    rcases List.mem_append.1 hx with hx | hx
    · exact h.row hc ha x hx
    · obtain rfl : x = b := by simpa using hx
      rcases hf with hf | hf
      · rw [hf] at ha; cases ha
      · exact hf, h.way, h.start⟩
theorem Pass.hit (h : Pass g v f0 f ch a j) {b : Nat} (hb : (succs g a)[j]? = some b) (hbl : b < g.length) (ha : f a = true) (hf : f b = false) : Pass g v f0 (fun i => f i || i == b) true a (j + 1) := by
  have h1 := cnt_set hf g.length hbl
  have h2 := h.le
  refine ⟨fun _ => by omega, by omega, fun h => (by cases h), fun h => (by cases h), fun x hx => ?_, by rw [h.start]; rfl⟩
  rw [Bool.or_eq_true] at hx
  rcases hx with hx | hx
  · exact h.way x hx
  · obtain rfl : x = b := by simpa using hx
    exact .step (h.way a ha) (List.mem_of_getElem? hb)
theorem Pass.rowEnd (h : Pass g v f0 f ch a j) (hj : (succs g a).length ≤ j) : Pass g v f0 f ch (a + 1) 0 :=
  ⟨h.less, h.le, fun hc y x hy hfy hx => by
    rcases Nat.lt_succ_iff_lt_or_eq.1 hy with hy | rfl
    · exact h.shut hc y x hy hfy hx
    · exact h.row hc hfy x (by rw [List.take_of_length_le hj]; exact hx), fun _ _ x hx => by simp at hx, h.way, h.start⟩
/-- Where a pass has changed nothing, who is marked is who can be reached. -/
theorem Pass.reached (h : Pass g v f0 f false g.length 0) (hok : okG g = true) (hv : v < g.length) (x : Nat) : f x = decide (x ∈ post g v) := by
  have key : ∀ x, Way g v x → f x = true := fun x hw => by
    induction hw with
    | here => exact h.start
    | @step u x hw hx ih => exact h.shut rfl u x (hw.lt hok hv) ih hx
  by_cases c : x ∈ post g v
  · rw [decide_eq_true c]; exact key x ((post_way hok hv x).1 c)
  · rw [decide_eq_false c]
    cases hf : f x with
    | false => rfl
    | true => exact absurd ((post_way hok hv x).2 (h.way x hf)) c
end
theorem succs_get {g : List (List Int)} {a j b : Nat} {l : List Int} (hl : g[a]? = some l) (hb : l[j]? = some (b : Int)) : (succs g a)[j]? = some b := by
  unfold succs
  rw [List.getD_eq_getElem?_getD, hl, Option.getD_some, List.getElem?_map, hb]
  simp
theorem succs_len {g : List (List Int)} {a : Nat} {l : List Int} (hl : g[a]? = some l) : (succs g a).length = l.length := by
  unfold succs
  rw [List.getD_eq_getElem?_getD, hl, Option.getD_some, List.length_map]
end Go.Proofs.Ytlgnmlhgghabkaa

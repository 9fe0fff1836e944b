/-
  Layer 7 (scc), the reference: paths of at least one edge, and Warshall's closure as mathematics.
-/
import Derived.Test.YtakojoedifhcnaaTOrder
namespace Go.Proofs.Ytakojoedifhcnaa
open Go.RowKit

/-- A path of at least one edge. -/
def Path1 (g : List (List Int)) (x y : Nat) : Prop := ∃ u, u ∈ succs g x ∧ Way g u y
section
variable {g : List (List Int)} {x y z : Nat}
theorem Path1.way (h : Path1 g x y) : Way g x y := by obtain ⟨u, hu, h⟩ := h; exact h.cons hu
theorem Path1.append (h : Path1 g x y) (k : Way g y z) : Path1 g x z := by obtain ⟨u, hu, h⟩ := h; exact ⟨u, hu, h.trans k⟩
theorem Way.cases1 (h : Way g x y) : x = y ∨ Path1 g x y := by
  induction h with
  | here => exact .inl rfl
  | @step u z hw hz ih =>
    rcases ih with e | ⟨v, hv, k⟩
    · subst e; exact .inr ⟨z, hz, .here⟩
    · exact .inr ⟨v, hv, k.step hz⟩
theorem path1_self (x : Nat) : Path1 g x x ↔ x ∈ succs g x ∨ ∃ y, y ≠ x ∧ SC g x y := by
  constructor
  · rintro ⟨u, hu, h⟩
    by_cases e : u = x
    · exact .inl (e ▸ hu)
    · exact .inr ⟨u, e, .step .here hu, h⟩
  · rintro (h | ⟨y, hy, h1, h2⟩)
    · exact ⟨x, h, .here⟩
    · rcases h1.cases1 with e | k
      · exact absurd e.symm hy
      · exact k.append h2
end
/-- Warshall's rounds: paths whose inner nodes are below k. -/
def wz (e : Nat → Nat → Bool) : Nat → Nat → Nat → Bool
  | 0, i, j => e i j
  | k + 1, i, j => wz e k i j || (wz e k i k && wz e k k j)
section
variable {e : Nat → Nat → Bool}
theorem wz_mono {k i j : Nat} (h : wz e k i j = true) : wz e (k + 1) i j = true := by simp [wz, h]
theorem wz_edge {i j : Nat} (h : e i j = true) : ∀ k, wz e k i j = true
  | 0 => h
  | k + 1 => wz_mono (wz_edge h k)
theorem wz_closed : ∀ (k a b m : Nat), m < k → wz e k a m = true → wz e k m b = true → wz e k a b = true
  | 0, _, _, _, hm, _, _ => absurd hm (by omega)
  | k + 1, a, b, m, hm, h1, h2 => by
    have ih := wz_closed k
    simp only [wz, Bool.or_eq_true, Bool.and_eq_true] at h1 h2 ⊢
    by_cases c : m = k
    · subst c
      have a1 : wz e m a m = true := h1.elim id (fun h => h.1)
      have a2 : wz e m m b = true := h2.elim id (fun h => h.2)
      exact .inr ⟨a1, a2⟩
    · have hm' : m < k := by omega
      rcases h1 with h1 | h1 <;> rcases h2 with h2 | h2
      · exact .inl (ih a b m hm' h1 h2)
      · exact .inr ⟨ih a k m hm' h1 h2.1, h2.2⟩
      · exact .inr ⟨h1.1, ih k b m hm' h1.2 h2⟩
      · exact .inr ⟨h1.1, h2.2⟩
end
def edgeB (g : List (List Int)) (i j : Nat) : Bool := decide (j ∈ succs g i)
/-- Is there a path of at least one edge? -/
def path1B (g : List (List Int)) (i j : Nat) : Bool := wz (edgeB g) g.length i j
theorem wz_path {g : List (List Int)} : ∀ (k i j : Nat), wz (edgeB g) k i j = true → Path1 g i j
  | 0, i, j, h => ⟨j, by simpa [wz, edgeB] using h, .here⟩
  | k + 1, i, j, h => by
    simp only [wz, Bool.or_eq_true, Bool.and_eq_true] at h
    rcases h with h | h
    · exact wz_path k i j h
    · exact (wz_path k i k h.1).append (wz_path k k j h.2).way
theorem path1B_iff {g : List (List Int)} (hok : okG g = true) (i j : Nat) : path1B g i j = true ↔ Path1 g i j := by
  constructor
  · exact wz_path _ _ _
  · rintro ⟨u, hu, h⟩
    have h0 : ∀ a b, b ∈ succs g a → path1B g a b = true := fun a b hb => wz_edge (by simpa [edgeB] using hb) _
    have hul := succs_lt hok hu
    induction h with
    | here => exact h0 _ _ hu
    | @step v z hw hz ih => exact wz_closed _ i z v (hw.lt hok hul) ih (h0 _ _ hz)
theorem path1B_dec {g : List (List Int)} (hok : okG g = true) (i j : Nat) [Decidable (Path1 g i j)] : path1B g i j = decide (Path1 g i j) := by
  rw [Bool.eq_iff_iff, path1B_iff hok]; simp
theorem succs_iff {g : List (List Int)} (hok : okG g = true) (x y : Nat) : y ∈ succs g x ↔ (y : Int) ∈ g.getD x [] := by
  unfold succs
  rw [List.mem_map]
  constructor
  · rintro ⟨m, hm, rfl⟩
    by_cases hx : x < g.length
    · obtain ⟨l, hl⟩ : ∃ l, g[x]? = some l := ⟨_, List.getElem?_eq_getElem hx⟩
      rw [getD_of hl] at hm ⊢
      obtain ⟨j, hj⟩ := List.getElem?_of_mem hm
      obtain ⟨b, rfl, -⟩ := ok_node hok hl hj
      simpa using hm
    · rw [List.getD_eq_getElem?_getD, List.getElem?_eq_none (by omega)] at hm
      cases hm
  · intro h
    exact ⟨_, h, by simp⟩
theorem stray_getD (g : List (List Int)) (x : Nat) : (stray g).getD x [] = keepRow g.length (g.getD x []) := by
  unfold stray
  rw [List.getD_eq_getElem?_getD, List.getElem?_map]
  by_cases hx : x < g.length
  · rw [List.getElem?_range hx]; rfl
  · rw [List.getElem?_eq_none (by simpa using hx), List.getD_eq_getElem?_getD, List.getElem?_eq_none (by omega)]; rfl
theorem succs_stray (g : List (List Int)) (x y : Nat) : y ∈ succs (stray g) x ↔ y < g.length ∧ (y : Int) ∈ g.getD x [] := by
  rw [succs_iff (stray_ok g), stray_getD, keepRow, List.mem_filter]
  simp only [Bool.and_eq_true, decide_eq_true_eq]
  exact ⟨fun h => ⟨by omega, h.1⟩, fun h => ⟨h.2, by omega, by omega⟩⟩
end Go.Proofs.Ytakojoedifhcnaa

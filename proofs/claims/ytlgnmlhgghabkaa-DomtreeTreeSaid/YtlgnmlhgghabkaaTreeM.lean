/-
  Layer 8 (domtree): trees as lists of what is above each index, as mathematics.
-/
import Derived.Test.YtlgnmlhgghabkaaDBase
namespace Go.Proofs.Ytlgnmlhgghabkaa
open Go.RowKit

/-- f is a tree over the first n numbers: r its root, dp the depths; -1: not in the tree. -/
structure Tr (n : Nat) (f : Nat → Int) (r : Nat) (dp : Nat → Nat) : Prop where
  rlt : r < n
  root : f r = (r : Int)
  dz : dp r = 0
  up : ∀ i, i < n → i ≠ r → f i = -1 ∨ ∃ u : Nat, f i = (u : Int) ∧ u < n ∧ f u ≠ -1 ∧ dp i = dp u + 1
def above (f : Nat → Int) (i : Nat) : Nat := (f i).toNat
def pathN (f : Nat → Int) : Nat → Nat → List Nat
  | 0, i => [i]
  | k + 1, i => i :: pathN f k (above f i)
/-- The way from i up to the root. -/
def pth (f : Nat → Int) (dp : Nat → Nat) (i : Nat) : List Nat := pathN f (dp i) i
section
variable {n r : Nat} {f : Nat → Int} {dp : Nat → Nat}
theorem pathN_len (f : Nat → Int) : ∀ k i, (pathN f k i).length = k + 1
  | 0, _ => rfl
  | k + 1, i => by unfold pathN; rw [List.length_cons, pathN_len f k]
theorem Tr.rin (T : Tr n f r dp) : f r ≠ -1 := by rw [T.root]; omega
/-- A node of the tree other than the root. -/
theorem Tr.node (T : Tr n f r dp) {i : Nat} (hi : i < n) (hf : f i ≠ -1) (hr : i ≠ r) : ∃ u : Nat, f i = (u : Int) ∧ above f i = u ∧ u < n ∧ f u ≠ -1 ∧ dp i = dp u + 1 ∧ u ≠ i ∧ pth f dp i = i :: pth f dp u := by
  rcases T.up i hi hr with h | ⟨u, h1, h2, h3, h4⟩
  · exact absurd h hf
  · have e : above f i = u := by unfold above; rw [h1]; rfl
    refine ⟨u, h1, e, h2, h3, h4, fun c => by subst c; omega, ?_⟩
    unfold pth
    rw [h4, pathN, e]
theorem Tr.ptop (T : Tr n f r dp) : pth f dp r = [r] := by unfold pth; rw [T.dz]; rfl
theorem Tr.val (T : Tr n f r dp) {i : Nat} (hi : i < n) (hf : f i ≠ -1) : ∃ u : Nat, f i = (u : Int) ∧ u < n ∧ f u ≠ -1 := by
  by_cases e : i = r
  · subst e; exact ⟨i, T.root, hi, hf⟩
  · obtain ⟨u, h1, _, h2, h3, _⟩ := T.node hi hf e
    exact ⟨u, h1, h2, h3⟩
theorem Tr.self (T : Tr n f r dp) {i : Nat} (hi : i < n) (hf : f i = (i : Int)) : i = r := by
  apply Classical.byContradiction
  intro c
  obtain ⟨u, h1, _, _, _, _, h5, _⟩ := T.node hi (by rw [hf]; omega) c
  omega
theorem pth_head (f : Nat → Int) (dp : Nat → Nat) (i : Nat) : ∃ l, pth f dp i = i :: l := by
  unfold pth
  cases dp i with
  | zero => exact ⟨[], rfl⟩
  | succ k => exact ⟨_, rfl⟩
theorem Tr.mem (T : Tr n f r dp) : ∀ k i, dp i = k → i < n → f i ≠ -1 → ∀ y ∈ pth f dp i, y < n ∧ f y ≠ -1 ∧ dp y ≤ dp i ∧ (y = i ∨ dp y < dp i) ∧ ∀ z ∈ pth f dp y, z ∈ pth f dp i := fun k => by
  induction k using Nat.strongRecOn with
  | _ k ih =>
    intro i hk hi hf y hy
    by_cases e : i = r
    · subst e
      rw [T.ptop, List.mem_singleton] at hy
      subst hy
      exact ⟨hi, hf, Nat.le_refl _, .inl rfl, fun z hz => hz⟩
    · obtain ⟨u, h1, h2, h3, h4, h5, h6, h7⟩ := T.node hi hf e
      rw [h7] at hy
      rcases List.mem_cons.1 hy with rfl | hy
      · exact ⟨hi, hf, Nat.le_refl _, .inl rfl, fun z hz => hz⟩
      · obtain ⟨a1, a2, a3, a4, a5⟩ := ih (dp u) (by omega) u rfl h3 h4 y hy
        exact ⟨a1, a2, by omega, .inr (by omega), fun z hz => by rw [h7]; exact List.mem_cons_of_mem _ (a5 z hz)⟩
theorem Tr.nodup (T : Tr n f r dp) : ∀ k i, dp i = k → i < n → f i ≠ -1 → (pth f dp i).Nodup := fun k => by
  induction k using Nat.strongRecOn with
  | _ k ih =>
    intro i hk hi hf
    by_cases e : i = r
    · subst e
      rw [T.ptop]; simp
    · obtain ⟨u, h1, h2, h3, h4, h5, h6, h7⟩ := T.node hi hf e
      rw [h7, List.nodup_cons]
      refine ⟨fun hm => ?_, ih (dp u) (by omega) u rfl h3 h4⟩
      have := (T.mem _ u rfl h3 h4 i hm).2.2.1
      omega
theorem Tr.dlt (T : Tr n f r dp) {i : Nat} (hi : i < n) (hf : f i ≠ -1) : dp i < n := by
  have h1 := nodup_len (T.nodup _ i rfl hi hf) (fun y hy => (T.mem _ i rfl hi hf y hy).1)
  unfold pth at h1
  rw [pathN_len] at h1
  omega
/-- On the way: pre has been passed, x comes now. -/
theorem Tr.step (T : Tr n f r dp) {i x : Nat} {pre : List Nat} (hx : x < n) (hf : f x ≠ -1) (hp : pth f dp i = pre ++ pth f dp x) (hr : x ≠ r) : ∃ u : Nat, f x = (u : Int) ∧ u < n ∧ f u ≠ -1 ∧ pth f dp i = (pre ++ [x]) ++ pth f dp u ∧ u ≠ x := by
  obtain ⟨u, h1, h2, h3, h4, h5, h6, h7⟩ := T.node hx hf hr
  exact ⟨u, h1, h3, h4, by rw [hp, h7]; simp, h6⟩
theorem Tr.unique (T : Tr n f r dp) {r' : Nat} {dp' : Nat → Nat} (T' : Tr n f r' dp') : r' = r ∧ ∀ i, i < n → f i ≠ -1 → dp' i = dp i := by
  have e : r' = r := T.self T'.rlt T'.root
  subst e
  refine ⟨rfl, fun i => ?_⟩
  have key : ∀ k i, dp i = k → i < n → f i ≠ -1 → dp' i = dp i := fun k => by
    induction k using Nat.strongRecOn with
    | _ k ih =>
      intro i hk hi hf
      by_cases e : i = r'
      · subst e; rw [T.dz, T'.dz]
      · obtain ⟨u, h1, h2, h3, h4, h5, _⟩ := T.node hi hf e
        obtain ⟨u', g1, g2, g3, g4, g5, _⟩ := T'.node hi hf e
        have : u' = u := by omega
        subst this
        rw [h5, g5, ih (dp u') (by omega) u' rfl h3 h4]
  exact key _ i rfl
end
end Go.Proofs.Ytlgnmlhgghabkaa

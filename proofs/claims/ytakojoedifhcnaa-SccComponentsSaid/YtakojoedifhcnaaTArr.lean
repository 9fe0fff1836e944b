/-
  Layer 7 (scc): arrange: what holds between two steps.
-/
import Derived.Test.YtakojoedifhcnaaTOrder
namespace Go.Proofs.Ytakojoedifhcnaa
open Go.RowKit

/-- x has been listed behind lst; of its predecessors' row the first j have been counted down; Q: who waits. -/
structure Mid (C : List (List Int)) (lst : List Nat) (x : Nat) (row : List Int) (j : Nat) (ms : Nat → Nat) (Q : Nat → Prop) : Prop where
  grd : Grd C lst
  rdy : Rdy C lst x
  cnt : ∀ y, y < C.length → row.count (y : Int) = (C.getD y []).count (x : Int)
  rest : ∀ k, k < C.length → ms k + (row.take j).count (k : Int) = miss C lst k
  q : ∀ k, Q k ↔ k < C.length ∧ k ∉ lst ++ [x] ∧ ms k = 0
section
variable {C : List (List Int)} {lst : List Nat} {x j : Nat} {row : List Int} {ms : Nat → Nat} {Q : Nat → Prop}
theorem Mid.start (hg : Grd C lst) (hr : Rdy C lst x) (hc : ∀ y, y < C.length → row.count (y : Int) = (C.getD y []).count (x : Int)) (hm : ∀ k, k < C.length → ms k = miss C lst k) (hq : ∀ k, Q k ↔ Rdy C lst k) : Mid C lst x row 0 ms (fun k => Q k ∧ k ≠ x) := by
  refine ⟨hg, hr, hc, fun k hk => by rw [List.take_zero, List.count_nil, Nat.add_zero]; exact hm k hk, fun k => ?_⟩
  rw [hq, rdy_iff]
  constructor
  · rintro ⟨⟨a, b, c⟩, d⟩
    exact ⟨a, by simp [b, d], by rw [hm k a]; exact c⟩
  · rintro ⟨a, b, c⟩
    simp only [List.mem_append, List.mem_singleton, not_or] at b
    exact ⟨⟨a, b.1, by rw [← hm k a]; exact c⟩, b.2⟩
theorem Mid.pos (h : Mid C lst x row j ms Q) (ok : ∀ k, ∀ m ∈ C.getD k [], 0 ≤ m) {y : Nat} (hy : y < C.length) (hr : row[j]? = some (y : Int)) : 0 < ms y ∧ y ∉ lst ++ [x] := by
  have h1 := h.rest y hy
  have h2 := h.cnt y hy
  have h3 := miss_snoc (C := C) (k := y) h.rdy.2.1 (ok y)
  have h4 : (row.take (j + 1)).count (y : Int) = (row.take j).count (y : Int) + 1 := by
    rw [List.take_add_one, hr, List.count_append]; simp
  have h5 : (row.take (j + 1)).count (y : Int) ≤ row.count (y : Int) := (List.take_sublist _ _).count_le _
  have hp : 0 < ms y := by omega
  refine ⟨hp, fun c => ?_⟩
  have z : miss C lst y = 0 := by
    rcases List.mem_append.1 c with c | c
    · exact miss_zero.2 (h.grd.clos y c)
    · rw [List.mem_singleton.1 c]; exact (rdy_iff.1 h.rdy).2.2
  omega
theorem Mid.step (h : Mid C lst x row j ms Q) (ok : ∀ k, ∀ m ∈ C.getD k [], 0 ≤ m) {y : Nat} (hy : y < C.length) (hr : row[j]? = some (y : Int)) : (ms y - 1 ≠ 0 → Mid C lst x row (j + 1) (set1 ms y (ms y - 1)) Q) ∧ (ms y - 1 = 0 → ¬ Q y ∧ Mid C lst x row (j + 1) (set1 ms y (ms y - 1)) (fun k => Q k ∨ k = y)) := by
  obtain ⟨hp, hn⟩ := h.pos ok hy hr
  have hms : ∀ k, k < C.length → set1 ms y (ms y - 1) k + (row.take (j + 1)).count (k : Int) = miss C lst k := fun k hk => by
    have h1 := h.rest k hk
    rw [List.take_add_one, hr, List.count_append]
    by_cases e : k = y
    · subst e
      rw [set1_at]
      simp; omega
    · rw [set1_ne _ _ e]
      have : ((y : Int) == (k : Int)) = false := by simp; omega
      simp [List.count_cons, this]; omega
  refine ⟨fun hz => ⟨h.grd, h.rdy, h.cnt, hms, fun k => ?_⟩, fun hz => ⟨fun c => ?_, h.grd, h.rdy, h.cnt, hms, fun k => ?_⟩⟩
  · rw [h.q]
    by_cases e : k = y
    · subst e
      rw [set1_at]
      exact ⟨fun a => by have := a.2.2; omega, fun a => absurd a.2.2 hz⟩
    · rw [set1_ne _ _ e]
  · have := ((h.q y).1 c).2.2; omega
  · rw [h.q]
    by_cases e : k = y
    · subst e
      rw [set1_at]
      exact ⟨fun _ => ⟨hy, hn, hz⟩, fun _ => .inr rfl⟩
    · rw [set1_ne _ _ e]
      exact ⟨fun a => a.resolve_right e, fun a => .inl a⟩
theorem Mid.done (h : Mid C lst x row row.length ms Q) (ok : ∀ k, ∀ m ∈ C.getD k [], 0 ≤ m) (hl : ∀ k, Rdy C lst k → x ≤ k) : Grd C (lst ++ [x]) ∧ (∀ k, k < C.length → ms k = miss C (lst ++ [x]) k) ∧ ∀ k, Q k ↔ Rdy C (lst ++ [x]) k := by
  have hm : ∀ k, k < C.length → ms k = miss C (lst ++ [x]) k := fun k hk => by
    have h1 := h.rest k hk
    rw [List.take_of_length_le (Nat.le_refl _), h.cnt k hk] at h1
    have h3 := miss_snoc (C := C) (k := k) h.rdy.2.1 (ok k)
    omega
  refine ⟨.snoc h.grd h.rdy hl, hm, fun k => ?_⟩
  rw [h.q, rdy_iff]
  constructor
  · rintro ⟨a, b, c⟩; exact ⟨a, b, by rw [← hm k a]; exact c⟩
  · rintro ⟨a, b, c⟩; exact ⟨a, b, by rw [hm k a]; exact c⟩
end
end Go.Proofs.Ytakojoedifhcnaa

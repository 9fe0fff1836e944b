/-
  Layer 6 (digraph): shortest paths, reckoned.
-/
import Derived.Test.YtlgnmlhgghabkaaDfsMath
namespace Go.Proofs.Ytlgnmlhgghabkaa
open Go.RowKit

theorem mem_hits {b a : Nat} {l : List Int} {m : Int} : m ∈ hits b a l ↔ m = a ∧ (b : Int) ∈ l := by
  unfold hits
  rw [List.mem_map]
  constructor
  · rintro ⟨x, hx, rfl⟩
    rw [List.mem_filter] at hx
    have : x = (b : Int) := by simpa using hx.2
    exact ⟨rfl, this ▸ hx.1⟩
  · rintro ⟨rfl, h⟩
    exact ⟨(b : Int), List.mem_filter.2 ⟨h, by simp⟩, rfl⟩
theorem mem_revTo {g : List (List Int)} {a b : Nat} {m : Int} : m ∈ revTo g a b ↔ ∃ x, x < a ∧ m = (x : Nat) ∧ (b : Int) ∈ g.getD x [] := by
  unfold revTo
  rw [List.mem_flatMap]
  constructor
  · rintro ⟨x, hx, h⟩
    exact ⟨x, List.mem_range.1 hx, mem_hits.1 h⟩
  · rintro ⟨x, hx, h⟩
    exact ⟨x, List.mem_range.2 hx, mem_hits.2 h⟩
theorem rev_get {g : List (List Int)} {b : Nat} (h : b < g.length) : (rev g)[b]? = some (revTo g g.length b) := by simp [rev, h]
theorem rev_ok (g : List (List Int)) : okG (rev g) = true := by
  unfold okG
  rw [List.all_eq_true]
  intro l hl
  unfold rev at hl
  obtain ⟨b, _, rfl⟩ := List.mem_map.1 hl
  unfold okRow
  rw [List.all_eq_true]
  intro m hm
  obtain ⟨x, hx, rfl, _⟩ := mem_revTo.1 hm
  rw [rev_len]
  exact decide_eq_true (by omega)
theorem rev_code {g : List (List Int)} (h : g.length ≤ 65536) : codeG (rev g) = 0 := by
  unfold codeG
  rw [rev_len, if_neg (by omega), if_pos (rev_ok g)]
theorem mem_succs {g : List (List Int)} (h : okG g = true) {u x : Nat} : x ∈ succs g u ↔ (x : Int) ∈ g.getD u [] := by
  unfold succs
  rw [List.mem_map]
  constructor
  · rintro ⟨m, hm, rfl⟩
    rw [List.getD_eq_getElem?_getD] at hm ⊢
    cases hl : g[u]? with
    | none => rw [hl] at hm; cases hm
    | some l =>
      rw [hl] at hm
      obtain ⟨j, hj, hmj⟩ := List.getElem_of_mem hm
      obtain ⟨b, rfl, hb⟩ := ok_node h hl (show l[j]? = some m by rw [List.getElem?_eq_getElem (by simpa using hj)]; exact congrArg some hmj)
      simpa using hm
  · intro hm
    exact ⟨_, hm, by simp⟩
theorem succs_rev {g : List (List Int)} (h : okG g = true) {u x : Nat} (hu : u < g.length) : x ∈ succs (rev g) u ↔ x < g.length ∧ u ∈ succs g x := by
  rw [mem_succs (rev_ok g), mem_succs h, getD_of (rev_get hu), mem_revTo]
  constructor
  · rintro ⟨y, hy, e, h2⟩
    obtain rfl : x = y := by omega
    exact ⟨hy, h2⟩
  · rintro ⟨hx, h2⟩
    exact ⟨x, hx, rfl, h2⟩


end Go.Proofs.Ytlgnmlhgghabkaa

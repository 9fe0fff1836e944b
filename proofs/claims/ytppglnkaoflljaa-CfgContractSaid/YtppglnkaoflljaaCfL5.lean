/-
  Layer 20 (cfg): the graph of a split function. No function of the program is named here.
-/
import Derived.Test.YtppglnkaoflljaaCfL4
namespace Go.Proofs.Ytppglnkaoflljaa
open Go.RowKit Go.Deep

theorem FnD.graph_pure (d : FnD) : d.graph = d.pure.blocks.map (fun x => x.term.succs.map EdP.blk) := by
  simp [FnD.graph, FnD.pure, BkD.out, BkD.pure, TmD.pure, EdD.pure, Function.comp_def]
section
variable {d y : FnD} {i j : Nat} {b : BkD} {e : EdD}
theorem split_graph (hp : y.pure = splitP d.pure i j b.pure e.pure) : y.graph = d.graph.set i (b.out.set j (d.blocks.length : Int)) ++ [[e.blk]] := by
  rw [FnD.graph_pure, hp, FnD.graph_pure]
  simp [splitP, List.map_set, FnD.pure, BkD.out, BkD.pure, TmD.pure, EdD.pure, Function.comp_def]
theorem split_len (hp : y.pure = splitP d.pure i j b.pure e.pure) : y.blocks.length = d.blocks.length + 1 := by
  rw [← y.graph_len, split_graph hp, List.length_append, List.length_set, d.graph_len]
  rfl
theorem split_last (hp : y.pure = splitP d.pure i j b.pure e.pure) : ∃ bn en, y.blocks[d.blocks.length]? = some bn ∧ bn.term.succs = [en] ∧ en.blk = e.blk := by
  obtain ⟨bn, hbn⟩ : ∃ x, y.blocks[d.blocks.length]? = some x := ⟨_, List.getElem?_eq_getElem (by rw [split_len hp]; omega)⟩
  have h1 := FnD.graph_at hbn
  rw [split_graph hp, List.getElem?_append_right (by rw [List.length_set, d.graph_len]; exact Nat.le_refl _), List.length_set, d.graph_len, Nat.sub_self] at h1
  have h2 : [e.blk] = bn.out := by simpa using h1
  cases hs : bn.term.succs with
  | nil => rw [BkD.out, hs] at h2; cases h2
  | cons en r =>
    rw [BkD.out, hs] at h2
    simp at h2
    obtain ⟨h3, h4⟩ := h2
    subst h4
    exact ⟨bn, en, hbn, hs, h3.symm⟩
theorem split_succs (hp : y.pure = splitP d.pure i j b.pure e.pure) (hb : d.blocks[i]? = some b) (hd : ∀ x ∈ d.blocks, x.term.succs.length ≤ 50) : ∀ x ∈ y.blocks, x.term.succs.length ≤ 131072 := by
  intro x hx
  obtain ⟨k, hk⟩ := List.getElem?_of_mem hx
  have h1 := FnD.graph_at hk
  have h2 := List.mem_of_getElem? h1
  rw [← x.out_len]
  rw [split_graph hp] at h2
  rcases List.mem_append.1 h2 with h2 | h2
  · rcases List.mem_or_eq_of_mem_set h2 with h2 | h2
    · obtain ⟨z, hz, e1⟩ := List.mem_map.1 h2
      rw [← e1, z.out_len]
      have := hd z hz
      omega
    · rw [h2, List.length_set, b.out_len]
      have := hd b (List.mem_of_getElem? hb)
      omega
  · rw [List.mem_singleton.1 h2]
    simp
/-- The rows when the loop stands at a. -/
def conAt (y : FnD) (i a : Nat) (l : List Int) : List (List Int) := if i < a then y.graph.set i l else y.graph
theorem con_other (hp : y.pure = splitP d.pure i j b.pure e.pure) {a : Nat} (ha : a ≠ i) {x : BkD} (hx : d.blocks[a]? = some x) : (conAt y i a b.out)[a]? = some x.out := by
  have hl := (List.getElem?_eq_some_iff.1 hx).1
  have h1 : y.graph[a]? = some x.out := by
    rw [split_graph hp, List.getElem?_append_left (by rw [List.length_set, d.graph_len]; exact hl), List.getElem?_set_ne (fun e => ha e.symm)]
    exact FnD.graph_at hx
  unfold conAt
  split
  · rw [List.getElem?_set_ne (fun e => ha e.symm)]
    exact h1
  · exact h1
theorem con_same {a : Nat} (ha : a ≠ i) {l : List Int} : conAt y i (a + 1) l = conAt y i a l := by
  unfold conAt
  by_cases h : i < a
  · rw [if_pos h, if_pos (by omega)]
  · rw [if_neg h, if_neg (by omega)]
theorem con_here (hp : y.pure = splitP d.pure i j b.pure e.pure) (hb : d.blocks[i]? = some b) : y.graph[i]? = some (b.out.set j (d.blocks.length : Int)) := by
  have hl := (List.getElem?_eq_some_iff.1 hb).1
  rw [split_graph hp, List.getElem?_append_left (by rw [List.length_set, d.graph_len]; exact hl), List.getElem?_set_self (by rw [d.graph_len]; exact hl)]
/-- The row of the split block when the inner loop stands at k. -/
def rowAt (l : List Int) (j n k : Nat) : List Int := if j < k then l else l.set j (n : Int)
theorem row_next {l : List Int} {j n : Nat} {z : Int} (h : l[j]? = some z) : (rowAt l j n j).set j z = rowAt l j n (j + 1) := by
  unfold rowAt
  rw [if_neg (by omega), if_pos (by omega), List.set_set]
  apply List.ext_getElem?
  intro k
  by_cases hk : k = j
  · subst hk
    rw [List.getElem?_set_self (List.getElem?_eq_some_iff.1 h).1, h]
  · rw [List.getElem?_set_ne (fun e => hk e.symm)]
theorem row_other {l : List Int} {j n k : Nat} (h : k ≠ j) : rowAt l j n (k + 1) = rowAt l j n k := by
  unfold rowAt
  by_cases h1 : j < k
  · rw [if_pos h1, if_pos (by omega)]
  · rw [if_neg h1, if_neg (by omega)]
theorem row_len {l : List Int} {j n k : Nat} : (rowAt l j n k).length = l.length := by
  unfold rowAt
  split
  · rfl
  · simp
end
end Go.Proofs.Ytppglnkaoflljaa

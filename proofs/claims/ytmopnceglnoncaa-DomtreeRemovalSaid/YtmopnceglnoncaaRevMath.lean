/-
  Layer 6 (digraph): what is counted and sorted in reversed graphs.
-/
import Derived.Test.YtmopnceglnoncaaReachMath
import Derived.Test.YtmopnceglnoncaaPreds
namespace Go.Proofs.Ytmopnceglnoncaa
open Go.RowKit

/-- How often a number stands in a list. -/
def times (m : Int) (l : List Int) : Nat := (l.filter (fun x => x == m)).length
theorem times_nil (m : Int) : times m [] = 0 := rfl
theorem times_append (m : Int) (l r : List Int) : times m (l ++ r) = times m l + times m r := by unfold times; rw [List.filter_append, List.length_append]
theorem times_one (m x : Int) : times m [x] = if x = m then 1 else 0 := by
  unfold times
  by_cases h : x = m <;> simp [h]
theorem times_take {m x : Int} {l : List Int} {i : Nat} (h : l[i]? = some x) : times m (l.take (i + 1)) = times m (l.take i) + (if x = m then 1 else 0) := by
  rw [List.take_add_one, h, times_append]
  show _ + times m [x] = _
  rw [times_one]
theorem hits_length (b a : Nat) (l : List Int) : (hits b a l).length = times b l := by unfold hits times; rw [List.length_map]
theorem times_hits (c b a : Nat) (l : List Int) : times c (hits b a l) = if a = c then times b l else 0 := by
  have key : ∀ n : Nat, times c (List.replicate n (a : Int)) = if a = c then n else 0 := by
    intro n
    induction n with
    | zero => simp [times]
    | succ n ih =>
      rw [List.replicate_succ, show ((a : Int) :: List.replicate n (a : Int)) = [(a : Int)] ++ List.replicate n (a : Int) from rfl, times_append, ih, times_one]
      by_cases h : a = c
      · rw [if_pos h, if_pos h, if_pos (by omega)]; omega
      · rw [if_neg h, if_neg h, if_neg (by omega)]
  have e : hits b a l = List.replicate (times b l) (a : Int) := by
    unfold hits times
    rw [List.map_const']
  rw [e, key]
theorem times_revTo (g : List (List Int)) (c b : Nat) : ∀ n, times c (revTo g n b) = if c < n then times b (g.getD c []) else 0
  | 0 => by simp [revTo, times]
  | n + 1 => by
    rw [revTo_succ, times_append, times_revTo g c b n, times_hits]
    by_cases h : n = c
    · subst h
      rw [if_neg (Nat.lt_irrefl _), if_pos rfl, if_pos (Nat.lt_succ_self _)]
      omega
    · by_cases h2 : c < n
      · rw [if_pos h2, if_neg h, if_pos (by omega)]; omega
      · rw [if_neg h2, if_neg h, if_neg (by omega)]
/-- As many edges from a to b as back. -/
theorem times_rev {g : List (List Int)} {a b : Nat} (ha : a < g.length) : times a (revTo g g.length b) = times b (g.getD a []) := by
  rw [times_revTo, if_pos ha]
theorem times_sum : ∀ (n : Nat) (l : List Int), (∀ m ∈ l, ∃ x : Nat, m = x ∧ x < n) → ((List.range n).map fun b => times (b : Nat) l).sum = l.length
  | n, [], _ => by
    induction n with
    | zero => rfl
    | succ n ih =>
      rw [List.range_succ, List.map_append, List.sum_append, ih (by simp)]
      simp [times]
  | n, m :: l, h => by
    have ih := times_sum n l (fun x hx => h x (List.mem_cons_of_mem _ hx))
    obtain ⟨x, rfl, hx⟩ := h m (List.mem_cons_self ..)
    have e : ∀ b : Nat, times (b : Nat) ((x : Int) :: l) = (if x = b then 1 else 0) + times (b : Nat) l := fun b => by
      rw [show (x : Int) :: l = [(x : Int)] ++ l from rfl, times_append, times_one]
      congr 1
      by_cases h : x = b
      · rw [if_pos h, if_pos (by omega)]
      · rw [if_neg h, if_neg (by omega)]
    have key : ∀ n : Nat, ((List.range n).map fun b => (if x = b then 1 else 0) + times (b : Nat) l).sum = (if x < n then 1 else 0) + ((List.range n).map fun b => times (b : Nat) l).sum := by
      intro n
      induction n with
      | zero => simp
      | succ n ih =>
        rw [List.range_succ, List.map_append, List.sum_append, List.map_append, List.sum_append, ih]
        simp only [List.map_cons, List.map_nil, List.sum_cons, List.sum_nil]
        by_cases h : x = n
        · subst h
          rw [if_neg (Nat.lt_irrefl _), if_pos rfl, if_pos (Nat.lt_succ_self _)]; omega
        · by_cases h2 : x < n
          · rw [if_pos h2, if_neg h, if_pos (by omega)]; omega
          · rw [if_neg h2, if_neg h, if_neg (by omega)]; omega
    rw [List.map_congr_left (fun b _ => e b), key n, if_pos hx, ih, List.length_cons]
    omega
theorem revTo_length (g : List (List Int)) (b : Nat) : ∀ n, (revTo g n b).length = ((List.range n).map fun a => times (b : Nat) (g.getD a [])).sum
  | 0 => by simp [revTo]
  | n + 1 => by rw [revTo_succ, List.length_append, revTo_length g b n, hits_length, List.range_succ, List.map_append, List.sum_append]; simp
/-- Turned round twice, a list keeps its length. -/
theorem rev_rev_length {g : List (List Int)} (h : okG g = true) {a : Nat} (ha : a < g.length) : (revTo (rev g) g.length a).length = (g.getD a []).length := by
  rw [revTo_length]
  rw [List.map_congr_left (g := fun b => times (b : Nat) (g.getD a [])) (fun b hb => by
    rw [getD_of (rev_get (List.mem_range.1 hb)), times_rev ha])]
  refine times_sum _ _ fun m hm => ?_
  rw [List.getD_eq_getElem?_getD, List.getElem?_eq_getElem ha] at hm
  obtain ⟨j, hj, hmj⟩ := List.getElem_of_mem hm
  exact ok_node h (List.getElem?_eq_getElem ha) (show (g[a])[j]? = some m by rw [List.getElem?_eq_getElem (by simpa using hj)]; exact congrArg some hmj)
/-- The predecessors ascend. -/
theorem revTo_sorted (g : List (List Int)) (b : Nat) : ∀ n, (revTo g n b).Pairwise (· ≤ ·)
  | 0 => by simp [revTo]
  | n + 1 => by
    rw [revTo_succ, List.pairwise_append]
    refine ⟨revTo_sorted g b n, ?_, fun x hx y hy => ?_⟩
    · have e : hits b n (g.getD n []) = List.replicate (times b (g.getD n [])) (n : Int) := by unfold hits times; rw [List.map_const']
      rw [e, List.pairwise_replicate]
      exact .inr (Int.le_refl _)
    · obtain ⟨c, hc, rfl, _⟩ := mem_revTo.1 hx
      obtain ⟨rfl, _⟩ := mem_hits.1 hy
      omega
theorem mem_ddTo (l : List Int) : ∀ k, k ≤ l.length → ∀ m, m ∈ ddTo l k ↔ m ∈ l.take k
  | 0, _, m => by simp [ddTo]
  | k + 1, hk, m => by
    have hlt : k < l.length := by omega
    have e : l.getD k 0 = l[k] := by rw [List.getD_eq_getElem?_getD, List.getElem?_eq_getElem hlt]; rfl
    rw [ddTo_succ, List.mem_append, mem_ddTo l k (by omega) m, List.take_add_one, List.mem_append, List.getElem?_eq_getElem hlt, e]
    by_cases hc : keepAt l k = true
    · rw [if_pos hc]; rfl
    · rw [if_neg hc]
      refine ⟨fun h => h.elim .inl (fun h => (by cases h)), fun h => h.elim .inl (fun h => .inl ?_)⟩
      obtain rfl : m = l[k] := by simpa using h
      have h1 : ¬ (k = 0 ∨ l.getD k 0 ≠ l.getD (k - 1) 0) := fun h => hc (decide_eq_true h)
      have h2 : k ≠ 0 := fun h => h1 (.inl h)
      have h3 : l.getD k 0 = l.getD (k - 1) 0 := Decidable.byContradiction fun h => h1 (.inr h)
      rw [e, List.getD_eq_getElem?_getD, List.getElem?_eq_getElem (show k - 1 < l.length by omega)] at h3
      rw [h3]
      exact List.mem_take_iff_getElem.2 ⟨k - 1, by omega, rfl⟩
theorem mem_dd (l : List Int) (m : Int) : m ∈ dd l ↔ m ∈ l := by
  unfold dd
  rw [mem_ddTo l _ (Nat.le_refl _), List.take_length]
theorem ddTo_sorted {l : List Int} (h : l.Pairwise (· ≤ ·)) : ∀ k, k ≤ l.length → (ddTo l k).Pairwise (· < ·)
  | 0, _ => by simp [ddTo]
  | k + 1, hk => by
    have hlt : k < l.length := by omega
    have e : l.getD k 0 = l[k] := by rw [List.getD_eq_getElem?_getD, List.getElem?_eq_getElem hlt]; rfl
    rw [ddTo_succ]
    by_cases hc : keepAt l k = true
    · rw [if_pos hc, List.pairwise_append]
      refine ⟨ddTo_sorted h k (by omega), by simp, fun x hx y hy => ?_⟩
      rw [List.mem_singleton.1 hy, e]
      rw [mem_ddTo l k (by omega)] at hx
      obtain ⟨j, hj, rfl⟩ := List.mem_take_iff_getElem.1 hx
      have hjk : j < k := by omega
      have h1 : k = 0 ∨ l.getD k 0 ≠ l.getD (k - 1) 0 := of_decide_eq_true hc
      have h2 := h1.resolve_left (by omega)
      rw [e, List.getD_eq_getElem?_getD, List.getElem?_eq_getElem (show k - 1 < l.length by omega)] at h2
      have h3 : l[k - 1] ≤ l[k] := List.pairwise_iff_getElem.1 h (k - 1) k (by omega) hlt (by omega)
      have h2' : l[k] ≠ l[k - 1] := h2
      have h4 : l[j] ≤ l[k - 1] := by
        by_cases c : j = k - 1
        · subst c; exact Int.le_refl _
        · exact List.pairwise_iff_getElem.1 h j (k - 1) (by omega) (by omega) (by omega)
      omega
    · rw [if_neg hc, List.append_nil]
      exact ddTo_sorted h k (by omega)
theorem dd_sorted {l : List Int} (h : l.Pairwise (· ≤ ·)) : (dd l).Pairwise (· < ·) := ddTo_sorted h _ (Nat.le_refl _)
/-- No list of a reversed graph is longer than the graph has edges. -/
theorem rev_edges {g : List (List Int)} (hn : g.length ≤ 60) (hE : edges g ≤ 300) : edges (rev g) ≤ 1000000 := by
  have key : ∀ (l : List Nat), (∀ x ∈ l, x ≤ 300) → l.sum ≤ l.length * 300 := by
    intro l
    induction l with
    | nil => intro _; simp
    | cons x r ih =>
      intro h
      have h1 := ih (fun y hy => h y (List.mem_cons_of_mem _ hy))
      have h2 := h x (List.mem_cons_self ..)
      simp only [List.sum_cons, List.length_cons]
      omega
  have h1 := key ((rev g).map List.length) (fun x hx => by
    obtain ⟨l, hl, rfl⟩ := List.mem_map.1 hx
    unfold rev at hl
    obtain ⟨b, _, rfl⟩ := List.mem_map.1 hl
    have h2 := revTo_edges g b g.length (Nat.le_refl _)
    have h3 := sum_take (g.map List.length) g.length
    unfold edges at hE
    omega)
  rw [List.length_map, rev_len] at h1
  unfold edges
  omega
end Go.Proofs.Ytmopnceglnoncaa

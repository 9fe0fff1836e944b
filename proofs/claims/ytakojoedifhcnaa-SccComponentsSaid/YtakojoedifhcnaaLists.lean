/-
  Layer 7 (scc): the list of components is the only one; how large its parts are.
-/
import Derived.Test.YtakojoedifhcnaaTOnCyc
namespace Go.Proofs.Ytakojoedifhcnaa
open Go.RowKit

section
variable {g : List (List Int)} {num num' : Nat → Nat} {cnt cnt' : Nat} {lst lst' : List Nat}
theorem cond_congr (hok : okG g = true) (e : ∀ x, x < g.length → num x = num' x) : cond g num cnt = cond g num' cnt := by
  unfold cond
  refine List.map_congr_left fun k _ => ?_
  unfold condTo
  rw [List.flatMap_def, List.flatMap_def]
  congr 1
  refine List.map_congr_left fun x hx => ?_
  have hx := List.mem_range.1 hx
  rw [e x hx]
  split
  · have hm : ∀ m ∈ g.getD x [], num m.toNat = num' m.toNat := fun m hm => by
      obtain ⟨l, hl⟩ : ∃ l, g[x]? = some l := ⟨_, List.getElem?_eq_getElem hx⟩
      rw [getD_of hl] at hm
      obtain ⟨j, hj⟩ := List.getElem?_of_mem hm
      obtain ⟨b, rfl, hb⟩ := ok_node hok hl hj
      exact e b hb
    unfold hop
    rw [List.filter_congr (q := fun m => num' m.toNat != num' x) (fun m hmm => by rw [hm m hmm, e x hx])]
    exact List.map_congr_left fun m hmm => by rw [hm m (List.mem_filter.1 hmm).1]
  · rfl
theorem Parts.cnt_le (h : Parts g cnt num) (h' : Parts g cnt' num') : cnt ≤ cnt' := Nat.le_of_not_lt fun c => by
  obtain ⟨z, hz, e⟩ := h.all cnt' c
  have h1 := h'.lt z hz
  rw [← h.unique h' z hz, e] at h1
  exact Nat.lt_irrefl _ h1
theorem Lists.unique (hok : okG g = true) (h : Lists g cnt num lst) (h' : Lists g cnt' num' lst') : cnt = cnt' ∧ ∀ x, x < g.length → idx lst num x = idx lst' num' x := by
  have e := h.parts.unique h'.parts
  have ec : cnt = cnt' := Nat.le_antisymm (h.parts.cnt_le h'.parts) (h'.parts.cnt_le h.parts)
  subst ec
  have hg := h.grd
  rw [cond_congr hok e] at hg
  have el := h'.grd.unique lst hg (by rw [h.len, h'.len])
  subst el
  exact ⟨rfl, fun x hx => by unfold idx; rw [e x hx]⟩
end
/-- How many nodes the first i parts have. -/
def tot (f : Nat → Nat) (n i : Nat) : Nat := ((List.range i).map fun k => (part n f k).length).sum
theorem tot_succ (f : Nat → Nat) (n i : Nat) : tot f n (i + 1) = tot f n i + (part n f i).length := by
  unfold tot; rw [List.range_succ, List.map_append, List.sum_append]; simp
theorem tot_all (f : Nat → Nat) (m : Nat) : ∀ n, (∀ x, x < n → f x < m) → tot f n m = n
  | 0, _ => by
    unfold tot
    have : ((List.range m).map fun k => (part 0 f k).length) = List.replicate m 0 := by
      apply List.ext_getElem
      · simp
      · intro i _ _; simp [part]
    rw [this]; simp
  | n + 1, h => by
    have h1 := tot_all f m n fun x hx => h x (by omega)
    unfold tot at h1 ⊢
    have e : (fun k => (part (n + 1) f k).length) = fun k => (part n f k).length + (if f n = k then 1 else 0) := by
      funext k
      rw [part_succ, List.length_append]
      split <;> simp
    rw [e, sum_add, sum_ite, h1, if_pos (h n (by omega))]
theorem tot_le (f : Nat → Nat) (n : Nat) {i m : Nat} (h : i ≤ m) : tot f n i ≤ tot f n m := by
  obtain ⟨d, rfl⟩ : ∃ d, m = i + d := ⟨m - i, by omega⟩
  induction d with
  | zero => exact Nat.le_refl _
  | succ d ih => rw [← Nat.add_assoc, tot_succ]; have := ih (by omega); omega
theorem part_mem {f : Nat → Nat} {n k j : Nat} {z : Int} (h : (part n f k)[j]? = some z) : ∃ x : Nat, z = x ∧ x < n ∧ f x = k := by
  have := List.mem_of_getElem? h
  unfold part at this
  obtain ⟨x, hx, rfl⟩ := List.mem_map.1 this
  obtain ⟨h1, h2⟩ := List.mem_filter.1 hx
  exact ⟨x, rfl, List.mem_range.1 h1, by simpa using h2⟩
theorem part_sorted (f : Nat → Nat) (n k : Nat) : (part n f k).Pairwise (· < ·) := by
  unfold part
  rw [List.pairwise_map]
  exact (List.pairwise_lt_range.filter _).imp fun h => by omega
end Go.Proofs.Ytakojoedifhcnaa

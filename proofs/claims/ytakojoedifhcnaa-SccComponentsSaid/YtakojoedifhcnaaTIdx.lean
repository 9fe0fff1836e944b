/-
  Layer 7 (scc): the components' places in the list.
-/
import Derived.Test.YtakojoedifhcnaaTWarsh
namespace Go.Proofs.Ytakojoedifhcnaa
open Go.RowKit

theorem sum_add : ∀ (n : Nat) (f h : Nat → Nat), ((List.range n).map fun k => f k + h k).sum = ((List.range n).map f).sum + ((List.range n).map h).sum
  | 0, _, _ => rfl
  | n + 1, f, h => by
    have := sum_add n f h
    simp only [List.range_succ, List.map_append, List.sum_append, List.map_cons, List.map_nil, List.sum_cons, List.sum_nil] at this ⊢
    omega
theorem sum_ite (a v : Nat) : ∀ n : Nat, ((List.range n).map fun k => if a = k then v else 0).sum = if a < n then v else 0
  | 0 => rfl
  | n + 1 => by
    have := sum_ite a v n
    simp only [List.range_succ, List.map_append, List.sum_append, List.map_cons, List.map_nil, List.sum_cons, List.sum_nil] at this ⊢
    rw [this]
    by_cases h1 : a < n
    · rw [if_pos h1, if_neg (by omega), if_pos (by omega)]; omega
    · by_cases h2 : a = n
      · rw [if_neg h1, if_pos h2, if_pos (by omega)]; omega
      · rw [if_neg h1, if_neg h2, if_neg (by omega)]; rfl
section
variable {g : List (List Int)} {num : Nat → Nat} {cnt : Nat}
theorem cond_sum (g : List (List Int)) (num : Nat → Nat) (cnt : Nat) : ∀ a, a ≤ g.length → ((List.range cnt).map fun k => (condTo g num a k).length).sum ≤ ((g.map List.length).take a).sum
  | 0, _ => by
    have : ((List.range cnt).map fun k => (condTo g num 0 k).length) = List.replicate cnt 0 := by
      apply List.ext_getElem
      · simp
      · intro i _ _; simp [condTo]
    rw [this]; simp
  | a + 1, ha => by
    have h1 := cond_sum g num cnt a (by omega)
    have h2 := hop_len num a (g.getD a [])
    have e : (fun k => (condTo g num (a + 1) k).length) = fun k => (condTo g num a k).length + (if num a = k then (hop num a (g.getD a [])).length else 0) := by
      funext k
      rw [condTo_succ, List.length_append]
      split <;> simp
    rw [e, sum_add, sum_ite, List.take_add_one, List.sum_append, List.getElem?_map, List.getElem?_eq_getElem (by omega)]
    rw [List.getD_eq_getElem?_getD, List.getElem?_eq_getElem (show a < g.length by omega)] at h2 ⊢
    simp only [Option.getD_some, Option.map_some, Option.toList_some, List.sum_cons, List.sum_nil] at h2 ⊢
    split <;> omega
theorem cond_edges : edges (cond g num cnt) ≤ edges g := by
  have h1 := cond_sum g num cnt g.length (Nat.le_refl _)
  have h3 := sum_take (g.map List.length) g.length
  unfold edges cond
  rw [List.map_map]
  exact Nat.le_trans h1 h3
theorem cond_ok (hok : okG g = true) (hlt : ∀ x, x < g.length → num x < cnt) : okG (cond g num cnt) = true := by
  unfold okG
  rw [List.all_eq_true]
  intro l hl
  obtain ⟨k, hk⟩ := List.getElem?_of_mem hl
  have hkl : k < cnt := by have := (List.getElem?_eq_some_iff.1 hk).1; rwa [cond_len] at this
  unfold okRow
  rw [List.all_eq_true]
  intro m hm
  rw [← getD_of hk] at hm
  obtain ⟨x, y, hx, hy, -, rfl, -, -⟩ := mem_cond hok hkl hm
  have := hlt y hy
  rw [cond_len]
  simp; omega
theorem cond_mem (hok : okG g = true) {x y : Nat} (hx : x < g.length) (hc : num x < cnt) (hy : y ∈ succs g x) (hne : num y ≠ num x) : (num y : Int) ∈ (cond g num cnt).getD (num x) [] := by
  have e : (cond g num cnt).getD (num x) [] = condTo g num g.length (num x) := by unfold cond; simp [hc]
  rw [e]
  unfold condTo
  refine List.mem_flatMap.2 ⟨x, List.mem_range.2 hx, ?_⟩
  rw [if_pos rfl]
  unfold hop
  exact List.mem_map.2 ⟨(y : Int), List.mem_filter.2 ⟨(succs_iff hok x y).1 hy, by simpa using hne⟩, by simp⟩
theorem Grd.back {C : List (List Int)} {lst : List Nat} (h : Grd C lst) : ∀ (i k : Nat), lst[i]? = some k → ∀ m ∈ C.getD k [], ∃ j, j < i ∧ lst[j]? = some m.toNat := by
  induction h with
  | nil => intro i k hk; simp at hk
  | @snoc lst x h1 hr _ ih =>
    intro i k hk m hm
    by_cases c : i < lst.length
    · rw [List.getElem?_append_left c] at hk
      obtain ⟨j, hj, e⟩ := ih i k hk m hm
      exact ⟨j, hj, by rw [List.getElem?_append_left (by omega)]; exact e⟩
    · have hil := (List.getElem?_eq_some_iff.1 hk).1
      rw [List.length_append, List.length_singleton] at hil
      obtain rfl : i = lst.length := by omega
      rw [List.getElem?_append_right (Nat.le_refl _), Nat.sub_self, List.getElem?_cons_zero] at hk
      injection hk with hk
      subst hk
      obtain ⟨j, hj⟩ := List.getElem?_of_mem (hr.2.2 m hm)
      have hjl := (List.getElem?_eq_some_iff.1 hj).1
      exact ⟨j, hjl, by rw [List.getElem?_append_left hjl]; exact hj⟩
theorem range_nodup_le : ∀ {n : Nat} {l : List Nat}, (∀ k, k < n → k ∈ l) → n ≤ l.length
  | 0, _, _ => Nat.zero_le _
  | n + 1, l, h => by
    have h1 : n ∈ l := h n (by omega)
    have h2 : n ≤ (l.erase n).length := range_nodup_le fun k hk => (List.mem_erase_of_ne (by omega)).2 (h k (by omega))
    rw [List.length_erase_of_mem h1] at h2
    have : 0 < l.length := List.length_pos_of_mem h1
    omega

/-- The components' numbers and the list of them. -/
structure Lists (g : List (List Int)) (cnt : Nat) (num : Nat → Nat) (lst : List Nat) : Prop where
  parts : Parts g cnt num
  grd : Grd (cond g num cnt) lst
  len : lst.length = cnt
theorem Lists.mk' (hok : okG g = true) (hp : Parts g cnt num) {lst : List Nat} (hg : Grd (cond g num cnt) lst) (hs : ∀ k, ¬ Rdy (cond g num cnt) lst k) : Lists g cnt num lst :=
  ⟨hp, hg, Nat.le_antisymm (nodup_len hg.nodup fun x hx => by have := hg.lt x hx; rwa [cond_len] at this) (range_nodup_le (grd_full hok hp hg hs))⟩
/-- A node's component's place. -/
def idx (lst : List Nat) (num : Nat → Nat) (x : Nat) : Nat := lst.idxOf (num x)
end
section
variable {g : List (List Int)} {num : Nat → Nat} {cnt : Nat} {lst : List Nat}
theorem Lists.all (h : Lists g cnt num lst) : ∀ k, k < cnt → k ∈ lst := fun k hk => by
  apply Classical.byContradiction
  intro c
  have h1 : (k :: lst).Nodup := List.nodup_cons.2 ⟨c, h.grd.nodup⟩
  have h2 := nodup_len (n := cnt) h1 (fun x hx => by
    rcases List.mem_cons.1 hx with e | hx
    · rw [e]; exact hk
    · have := h.grd.lt x hx; rwa [cond_len] at this)
  rw [List.length_cons, h.len] at h2
  omega
theorem Lists.get (h : Lists g cnt num lst) {x : Nat} (hx : x < g.length) : lst[idx lst num x]? = some (num x) := by
  have hm := h.all _ (h.parts.lt x hx)
  have hl := List.idxOf_lt_length_iff.2 hm
  unfold idx
  rw [List.getElem?_eq_getElem hl, List.getElem_idxOf hl]
theorem Lists.lt (h : Lists g cnt num lst) {x : Nat} (hx : x < g.length) : idx lst num x < cnt := by
  have := (List.getElem?_eq_some_iff.1 (h.get hx)).1
  rwa [h.len] at this
theorem Lists.same (h : Lists g cnt num lst) {x y : Nat} (hx : x < g.length) (hy : y < g.length) : idx lst num x = idx lst num y ↔ SC g x y := by
  rw [← h.parts.cls x y hx hy]
  constructor
  · intro e
    have h1 := h.get hx
    rw [e, h.get hy] at h1
    injection h1 with h1
    exact h1.symm
  · intro e; unfold idx; rw [e]
theorem Lists.edge (h : Lists g cnt num lst) (hok : okG g = true) {x y : Nat} (hx : x < g.length) (hy : y ∈ succs g x) : idx lst num y ≤ idx lst num x := by
  have hyl := succs_lt hok hy
  by_cases e : num y = num x
  · unfold idx; rw [e]; exact Nat.le_refl _
  · obtain ⟨j, hj, e2⟩ := h.grd.back _ _ (h.get hx) _ (cond_mem hok hx (h.parts.lt x hx) hy e)
    rw [Int.toNat_natCast] at e2
    have := nodup_get h.grd.nodup e2 (h.get hyl)
    omega
theorem Lists.onto (h : Lists g cnt num lst) {k : Nat} (hk : k < cnt) : ∃ x, x < g.length ∧ idx lst num x = k := by
  obtain ⟨m, hm⟩ : ∃ m, lst[k]? = some m := ⟨_, List.getElem?_eq_getElem (by rw [h.len]; exact hk)⟩
  have hml := h.grd.lt m (List.mem_of_getElem? hm)
  rw [cond_len] at hml
  obtain ⟨x, hx, rfl⟩ := h.parts.all m hml
  exact ⟨x, hx, nodup_get h.grd.nodup (h.get hx) hm⟩
theorem Lists.way (h : Lists g cnt num lst) (hok : okG g = true) {x y : Nat} (hx : x < g.length) (hw : Way g x y) : idx lst num y ≤ idx lst num x := by
  induction hw with
  | here => exact Nat.le_refl _
  | step hw hz ih => exact Nat.le_trans (h.edge hok (hw.lt hok hx) hz) ih
/-- The places depend on the graph alone. -/
theorem Parts.unique {cnt' : Nat} {num' : Nat → Nat} (h : Parts g cnt num) (h' : Parts g cnt' num') : ∀ x, x < g.length → num x = num' x := by
  intro x
  induction x using Nat.strongRecOn with
  | _ x ih =>
    intro hx
    rcases Nat.lt_trichotomy (num x) (num' x) with c | c | c
    · obtain ⟨z, hz, e⟩ := h'.bef x hx _ c
      have e2 := ih z hz (by omega)
      have := (h'.cls z x (by omega) hx).2 ((h.cls z x (by omega) hx).1 (e2.trans e))
      omega
    · exact c
    · obtain ⟨z, hz, e⟩ := h.bef x hx _ c
      have e2 := ih z hz (by omega)
      have := (h.cls z x (by omega) hx).2 ((h'.cls z x (by omega) hx).1 (e2.symm.trans e))
      omega
end
end Go.Proofs.Ytakojoedifhcnaa

/-
  Layer 7 (scc), the reference: its list of components is that of the least ready ones.
-/
import Derived.Test.YtakojoedifhcnaaTIdx
namespace Go.Proofs.Ytakojoedifhcnaa
open Go.RowKit

/-- The nodes of number k, in order. -/
def part (n : Nat) (num : Nat → Nat) (k : Nat) : List Int := ((List.range n).filter fun x => num x == k).map fun (x : Nat) => (x : Int)
/-- What the reference calls a node's component. -/
def compB (s : List (List Int)) (i k : Nat) : Bool := k == i || (path1B s i k && path1B s k i)
section
variable {g : List (List Int)} {num : Nat → Nat} {cnt : Nat} {lst : List Nat}
theorem compB_iff (hok : okG g = true) (hp : Parts g cnt num) {i k : Nat} (hi : i < g.length) (hk : k < g.length) : compB g i k = (num k == num i) := by
  rw [Bool.eq_iff_iff]
  unfold compB
  simp only [Bool.or_eq_true, Bool.and_eq_true, beq_iff_eq, path1B_iff hok]
  constructor
  · rintro (e | ⟨a, b⟩)
    · rw [e]
    · exact (hp.cls k i hk hi).2 ⟨b.way, a.way⟩
  · intro e
    obtain ⟨a, b⟩ := (hp.cls k i hk hi).1 e
    by_cases c : k = i
    · exact .inl c
    · rcases a.cases1 with e | a
      · exact absurd e c
      · rcases b.cases1 with e | b
        · exact absurd e.symm c
        · exact .inr ⟨b, a⟩
/-- All that can be reached from x's component is in it or listed. -/
def ReadyR (g : List (List Int)) (num : Nat → Nat) (lst : List Nat) (i : Nat) : Prop := ∀ x, x < g.length → num x = num i → ∀ k, k < g.length → path1B g x k = true → num k = num i ∨ num k ∈ lst
theorem ready_iff (hok : okG g = true) (hp : Parts g cnt num) (hg : Grd (cond g num cnt) lst) {i : Nat} (hi : i < g.length) (hn : num i ∉ lst) : ReadyR g num lst i ↔ Rdy (cond g num cnt) lst (num i) := by
  constructor
  · intro h
    refine ⟨by rw [cond_len]; exact hp.lt i hi, hn, fun m hm => ?_⟩
    obtain ⟨x, y, hx, hy, e, rfl, hne, hed⟩ := mem_cond hok (hp.lt i hi) hm
    rw [Int.toNat_natCast]
    have hs := (succs_iff hok x y).2 hed
    rcases h x hx e y hy ((path1B_iff hok x y).2 ⟨y, hs, .here⟩) with c | c
    · exact absurd (c.trans e.symm) hne
    · exact c
  · rintro ⟨-, -, h⟩ x hx e k hk hp1
    have key : ∀ z, Way g x z → num z = num i ∨ num z ∈ lst := by
      intro z hw
      induction hw with
      | here => exact .inl e
      | @step u z hw hz ih =>
        have hu := hw.lt hok hx
        have hzl := succs_lt hok hz
        by_cases c : num z = num u
        · rw [c]; exact ih
        · have hm := cond_mem hok hu (hp.lt u hu) hz c
          rcases ih with a | a
          · rw [a] at hm
            have := h _ hm
            rw [Int.toNat_natCast] at this
            exact .inr this
          · have := hg.clos _ a _ hm
            rw [Int.toNat_natCast] at this
            exact .inr this
    exact key k ((path1B_iff hok x k).1 hp1).way
/-- The first node whose component is ready has the least ready one. -/
theorem ready_least (hok : okG g = true) (hp : Parts g cnt num) (hg : Grd (cond g num cnt) lst) {i : Nat} (hi : i < g.length) (hn : num i ∉ lst) (hr : ReadyR g num lst i) (hb : ∀ z, z < i → num z ∈ lst ∨ ¬ ReadyR g num lst z) : Grd (cond g num cnt) (lst ++ [num i]) := by
  refine .snoc hg ((ready_iff hok hp hg hi hn).1 hr) fun j hj => Nat.le_of_not_lt fun c => ?_
  obtain ⟨z, hz, e⟩ := hp.bef i hi j c
  subst e
  have hzl : z < g.length := by omega
  rcases hb z hz with a | a
  · exact hj.2.1 a
  · exact a ((ready_iff hok hp hg hzl hj.2.1).2 hj)
/-- While a node is not listed, there is such a node. -/
theorem ready_node (hok : okG g = true) (hp : Parts g cnt num) (hg : Grd (cond g num cnt) lst) {x : Nat} (hx : x < g.length) (hn : num x ∉ lst) : ∃ i, i < g.length ∧ num i ∉ lst ∧ ReadyR g num lst i := by
  obtain ⟨k, hk⟩ := ready_some hok hp (rk g x) x hx (Nat.le_refl _) hn
  have hkl := hk.1
  rw [cond_len] at hkl
  obtain ⟨i, hi, rfl⟩ := hp.all k hkl
  exact ⟨i, hi, hk.2.1, (ready_iff hok hp hg hi hk.2.1).2 hk⟩
/-- How many nodes are listed. -/
def done (n : Nat) (num : Nat → Nat) (lst : List Nat) : Nat := ((List.range n).filter fun x => decide (num x ∈ lst)).length
theorem done_nil (n : Nat) : done n num [] = 0 := by unfold done; simp
theorem done_le (n : Nat) : done n num lst ≤ n := by unfold done; exact Nat.le_trans (List.length_filter_le _ _) (by simp)
theorem part_len (n k : Nat) : (part n num k).length = ((List.range n).filter fun x => num x == k).length := by simp [part]
theorem part_le (n k : Nat) : (part n num k).length ≤ n := by rw [part_len]; exact Nat.le_trans (List.length_filter_le _ _) (by simp)
theorem done_snoc (n : Nat) {k : Nat} (hk : k ∉ lst) : done n num (lst ++ [k]) = done n num lst + (part n num k).length := by
  rw [part_len]
  unfold done
  induction List.range n with
  | nil => rfl
  | cons x l ih =>
    simp only [List.filter_cons]
    by_cases a : num x = k
    · have h1 : decide (num x ∈ lst ++ [k]) = true := by simp [a]
      have h2 : decide (num x ∈ lst) = false := by simp [a, hk]
      have h3 : (num x == k) = true := by simp [a]
      rw [h1, h2, h3]
      simp only [if_true, List.length_cons, Bool.false_eq_true, if_false]
      omega
    · have h1 : decide (num x ∈ lst ++ [k]) = decide (num x ∈ lst) := by simp [a]
      have h3 : (num x == k) = false := by simp [a]
      rw [h1, h3]
      by_cases b : num x ∈ lst
      · simp only [decide_eq_true b, if_true, List.length_cons, Bool.false_eq_true, if_false]; omega
      · simp only [decide_eq_false b, Bool.false_eq_true, if_false]; omega
theorem done_lt {n : Nat} (h : done n num lst < n) : ∃ x, x < n ∧ num x ∉ lst := by
  apply Classical.byContradiction
  intro c
  have : ((List.range n).filter fun x => decide (num x ∈ lst)) = List.range n := by
    rw [List.filter_eq_self]
    intro x hx
    have := List.mem_range.1 hx
    simp only [decide_eq_true_eq]
    apply Classical.byContradiction
    intro d
    exact c ⟨x, this, d⟩
  unfold done at h
  rw [this, List.length_range] at h
  omega
theorem done_full {n : Nat} (h : n ≤ done n num lst) {x : Nat} (hx : x < n) : num x ∈ lst := by
  have h1 : ((List.range n).filter fun x => decide (num x ∈ lst)) = List.range n := by
    refine (List.filter_sublist).eq_of_length ?_
    have := done_le (num := num) (lst := lst) n
    unfold done at h this
    rw [List.length_range]; omega
  have h2 := List.mem_range.2 hx
  rw [← h1] at h2
  have := (List.mem_filter.1 h2).2
  simpa using this
theorem part_pos {n x : Nat} (hx : x < n) : 0 < (part n num (num x)).length := by
  rw [part_len, List.length_pos_iff_exists_mem]
  exact ⟨x, List.mem_filter.2 ⟨List.mem_range.2 hx, by simp⟩⟩
theorem Lists.ofDone (hp : Parts g cnt num) (hg : Grd (cond g num cnt) lst) (h : g.length ≤ done g.length num lst) : Lists g cnt num lst :=
  ⟨hp, hg, Nat.le_antisymm (nodup_len hg.nodup fun x hx => by have := hg.lt x hx; rwa [cond_len] at this) (range_nodup_le fun k hk => by
    obtain ⟨x, hx, rfl⟩ := hp.all k hk
    exact done_full h hx)⟩
theorem Lists.partOf (h : Lists g cnt num lst) {i k : Nat} (hk : lst[i]? = some k) : part g.length num k = part g.length (idx lst num) i := by
  unfold part
  congr 1
  refine List.filter_congr fun x hx => ?_
  have hx := List.mem_range.1 hx
  rw [Bool.eq_iff_iff, beq_iff_eq, beq_iff_eq]
  constructor
  · intro e
    have := h.get hx
    rw [e] at this
    exact nodup_get h.grd.nodup this hk
  · intro e
    have := h.get hx
    rw [e, hk] at this
    injection this with this
    exact this.symm
end
end Go.Proofs.Ytakojoedifhcnaa

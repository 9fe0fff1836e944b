/-
  Layer 6 (digraph): the depth-first search, reckoned.
-/
import Derived.Test.YtmopnceglnoncaaRev
namespace Go.Proofs.Ytmopnceglnoncaa
open Go.RowKit

/-- The successors of a node. -/
def succs (g : List (List Int)) (u : Nat) : List Nat := (g.getD u []).map Int.toNat
/-- The search: who is visited, the path to the current node (the last one first), who has been left. -/
structure Dfs where
  vis : Nat → Bool
  path : List Nat
  out : List Nat
def Dfs.step (g : List (List Int)) (s : Dfs) : Dfs :=
  match s.path with
  | [] => s
  | u :: p =>
    match (succs g u).find? (fun x => !s.vis x) with
    | some x => ⟨fun i => s.vis i || i == x, x :: u :: p, s.out⟩
    | none => ⟨s.vis, p, s.out ++ [u]⟩
def Dfs.run (g : List (List Int)) : Nat → Dfs → Dfs
  | 0, s => s
  | k + 1, s => Dfs.run g k (s.step g)
def Dfs.init (v : Nat) : Dfs := ⟨fun i => i == v, [v], []⟩
def Dfs.last (g : List (List Int)) (v : Nat) : Dfs := Dfs.run g (2 * g.length) (Dfs.init v)
/-- The nodes in the order in which the search leaves them. -/
def post (g : List (List Int)) (v : Nat) : List Nat := (Dfs.last g v).out

theorem Dfs.step_nil {g : List (List Int)} {s : Dfs} (h : s.path = []) : s.step g = s := by unfold Dfs.step; rw [h]
theorem Dfs.run_nil {g : List (List Int)} {s : Dfs} (h : s.path = []) : ∀ k, Dfs.run g k s = s
  | 0 => rfl
  | k + 1 => by unfold Dfs.run; rw [Dfs.step_nil h, Dfs.run_nil h k]
theorem Dfs.step_push {g : List (List Int)} {vis : Nat → Bool} {u x : Nat} {p out : List Nat} (h : (succs g u).find? (fun x => !vis x) = some x) : Dfs.step g ⟨vis, u :: p, out⟩ = ⟨fun i => vis i || i == x, x :: u :: p, out⟩ := by
  unfold Dfs.step; simp only [h]
theorem Dfs.step_pop {g : List (List Int)} {vis : Nat → Bool} {u : Nat} {p out : List Nat} (h : (succs g u).find? (fun x => !vis x) = none) : Dfs.step g ⟨vis, u :: p, out⟩ = ⟨vis, p, out ++ [u]⟩ := by
  unfold Dfs.step; simp only [h]

/-- How many of the first n are not visited. -/
def cnt (f : Nat → Bool) : Nat → Nat
  | 0 => 0
  | n + 1 => cnt f n + (if f n then 0 else 1)
theorem cnt_congr {f h : Nat → Bool} : ∀ n, (∀ i, i < n → f i = h i) → cnt f n = cnt h n
  | 0, _ => rfl
  | n + 1, e => by unfold cnt; rw [cnt_congr n (fun i hi => e i (by omega)), e n (by omega)]
theorem cnt_set {f : Nat → Bool} {x : Nat} (hx : f x = false) : ∀ n, x < n → cnt (fun i => f i || i == x) n + 1 = cnt f n
  | 0, h => by omega
  | n + 1, h => by
    unfold cnt
    by_cases e : x = n
    · subst e
      have h1 : ∀ i, i < x → (f i || i == x) = f i := fun i hi => by
        have : (i == x) = false := by simpa using Nat.ne_of_lt hi
        simp [this]
      rw [cnt_congr x h1, hx]
      simp
    · have := cnt_set hx n (by omega)
      have h2 : (n == x) = false := by simpa using fun h => e h.symm
      simp only [h2, Bool.or_false]
      omega
theorem cnt_le (f : Nat → Bool) : ∀ n, cnt f n ≤ n
  | 0 => Nat.le_refl _
  | n + 1 => by unfold cnt; have := cnt_le f n; split <;> omega

theorem succs_lt {g : List (List Int)} (h : okG g = true) {u x : Nat} (hx : x ∈ succs g u) : x < g.length := by
  unfold succs at hx
  obtain ⟨m, hm, rfl⟩ := List.mem_map.1 hx
  rw [List.getD_eq_getElem?_getD] at hm
  cases hl : g[u]? with
  | none => rw [hl] at hm; cases hm
  | some l =>
    rw [hl] at hm
    obtain ⟨j, hj, hmj⟩ := List.getElem_of_mem hm
    obtain ⟨b, rfl, hb⟩ := ok_node h hl (show l[j]? = some m by rw [List.getElem?_eq_getElem (by simpa using hj)]; exact congrArg some hmj)
    simpa using hb
theorem Dfs.done {g : List (List Int)} (h : okG g = true) : ∀ (k : Nat) (s : Dfs), 2 * cnt s.vis g.length + s.path.length ≤ k → (Dfs.run g k s).path = []
  | 0, s, hk => List.eq_nil_of_length_eq_zero (by show s.path.length = 0; omega)
  | k + 1, s, hk => by
    unfold Dfs.run
    obtain ⟨vis, path, out⟩ := s
    cases path with
    | nil => rw [Dfs.step_nil rfl, Dfs.run_nil rfl]
    | cons u p =>
      cases hf : (succs g u).find? (fun x => !vis x) with
      | none =>
        rw [Dfs.step_pop hf]
        refine Dfs.done h k _ ?_
        simp only [List.length_cons] at hk ⊢
        omega
      | some x =>
        rw [Dfs.step_push hf]
        refine Dfs.done h k _ ?_
        have h1 := List.find?_some hf
        have h2 := succs_lt h (List.mem_of_find?_eq_some hf)
        have h3 := cnt_set (f := vis) (x := x) (by simpa using h1) g.length h2
        simp only [List.length_cons] at hk ⊢
        omega
theorem Dfs.last_done {g : List (List Int)} (h : okG g = true) {v : Nat} (hv : v < g.length) : (Dfs.last g v).path = [] := by
  refine Dfs.done h _ _ ?_
  have h1 := cnt_set (f := fun _ => false) (x := v) rfl g.length hv
  have h2 := cnt_le (fun _ => false) g.length
  simp only [Bool.false_or] at h1
  show 2 * cnt (fun i => i == v) g.length + 1 ≤ _
  omega
/-- All numbers in a search are nodes. -/
def Dfs.Fits (n : Nat) (s : Dfs) : Prop := (∀ u ∈ s.path, u < n) ∧ (∀ u ∈ s.out, u < n) ∧ (∀ i, n ≤ i → s.vis i = false)
theorem Dfs.Fits.step {g : List (List Int)} (h : okG g = true) {s : Dfs} (hs : s.Fits g.length) : (s.step g).Fits g.length := by
  obtain ⟨vis, path, out⟩ := s
  obtain ⟨h1, h2, h3⟩ := hs
  cases path with
  | nil => rw [Dfs.step_nil rfl]; exact ⟨h1, h2, h3⟩
  | cons u p =>
    cases hf : (succs g u).find? (fun x => !vis x) with
    | none =>
      rw [Dfs.step_pop hf]
      refine ⟨fun v hv => h1 v (List.mem_cons_of_mem _ hv), fun v hv => ?_, h3⟩
      rcases List.mem_append.1 hv with hv | hv
      · exact h2 v hv
      · rw [List.mem_singleton.1 hv]; exact h1 u (List.mem_cons_self ..)
    | some x =>
      rw [Dfs.step_push hf]
      have h4 := succs_lt h (List.mem_of_find?_eq_some hf)
      refine ⟨fun v hv => ?_, h2, fun i hi => ?_⟩
      · rcases List.mem_cons.1 hv with rfl | hv
        · exact h4
        · exact h1 v hv
      · have h5 := h3 i hi
        have h6 : (i == x) = false := by simpa using show i ≠ x by omega
        show (vis i || i == x) = false
        rw [show vis i = false from h5, h6]; rfl
theorem Dfs.Fits.run {g : List (List Int)} (h : okG g = true) : ∀ (k : Nat) (s : Dfs), s.Fits g.length → (Dfs.run g k s).Fits g.length
  | 0, _, hs => hs
  | k + 1, _, hs => Dfs.Fits.run h k _ (hs.step h)
theorem Dfs.Fits.init {n v : Nat} (hv : v < n) : (Dfs.init v).Fits n :=
  ⟨fun u hu => by rw [List.mem_singleton.1 hu]; exact hv, fun u hu => (by cases hu), fun i hi => by show (i == v) = false; simpa using show i ≠ v by omega⟩
theorem post_lt {g : List (List Int)} (h : okG g = true) {v : Nat} (hv : v < g.length) : ∀ u ∈ post g v, u < g.length :=
  (Dfs.Fits.run h _ _ (Dfs.Fits.init hv)).2.1
/-- The first that is not visited, where those before it are. -/
theorem find_first {l : List Nat} {f : Nat → Bool} {j x : Nat} (hx : l[j]? = some x) (hb : ∀ (i y : Nat), i < j → l[i]? = some y → f y = true) (hf : f x = false) : l.find? (fun x => !f x) = some x := by
  induction l generalizing j with
  | nil => simp at hx
  | cons a r ih =>
    cases j with
    | zero =>
      simp only [List.getElem?_cons_zero, Option.some.injEq] at hx
      subst hx
      simp [hf]
    | succ j =>
      have h0 := hb 0 a (by omega) rfl
      rw [List.find?_cons_of_neg (by simp [h0])]
      exact ih (j := j) (by simpa using hx) (fun i y hi hy => hb (i + 1) y (by omega) (by simpa using hy))
theorem find_no {l : List Nat} {f : Nat → Bool} (hb : ∀ (i y : Nat), l[i]? = some y → f y = true) : l.find? (fun x => !f x) = none := by
  rw [List.find?_eq_none]
  intro x hx
  obtain ⟨i, hi, e⟩ := List.getElem_of_mem hx
  rw [hb i x (by rw [List.getElem?_eq_getElem hi, e])]
  simp
end Go.Proofs.Ytmopnceglnoncaa

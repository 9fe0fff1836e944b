/-
  Layer 6 (digraph), the reference: the search by recursion is the search by a path, reckoned.
-/
import Derived.Test.YtaehfohljblmoaaTReachMath
namespace Go.Proofs.Ytaehfohljblmoaa
open Go.RowKit

theorem run_add (g : List (List Int)) : ∀ (j k : Nat) (s : Dfs), Dfs.run g (j + k) s = Dfs.run g k (Dfs.run g j s)
  | 0, k, s => by rw [Nat.zero_add]; rfl
  | j + 1, k, s => by
    rw [show j + 1 + k = (j + k) + 1 by omega]
    exact run_add g j k _
def Goes (g : List (List Int)) (s t : Dfs) : Prop := ∃ k, Dfs.run g k s = t
theorem Goes.refl (g : List (List Int)) (s : Dfs) : Goes g s s := ⟨0, rfl⟩
theorem Goes.one (g : List (List Int)) (s : Dfs) : Goes g s (s.step g) := ⟨1, rfl⟩
theorem Goes.trans {g : List (List Int)} {s t u : Dfs} (h : Goes g s t) (k : Goes g t u) : Goes g s u := by
  obtain ⟨a, rfl⟩ := h
  obtain ⟨b, rfl⟩ := k
  exact ⟨a + b, run_add g a b s⟩
/-- A visit of n, from its begin to its end. -/
structure Visits (g : List (List Int)) (n : Nat) (vis : Nat → Bool) (out : List Nat) (vis' : Nat → Bool) (out' : List Nat) : Prop where
  run : ∀ P, Goes g ⟨fun i => vis i || i == n, n :: P, out⟩ ⟨vis', P, out'⟩
  up : ∀ x, vis x = true → vis' x = true
  me : vis' n = true
  len : out'.length + cnt vis' g.length = out.length + cnt vis g.length
  less : cnt vis' g.length < cnt vis g.length
/-- Within a visit of n: j successors are done. -/
structure Within (g : List (List Int)) (n : Nat) (vis : Nat → Bool) (out : List Nat) (v : Nat → Bool) (o : List Nat) (j : Nat) : Prop where
  run : ∀ P, Goes g ⟨fun i => vis i || i == n, n :: P, out⟩ ⟨v, n :: P, o⟩
  up : ∀ x, vis x = true → v x = true
  me : v n = true
  seen : ∀ i y, i < j → (succs g n)[i]? = some y → v y = true
  len : o.length + cnt v g.length + 1 = out.length + cnt vis g.length
  less : cnt v g.length < cnt vis g.length
section
variable {g : List (List Int)} {n j y : Nat} {vis v v' : Nat → Bool} {out o o' : List Nat}
theorem Within.begin (hn : n < g.length) (hv : vis n = false) : Within g n vis out (fun i => vis i || i == n) out 0 := by
  have h1 := cnt_set hv g.length hn
  exact ⟨fun P => Goes.refl _ _, fun x hx => by rw [hx]; rfl, by simp, fun i y hi => by omega, by omega, by omega⟩
theorem Within.skip (h : Within g n vis out v o j) (hy : (succs g n)[j]? = some y) (hv : v y = true) : Within g n vis out v o (j + 1) :=
  ⟨h.run, h.up, h.me, fun i z hi hz => by
    rcases Nat.lt_succ_iff_lt_or_eq.1 hi with hi | rfl
    · exact h.seen i z hi hz
    · rw [hy] at hz; injection hz with e; exact e ▸ hv, h.len, h.less⟩
theorem Within.go (h : Within g n vis out v o j) (hy : (succs g n)[j]? = some y) (hv : v y = false) (k : Visits g y v o v' o') : Within g n vis out v' o' (j + 1) := by
  have hlen : o'.length + cnt v' g.length + 1 = out.length + cnt vis g.length := by
    have h1 := h.len
    have h2 := k.len
    omega
  have hf : (succs g n).find? (fun x => !v x) = some y := find_first hy (fun i z hi hz => h.seen i z hi hz) hv
  refine ⟨fun P => ((h.run P).trans (Goes.one g _)).trans ?_, fun x hx => k.up x (h.up x hx), k.up n h.me, fun i z hi hz => ?_, hlen, Nat.lt_trans k.less h.less⟩
  · rw [Dfs.step_push hf]
    exact k.run (n :: P)
  · rcases Nat.lt_succ_iff_lt_or_eq.1 hi with hi | rfl
    · exact k.up z (h.seen i z hi hz)
    · rw [hy] at hz; injection hz with e; exact e ▸ k.me
theorem Within.finish (h : Within g n vis out v o j) (hj : (succs g n).length ≤ j) : Visits g n vis out v (o ++ [n]) := by
  have hf : (succs g n).find? (fun x => !v x) = none := find_no (fun i z hz => h.seen i z (by have := (List.getElem?_eq_some_iff.1 hz).1; omega) hz)
  refine ⟨fun P => (h.run P).trans ?_, h.up, h.me, ?_, h.less⟩
  · have := Goes.one g ⟨v, n :: P, o⟩
    rw [Dfs.step_pop hf] at this
    exact this
  · have := h.len
    rw [List.length_append, List.length_singleton]
    omega
theorem Visits.post (h : Visits g n (fun _ => false) [] v' o') (hok : okG g = true) (hn : n < g.length) : o' = post g n := by
  obtain ⟨k, hk⟩ := h.run []
  have e : (⟨fun i => false || i == n, [n], []⟩ : Dfs) = Dfs.init n := by unfold Dfs.init; simp
  rw [e] at hk
  have hd := Dfs.last_done hok hn
  unfold Go.Proofs.Ytaehfohljblmoaa.post
  have hp : (Dfs.run g k (Dfs.init n)).path = [] := by rw [hk]
  unfold Dfs.last at hd ⊢
  rcases Nat.le_total k (2 * g.length) with h1 | h1
  · obtain ⟨d, hd2⟩ := Nat.exists_eq_add_of_le h1
    rw [hd2, run_add, Dfs.run_nil hp, hk]
  · obtain ⟨d, hd2⟩ := Nat.exists_eq_add_of_le h1
    rw [hd2, run_add, Dfs.run_nil hd] at hk
    rw [hk]
end
end Go.Proofs.Ytaehfohljblmoaa

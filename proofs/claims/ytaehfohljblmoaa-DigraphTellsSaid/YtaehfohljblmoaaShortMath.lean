/-
  Layer 6 (digraph): shortest paths, reckoned.
-/
import Derived.Test.YtaehfohljblmoaaLeast
namespace Go.Proofs.Ytaehfohljblmoaa
open Go.RowKit

theorem mem_hits {b a : Nat} {l : List Int} {m : Int} : m ∈ hits b a l ↔ m = a ∧ (b : Int) ∈ l := by
  unfold hits
  rw [List.mem_map]
  constructor
  · rintro ⟨x, hx, rfl⟩
    rw [List.mem_filter] at hx
    have : x = (b : Int) := by simpa using hx.2
    exact ⟨rfl, this ▸ hx.1⟩
  · rintro ⟨rfl, h⟩
    exact ⟨(b : Int), List.mem_filter.2 ⟨h, by simp⟩, rfl⟩
theorem mem_revTo {g : List (List Int)} {a b : Nat} {m : Int} : m ∈ revTo g a b ↔ ∃ x, x < a ∧ m = (x : Nat) ∧ (b : Int) ∈ g.getD x [] := by
  unfold revTo
  rw [List.mem_flatMap]
  constructor
  · rintro ⟨x, hx, h⟩
    exact ⟨x, List.mem_range.1 hx, mem_hits.1 h⟩
  · rintro ⟨x, hx, h⟩
    exact ⟨x, List.mem_range.2 hx, mem_hits.2 h⟩
theorem rev_get {g : List (List Int)} {b : Nat} (h : b < g.length) : (rev g)[b]? = some (revTo g g.length b) := by simp [rev, h]
theorem rev_ok (g : List (List Int)) : okG (rev g) = true := by
  unfold okG
  rw [List.all_eq_true]
  intro l hl
  unfold rev at hl
  obtain ⟨b, _, rfl⟩ := List.mem_map.1 hl
  unfold okRow
  rw [List.all_eq_true]
  intro m hm
  obtain ⟨x, hx, rfl, _⟩ := mem_revTo.1 hm
  rw [rev_len]
  exact decide_eq_true (by omega)
theorem rev_code {g : List (List Int)} (h : g.length ≤ 65536) : codeG (rev g) = 0 := by
  unfold codeG
  rw [rev_len, if_neg (by omega), if_pos (rev_ok g)]
theorem mem_succs {g : List (List Int)} (h : okG g = true) {u x : Nat} : x ∈ succs g u ↔ (x : Int) ∈ g.getD u [] := by
  unfold succs
  rw [List.mem_map]
  constructor
  · rintro ⟨m, hm, rfl⟩
    rw [List.getD_eq_getElem?_getD] at hm ⊢
    cases hl : g[u]? with
    | none => rw [hl] at hm; cases hm
    | some l =>
      rw [hl] at hm
      obtain ⟨j, hj, hmj⟩ := List.getElem_of_mem hm
      obtain ⟨b, rfl, hb⟩ := ok_node h hl (show l[j]? = some m by rw [List.getElem?_eq_getElem (by simpa using hj)]; exact congrArg some hmj)
      simpa using hm
  · intro hm
    exact ⟨_, hm, by simp⟩
theorem succs_rev {g : List (List Int)} (h : okG g = true) {u x : Nat} (hu : u < g.length) : x ∈ succs (rev g) u ↔ x < g.length ∧ u ∈ succs g x := by
  rw [mem_succs (rev_ok g), mem_succs h, getD_of (rev_get hu), mem_revTo]
  constructor
  · rintro ⟨y, hy, e, h2⟩
    obtain rfl : x = y := by omega
    exact ⟨hy, h2⟩
  · rintro ⟨hx, h2⟩
    exact ⟨x, hx, rfl, h2⟩

/-- What holds of the distances from v at every time. -/
structure Good (n : Nat) (h : List (List Int)) (v : Nat) (d : List Int) : Prop where
  len : d.length = n
  rng : ∀ x, x < n → -1 ≤ d.getD x 0 ∧ d.getD x 0 ≤ n
  down : ∀ x, x < n → 0 < d.getD x 0 → ∃ y, y < n ∧ x ∈ succs h y ∧ d.getD y 0 = d.getD x 0 - 1
  zero : ∀ x, x < n → d.getD x 0 = 0 → x = v
  dv : d.getD v 0 = 0
theorem Good.reach {n k u v x : Nat} {h : List (List Int)} {e : Int} {d : List Int} {q : List Nat} (hg : Good n h v d) (hi : Inn n k u e d q) (hx : x < n) (hd : d.getD x 0 = -1) (hm : x ∈ succs h u) (_hv : v < n) : Good n h v (d.set x (e + 1)) := by
  have hxl : x < d.length := by rw [hg.len]; exact hx
  have e0 := hi.e0
  have e1 := hi.e1
  have hux : x ≠ u := fun c => by have := hi.du; rw [c] at hd; omega
  refine ⟨by rw [List.length_set]; exact hg.len, fun y hy => ?_, fun y hy h0 => ?_, fun y hy h0 => ?_, ?_⟩
  · rw [getD_set hxl]
    split
    · omega
    · exact hg.rng y hy
  · rw [getD_set hxl] at h0
    by_cases c : x = y
    · subst c
      refine ⟨u, hi.un, hm, ?_⟩
      rw [getD_set hxl, getD_set hxl, if_pos rfl, if_neg hux, hi.du]
      omega
    · rw [if_neg c] at h0
      obtain ⟨z, hz, h1, h2⟩ := hg.down y hy h0
      refine ⟨z, hz, h1, ?_⟩
      rw [getD_set hxl, getD_set hxl, if_neg c, if_neg (fun c2 => by rw [← c2, hd] at h2; omega)]
      exact h2
  · rw [getD_set hxl] at h0
    split at h0
    · omega
    · exact hg.zero y hy h0
  · rw [getD_set hxl, if_neg (fun c => by have := hg.dv; rw [← c] at this; omega)]
    exact hg.dv
theorem relax_good {n k u v : Nat} {h : List (List Int)} {e : Int} (hv : v < n) (hok : ∀ x ∈ succs h u, x < n) : ∀ (r : List Nat) (d : List Int) (q : List Nat), (∀ x ∈ r, x ∈ succs h u) → Good n h v d → Inn n k u e d q → Good n h v (relax u r d q).1 ∧ Inn n k u e (relax u r d q).1 (relax u r d q).2
  | [], d, q, _, hg, hi => ⟨hg, hi⟩
  | x :: r, d, q, hr, hg, hi => by
    have hm := hr x (List.mem_cons_self ..)
    by_cases hd : d.getD x 0 = -1
    · rw [relax_new hd, hi.du]
      exact relax_good hv hok r _ _ (fun y hy => hr y (List.mem_cons_of_mem _ hy)) (hg.reach hi (hok x hm) hd hm hv) (hi.reach (hok x hm) hd)
    · rw [relax_old hd]
      exact relax_good hv hok r _ _ (fun y hy => hr y (List.mem_cons_of_mem _ hy)) hg hi
theorem bfs_good {v : Nat} {h : List (List Int)} (hok : okG h = true) (hv : v < h.length) : ∀ (k : Nat) (d : List Int) (q : List Nat), Fair h.length k d q → Good h.length h v d → Good h.length h v (bfs h k d q)
  | 0, _, _, _, hg => hg
  | _ + 1, _, [], _, hg => hg
  | k + 1, d, u :: q, hf, hg => by
    obtain ⟨h1, h2⟩ := relax_good (k := k) hv (fun x hx => succs_lt hok hx) (succs h u) d q (fun _ h => h) hg hf.inn
    exact bfs_good hok hv k _ _ h2.fair h1
theorem dist_good {v : Nat} {h : List (List Int)} (hok : okG h = true) (hv : v < h.length) : Good h.length h v (dist h v) := by
  have hl : v < (List.replicate h.length (-1 : Int)).length := by rw [List.length_replicate]; exact hv
  have key : ∀ y, (dist0 h.length v).getD y 0 = if v = y then 0 else (List.replicate h.length (-1 : Int)).getD y 0 := fun y => getD_set hl
  have rep : ∀ y, y < h.length → (List.replicate h.length (-1 : Int)).getD y 0 = -1 := fun y hy => by rw [List.getD_eq_getElem?_getD, List.getElem?_replicate, if_pos hy]; rfl
  refine bfs_good hok hv _ _ _ (Fair.init hv) ⟨by simp [dist0], fun y hy => ?_, fun y hy h0 => ?_, fun y hy h0 => ?_, ?_⟩
  · rw [key]
    split
    · omega
    · rw [rep y hy]; omega
  · rw [key] at h0
    split at h0
    · omega
    · rw [rep y hy] at h0; omega
  · rw [key] at h0
    split at h0
    · rename_i c; exact c.symm
    · rw [rep y hy] at h0; omega
  · rw [key, if_pos rfl]

theorem lst_spec (P : Int → Bool) (l : List Int) (h0 : ∀ m ∈ l, 0 ≤ m) : (lst P l = -1 ∧ ∀ m ∈ l, P m = false) ∨ (lst P l ∈ l ∧ P (lst P l) = true ∧ 0 ≤ lst P l ∧ ∀ m ∈ l, P m = true → lst P l ≤ m) := by
  suffices key : ∀ s : List Int, (∀ m ∈ s.reverse, 0 ≤ m) → (lst P s.reverse = -1 ∧ ∀ m ∈ s.reverse, P m = false) ∨ (lst P s.reverse ∈ s.reverse ∧ P (lst P s.reverse) = true ∧ 0 ≤ lst P s.reverse ∧ ∀ m ∈ s.reverse, P m = true → lst P s.reverse ≤ m) by
    have := key l.reverse
    rw [List.reverse_reverse] at this
    exact this h0
  clear h0
  intro s h0
  induction s with
  | nil => exact .inl ⟨rfl, fun m hm => (by cases hm)⟩
  | cons x s ih =>
    rw [List.reverse_cons] at h0 ⊢
    obtain ⟨r, hr⟩ : ∃ r, s.reverse = r := ⟨_, rfl⟩
    rw [hr] at h0 ih ⊢
    have h1 := h0 x (by simp)
    have ih := ih (fun m hm => h0 m (by simp [hm]))
    rw [lst_snoc]
    by_cases hc : P x = true ∧ (lst P r < 0 ∨ x < lst P r)
    · rw [if_pos hc]
      refine .inr ⟨by simp, hc.1, h1, fun m hm hP => ?_⟩
      rcases List.mem_append.1 hm with hm | hm
      · rcases ih with ⟨_, h2⟩ | ⟨_, _, h3, h4⟩
        · rw [h2 m hm] at hP; cases hP
        · have := h4 m hm hP
          rcases hc.2 with h | h <;> omega
      · rw [List.mem_singleton.1 hm]; omega
    · rw [if_neg hc]
      rcases ih with ⟨h2, h3⟩ | ⟨h2, h3, h4, h5⟩
      · refine .inl ⟨h2, fun m hm => ?_⟩
        rcases List.mem_append.1 hm with hm | hm
        · exact h3 m hm
        · rw [List.mem_singleton.1 hm]
          cases hP : P x with
          | false => rfl
          | true => exact absurd ⟨hP, .inl (by omega)⟩ hc
      · refine .inr ⟨by simp [h2], h3, h4, fun m hm hP => ?_⟩
        rcases List.mem_append.1 hm with hm | hm
        · exact h5 m hm hP
        · rw [List.mem_singleton.1 hm] at hP ⊢
          rcases Int.lt_or_le x (lst P r) with h | h
          · exact absurd ⟨hP, .inr h⟩ hc
          · exact h

/-- The nodes behind u on a path of k edges. -/
def spath (g : List (List Int)) (d : List Int) : Nat → Nat → List Nat
  | 0, _ => []
  | k + 1, u => (lst (nearer d u) (g.getD u [])).toNat :: spath g d k (lst (nearer d u) (g.getD u [])).toNat
/-- The shortest path from s to t. -/
def short (g : List (List Int)) (s t : Nat) : List Nat :=
  if (dist (rev g) t).getD s 0 = -1 then [] else s :: spath g (dist (rev g) t) ((dist (rev g) t).getD s 0).toNat s
/-- The next node: a successor, one edge nearer, the least such. -/
theorem next_spec {g : List (List Int)} (hok : okG g = true) {u t k : Nat} {d : List Int} (hg : Good g.length (rev g) t d) (hu : u < g.length) (hd : d.getD u 0 = (k : Int) + 1) :
    ∃ x : Nat, lst (nearer d u) (g.getD u []) = x ∧ x < g.length ∧ x ∈ succs g u ∧ d.getD x 0 = k ∧ ∀ y, y ∈ succs g u → d.getD y 0 = k → x ≤ y := by
  have hrow : ∀ m ∈ g.getD u [], ∃ b : Nat, m = b ∧ b < g.length := fun m hm => by
    rw [List.getD_eq_getElem?_getD, List.getElem?_eq_getElem hu] at hm
    obtain ⟨j, hj, hmj⟩ := List.getElem_of_mem hm
    exact ok_node hok (List.getElem?_eq_getElem hu) (show (g[u])[j]? = some m by rw [List.getElem?_eq_getElem (by simpa using hj)]; exact congrArg some hmj)
  have hnear : ∀ y : Nat, nearer d u (y : Nat) = true ↔ d.getD y 0 = k := fun y => by
    unfold nearer
    rw [decide_eq_true_iff, Int.toNat_natCast, hd]
    omega
  rcases lst_spec (nearer d u) (g.getD u []) (fun m hm => by obtain ⟨b, rfl, _⟩ := hrow m hm; omega) with ⟨_, h2⟩ | ⟨h2, h3, h4, h5⟩
  · obtain ⟨y, hy, h6, h7⟩ := hg.down u hu (by omega)
    rw [succs_rev hok hy] at h6
    have h8 := h2 (y : Nat) ((mem_succs hok).1 h6.2)
    have h9 := (hnear y).2 (by omega)
    rw [h8] at h9
    cases h9
  · obtain ⟨x, hx, hxl⟩ := hrow _ h2
    rw [hx] at h2 h3 h5
    exact ⟨x, hx, hxl, (mem_succs hok).2 h2, (hnear x).1 h3, fun y hy hdy => by
      have := h5 (y : Nat) ((mem_succs hok).1 hy) ((hnear y).2 hdy)
      omega⟩
end Go.Proofs.Ytaehfohljblmoaa

/-
  Layer 6 (digraph): who is left by a search is who can be reached; reachability turned round.
-/
import Derived.Test.YtmopnceglnoncaaDfsMath
namespace Go.Proofs.Ytmopnceglnoncaa
open Go.RowKit

theorem mem_hits {b a : Nat} {l : List Int} {m : Int} : m ∈ hits b a l ↔ m = a ∧ (b : Int) ∈ l := by
  unfold hits
  rw [List.mem_map]
  constructor
  · rintro ⟨x, hx, rfl⟩
    rw [List.mem_filter] at hx
    have : x = (b : Int) := by simpa using hx.2
    exact ⟨rfl, this ▸ hx.1⟩
  · rintro ⟨rfl, h⟩
    exact ⟨(b : Int), List.mem_filter.2 ⟨h, by simp⟩, rfl⟩
theorem mem_revTo {g : List (List Int)} {a b : Nat} {m : Int} : m ∈ revTo g a b ↔ ∃ x, x < a ∧ m = (x : Nat) ∧ (b : Int) ∈ g.getD x [] := by
  unfold revTo
  rw [List.mem_flatMap]
  constructor
  · rintro ⟨x, hx, h⟩
    exact ⟨x, List.mem_range.1 hx, mem_hits.1 h⟩
  · rintro ⟨x, hx, h⟩
    exact ⟨x, List.mem_range.2 hx, mem_hits.2 h⟩
theorem rev_get {g : List (List Int)} {b : Nat} (h : b < g.length) : (rev g)[b]? = some (revTo g g.length b) := by simp [rev, h]
theorem rev_ok (g : List (List Int)) : okG (rev g) = true := by
  unfold okG
  rw [List.all_eq_true]
  intro l hl
  unfold rev at hl
  obtain ⟨b, _, rfl⟩ := List.mem_map.1 hl
  unfold okRow
  rw [List.all_eq_true]
  intro m hm
  obtain ⟨x, hx, rfl, _⟩ := mem_revTo.1 hm
  rw [rev_len]
  exact decide_eq_true (by omega)
theorem rev_code {g : List (List Int)} (h : g.length ≤ 65536) : codeG (rev g) = 0 := by
  unfold codeG
  rw [rev_len, if_neg (by omega), if_pos (rev_ok g)]
theorem mem_succs {g : List (List Int)} (h : okG g = true) {u x : Nat} : x ∈ succs g u ↔ (x : Int) ∈ g.getD u [] := by
  unfold succs
  rw [List.mem_map]
  constructor
  · rintro ⟨m, hm, rfl⟩
    rw [List.getD_eq_getElem?_getD] at hm ⊢
    cases hl : g[u]? with
    | none => rw [hl] at hm; cases hm
    | some l =>
      rw [hl] at hm
      obtain ⟨j, hj, hmj⟩ := List.getElem_of_mem hm
      obtain ⟨b, rfl, hb⟩ := ok_node h hl (show l[j]? = some m by rw [List.getElem?_eq_getElem (by simpa using hj)]; exact congrArg some hmj)
      simpa using hm
  · intro hm
    exact ⟨_, hm, by simp⟩
theorem succs_rev {g : List (List Int)} (h : okG g = true) {u x : Nat} (hu : u < g.length) : x ∈ succs (rev g) u ↔ x < g.length ∧ u ∈ succs g x := by
  rw [mem_succs (rev_ok g), mem_succs h, getD_of (rev_get hu), mem_revTo]
  constructor
  · rintro ⟨y, hy, e, h2⟩
    obtain rfl : x = y := by omega
    exact ⟨hy, h2⟩
  · rintro ⟨hx, h2⟩
    exact ⟨x, hx, rfl, h2⟩


end Go.Proofs.Ytmopnceglnoncaa
namespace Go.Proofs.Ytmopnceglnoncaa
open Go.RowKit

/-- There is a path. -/
inductive Way (g : List (List Int)) (v : Nat) : Nat → Prop
  | here : Way g v v
  | step {u x : Nat} : Way g v u → x ∈ succs g u → Way g v x
theorem Way.lt {g : List (List Int)} (h : okG g = true) {v x : Nat} (hv : v < g.length) (hw : Way g v x) : x < g.length := by
  cases hw with
  | here => exact hv
  | step _ hx => exact succs_lt h hx
theorem Way.cons {g : List (List Int)} {v u x : Nat} (h : u ∈ succs g v) (hw : Way g u x) : Way g v x := by
  induction hw with
  | here => exact .step .here h
  | step _ hx ih => exact .step ih hx

/-- What holds in a search at every time. -/
structure Seen (g : List (List Int)) (v : Nat) (s : Dfs) : Prop where
  way : ∀ x, s.vis x = true → Way g v x
  who : ∀ x, s.vis x = true ↔ x ∈ s.path ∨ x ∈ s.out
  shut : ∀ u ∈ s.out, ∀ x ∈ succs g u, s.vis x = true
  start : s.vis v = true
theorem Seen.step {g : List (List Int)} {v : Nat} {s : Dfs} (h : Seen g v s) : Seen g v (s.step g) := by
  obtain ⟨vis, path, out⟩ := s
  cases path with
  | nil => rw [Dfs.step_nil rfl]; exact h
  | cons u p =>
    have hw := h.way
    have hq := h.who
    have hs := h.shut
    have ht := h.start
    simp only at hw hq hs ht
    cases hf : (succs g u).find? (fun x => !vis x) with
    | none =>
      rw [Dfs.step_pop hf]
      refine ⟨hw, fun x => ?_, fun y hy x hx => ?_, ht⟩
      · show vis x = true ↔ x ∈ p ∨ x ∈ out ++ [u]
        rw [hq x]
        simp only [List.mem_cons, List.mem_append, List.mem_nil_iff, or_false]
        constructor
        · rintro ((h | h) | h)
          · exact .inr (.inr h)
          · exact .inl h
          · exact .inr (.inl h)
        · rintro (h | h | h)
          · exact .inl (.inr h)
          · exact .inr h
          · exact .inl (.inl h)
      · rcases List.mem_append.1 hy with hy | hy
        · exact hs y hy x hx
        · rw [List.mem_singleton.1 hy] at hx
          have := List.find?_eq_none.1 hf x hx
          simpa using this
    | some z =>
      rw [Dfs.step_push hf]
      have hz := List.mem_of_find?_eq_some hf
      have hu := (hq u).2 (.inl (List.mem_cons_self ..))
      refine ⟨fun x hx => ?_, fun x => ?_, fun y hy x hx => ?_, ?_⟩
      · have hx : (vis x || x == z) = true := hx
        rw [Bool.or_eq_true] at hx
        rcases hx with hx | hx
        · exact hw x hx
        · obtain rfl : x = z := by simpa using hx
          exact .step (hw u hu) hz
      · show (vis x || x == z) = true ↔ x ∈ z :: u :: p ∨ x ∈ out
        rw [Bool.or_eq_true, hq x]
        simp only [List.mem_cons, beq_iff_eq]
        constructor
        · rintro ((h | h) | h)
          · exact .inl (.inr h)
          · exact .inr h
          · exact .inl (.inl h)
        · rintro ((h | h) | h)
          · exact .inr h
          · exact .inl (.inl h)
          · exact .inl (.inr h)
      · show (vis x || x == z) = true
        rw [hs y hy x hx]; rfl
      · show (vis v || v == z) = true
        rw [ht]; rfl
theorem Seen.run {g : List (List Int)} {v : Nat} : ∀ (k : Nat) (s : Dfs), Seen g v s → Seen g v (Dfs.run g k s)
  | 0, _, h => h
  | k + 1, _, h => Seen.run k _ h.step
theorem Seen.init (g : List (List Int)) (v : Nat) : Seen g v (Dfs.init v) :=
  ⟨fun x hx => by
    obtain rfl : x = v := by simpa [Dfs.init] using hx
    exact .here, fun x => by simp [Dfs.init], fun u hu => (by cases hu), by simp [Dfs.init]⟩
theorem post_way {g : List (List Int)} (h : okG g = true) {v : Nat} (hv : v < g.length) (x : Nat) : x ∈ post g v ↔ Way g v x := by
  have hS : Seen g v (Dfs.last g v) := Seen.run _ _ (Seen.init g v)
  have hd := Dfs.last_done h hv
  have who : ∀ x, (Dfs.last g v).vis x = true ↔ x ∈ post g v := fun x => by
    rw [hS.who x, hd]
    unfold post
    simp
  refine ⟨fun hx => hS.way x ((who x).2 hx), fun hw => (who x).1 ?_⟩
  induction hw with
  | here => exact hS.start
  | step _ hx ih => exact hS.shut _ ((who _).1 ih) _ hx
theorem way_rev {g : List (List Int)} (h : okG g = true) {a b : Nat} (ha : a < g.length) (hw : Way g a b) : Way (rev g) b a := by
  induction hw with
  | here => exact .here
  | @step u x hw hx ih => exact Way.cons ((succs_rev h (succs_lt h hx)).2 ⟨hw.lt h ha, hx⟩) ih
theorem way_back {g : List (List Int)} (h : okG g = true) {a b : Nat} (hb : b < g.length) (hw : Way (rev g) b a) : Way g a b := by
  induction hw with
  | here => exact .here
  | @step u x hw hx ih =>
    have hu : u < g.length := by have := hw.lt (rev_ok g) (by rw [rev_len]; exact hb); rwa [rev_len] at this
    exact Way.cons ((succs_rev h hu).1 hx).2 ih
/-- Reachability turned round. -/
theorem post_rev {g : List (List Int)} (h : okG g = true) {a b : Nat} (ha : a < g.length) (hb : b < g.length) : decide (b ∈ post g a) = decide (a ∈ post (rev g) b) := by
  refine decide_eq_decide.2 ?_
  rw [post_way h ha, post_way (rev_ok g) (by rw [rev_len]; exact hb)]
  exact ⟨way_rev h ha, way_back h hb⟩
end Go.Proofs.Ytmopnceglnoncaa

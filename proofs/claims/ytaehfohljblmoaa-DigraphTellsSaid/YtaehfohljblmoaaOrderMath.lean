/-
  Layer 6 (digraph): the order in which a search leaves its nodes.
-/
import Derived.Test.YtaehfohljblmoaaReachMath
namespace Go.Proofs.Ytaehfohljblmoaa
open Go.RowKit

/-- Each on the path follows the one under it. -/
def Chain (g : List (List Int)) : List Nat → Prop
  | [] => True
  | [_] => True
  | u :: p :: r => u ∈ succs g p ∧ Chain g (p :: r)
theorem chain_way {g : List (List Int)} : ∀ (u : Nat) (p : List Nat), Chain g (u :: p) → ∀ x ∈ u :: p, Way g x u
  | u, [], _, x, hx => by rw [List.mem_singleton.1 hx]; exact .here
  | u, p :: r, h, x, hx => by
    rcases List.mem_cons.1 hx with rfl | hx
    · exact .here
    · exact .step (chain_way p r h.2 x hx) h.1
theorem Chain.tail {g : List (List Int)} {u : Nat} : ∀ {p : List Nat}, Chain g (u :: p) → Chain g p
  | [], _ => trivial
  | _ :: _, h => h.2
/-- What holds of the order in a search at every time. -/
structure Ord (g : List (List Int)) (v : Nat) (s : Dfs) : Prop where
  seen : Seen g v s
  nd : (s.out ++ s.path).Nodup
  chain : Chain g s.path
  foot : (s.path ≠ [] ∧ s.path.getLast? = some v) ∨ (s.path = [] ∧ s.out.getLast? = some v)
  before : ∀ a b x, s.out = a ++ x :: b → x = v ∨ ∃ y, x ∈ succs g y ∧ (y ∈ b ∨ y ∈ s.path)
  after : ∀ a b m, s.out = a ++ m :: b → ∀ n ∈ succs g m, n ∈ a ∨ Way g n m
theorem snoc_cut {α : Type} {l a b : List α} {u x : α} (h : l ++ [u] = a ++ x :: b) : (b = [] ∧ x = u ∧ a = l) ∨ ∃ c, b = c ++ [u] ∧ l = a ++ x :: c := by
  rcases List.eq_nil_or_concat b with rfl | ⟨c, y, rfl⟩
  · have := List.append_inj' h rfl
    refine .inl ⟨rfl, ?_, this.1.symm⟩
    have h2 := this.2
    simp at h2
    exact h2.symm
  · rw [List.concat_eq_append, ← List.cons_append, ← List.append_assoc] at h
    have := List.append_inj' h rfl
    have h2 := this.2
    simp at h2
    exact .inr ⟨c, by rw [h2, List.concat_eq_append], this.1⟩
theorem Ord.step {g : List (List Int)} {v : Nat} {s : Dfs} (h : Ord g v s) : Ord g v (s.step g) := by
  have hse := h.seen.step
  obtain ⟨vis, path, out⟩ := s
  cases path with
  | nil => rw [Dfs.step_nil rfl]; exact h
  | cons u p =>
    have hq := h.seen.who
    have hn := h.nd
    have hc := h.chain
    have hf := h.foot
    have hb := h.before
    have ha := h.after
    simp only at hq hn hc hf hb ha
    have hft := hf.resolve_right (fun c => by cases c.1)
    clear hf
    cases hfi : (succs g u).find? (fun x => !vis x) with
    | none =>
      rw [Dfs.step_pop hfi] at hse ⊢
      have hall : ∀ x ∈ succs g u, vis x = true := fun x hx => by
        have := List.find?_eq_none.1 hfi x hx
        simpa using this
      refine ⟨hse, ?_, hc.tail, ?_, fun a b x he => ?_, fun a b m he n hm => ?_⟩
      · show (out ++ [u] ++ p).Nodup
        rw [List.append_assoc]
        exact hn
      · cases p with
        | nil =>
          refine .inr ⟨rfl, ?_⟩
          have := hft.2
          simp at this
          simp [this]
        | cons p r =>
          refine .inl ⟨by simp, ?_⟩
          have := hft.2
          rw [List.getLast?_cons_cons] at this
          exact this
      · rcases snoc_cut he with ⟨rfl, rfl, rfl⟩ | ⟨c, rfl, he2⟩
        · cases p with
          | nil =>
            have := hft.2
            simp at this
            exact .inl this
          | cons p r => exact .inr ⟨p, hc.1, .inr (List.mem_cons_self ..)⟩
        · rcases hb a c x he2 with h1 | ⟨y, h1, h2⟩
          · exact .inl h1
          · refine .inr ⟨y, h1, ?_⟩
            rcases h2 with h2 | h2
            · exact .inl (List.mem_append_left _ h2)
            · rcases List.mem_cons.1 h2 with rfl | h2
              · exact .inl (by simp)
              · exact .inr h2
      · rcases snoc_cut he with ⟨rfl, rfl, rfl⟩ | ⟨c, rfl, he2⟩
        · rcases (hq n).1 (hall n hm) with h1 | h1
          · exact .inr (chain_way _ _ hc n h1)
          · exact .inl h1
        · exact ha a c m he2 n hm
    | some z =>
      rw [Dfs.step_push hfi] at hse ⊢
      have hz := List.mem_of_find?_eq_some hfi
      have hz2 : vis z = false := by have := List.find?_some hfi; simpa using this
      have hz3 : ¬ (z ∈ u :: p ∨ z ∈ out) := fun c => by rw [(hq z).2 c] at hz2; cases hz2
      refine ⟨hse, ?_, ⟨hz, hc⟩, .inl ⟨by simp, ?_⟩, fun a b x he => ?_, fun a b m he n hm => ha a b m he n hm⟩
      · show (out ++ z :: u :: p).Nodup
        have hn' := List.nodup_append.1 hn
        refine List.nodup_append.2 ⟨hn'.1, List.nodup_cons.2 ⟨fun c => hz3 (.inl c), hn'.2.1⟩, fun x hx y hy => ?_⟩
        rcases List.mem_cons.1 hy with rfl | hy
        · rintro rfl; exact hz3 (.inr hx)
        · exact hn'.2.2 x hx y hy
      · rw [List.getLast?_cons_cons]; exact hft.2
      · rcases hb a b x he with h1 | ⟨y, h1, h2⟩
        · exact .inl h1
        · exact .inr ⟨y, h1, h2.imp id (fun h => List.mem_cons_of_mem _ h)⟩
theorem Ord.run {g : List (List Int)} {v : Nat} : ∀ (k : Nat) (s : Dfs), Ord g v s → Ord g v (Dfs.run g k s)
  | 0, _, h => h
  | k + 1, _, h => Ord.run k _ h.step
theorem Ord.init (g : List (List Int)) (v : Nat) : Ord g v (Dfs.init v) :=
  ⟨Seen.init g v, by simp [Dfs.init], trivial, .inl ⟨by simp [Dfs.init], by simp [Dfs.init]⟩, fun a b x h => by simp [Dfs.init] at h, fun a b m h => by simp [Dfs.init] at h⟩

theorem idx_in {l r : List Nat} {x : Nat} (h : x ∈ l) : (l ++ r).idxOf x = l.idxOf x := by rw [List.idxOf_append, if_pos h]
theorem idx_out {l r : List Nat} {x : Nat} (h : x ∉ l) : (l ++ r).idxOf x = r.idxOf x + l.length := by rw [List.idxOf_append, if_neg h]
theorem rev_cut (a b : List Nat) (x : Nat) : (a ++ x :: b).reverse = b.reverse ++ x :: a.reverse := by simp
section
variable {g : List (List Int)} (hok : okG g = true) {v : Nat} (hv : v < g.length)
include hok hv
theorem post_ord : (post g v).Nodup ∧ (post g v).getLast? = some v ∧ (∀ a b x, post g v = a ++ x :: b → x = v ∨ ∃ y, x ∈ succs g y ∧ y ∈ b) ∧ ∀ a b m, post g v = a ++ m :: b → ∀ n ∈ succs g m, n ∈ a ∨ Way g n m := by
  have h : Ord g v (Dfs.last g v) := Ord.run _ _ (Ord.init g v)
  have hd := Dfs.last_done hok hv
  have hn := h.nd
  rw [hd, List.append_nil] at hn
  refine ⟨hn, (h.foot.resolve_left (fun c => c.1 hd)).2, fun a b x he => ?_, h.after⟩
  rcases h.before a b x he with h1 | ⟨y, h1, h2⟩
  · exact .inl h1
  · rw [hd] at h2
    exact .inr ⟨y, h1, h2.resolve_right (fun c => by cases c)⟩
/-- The place of a node in the reversed postorder. -/
theorem rpost_first : (post g v).reverse.head? = some v := by
  rw [List.head?_reverse]; exact (post_ord hok hv).2.1
theorem rpost_nodup : (post g v).reverse.Nodup := by
  exact List.pairwise_reverse.2 ((post_ord hok hv).1.imp fun h => Ne.symm h)
theorem rpost_before {x : Nat} (hx : x ∈ post g v) (hne : x ≠ v) : ∃ y, y ∈ post g v ∧ x ∈ succs g y ∧ (post g v).reverse.idxOf y < (post g v).reverse.idxOf x := by
  obtain ⟨hn, -, hb, -⟩ := post_ord hok hv
  obtain ⟨a, b, e⟩ := List.append_of_mem hx
  obtain ⟨y, h1, h2⟩ := (hb a b x e).resolve_left hne
  refine ⟨y, by rw [e]; simp [h2], h1, ?_⟩
  rw [e] at hn ⊢
  have hxb : x ∉ b := fun c => by
    have := (List.nodup_append.1 hn).2.1
    exact (List.nodup_cons.1 this).1 c
  rw [rev_cut, idx_in (x := y) (by simpa using h2), idx_out (x := x) (by simpa using hxb)]
  have := List.idxOf_lt_length_of_mem (show y ∈ b.reverse by simpa using h2)
  omega
/-- An edge that does not go forward lies on a cycle. -/
theorem rpost_back {m n : Nat} (hm : m ∈ post g v) (hs : n ∈ succs g m) (hle : (post g v).reverse.idxOf n ≤ (post g v).reverse.idxOf m) : Way g n m := by
  obtain ⟨hn, -, -, ha⟩ := post_ord hok hv
  obtain ⟨a, b, e⟩ := List.append_of_mem hm
  refine (ha a b m e n hs).resolve_left (fun c => ?_)
  rw [e] at hn hle
  have h1 := List.nodup_append.1 hn
  have hmb : m ∉ b := fun c => (List.nodup_cons.1 h1.2.1).1 c
  have hnb : n ∉ b := fun c2 => h1.2.2 n c n (List.mem_cons_of_mem _ c2) rfl
  have hnm : n ≠ m := fun c2 => h1.2.2 n c m (List.mem_cons_self ..) c2
  rw [rev_cut, idx_out (x := m) (by simpa using hmb), idx_out (x := n) (by simpa using hnb)] at hle
  have e1 : (m == n) = false := by simpa using fun c => hnm c.symm
  rw [List.idxOf_cons, List.idxOf_cons, e1] at hle
  simp at hle
  omega
/-- Where every edge goes forward, so does every path. -/
theorem rpost_way (hf : ∀ m n, m ∈ post g v → n ∈ succs g m → (post g v).reverse.idxOf m < (post g v).reverse.idxOf n) {x y : Nat} (hx : x ∈ post g v) (hw : Way g x y) : y ∈ post g v ∧ (post g v).reverse.idxOf x ≤ (post g v).reverse.idxOf y := by
  induction hw with
  | here => exact ⟨hx, Nat.le_refl _⟩
  | @step u z hw hz ih =>
    refine ⟨(post_way hok hv z).2 (((post_way hok hv u).1 ih.1).step hz), ?_⟩
    have := hf u z ih.1 hz
    omega
/-- Back edges and cycles: one is there where the other is. -/
theorem back_cycle : (∃ m n, m ∈ post g v ∧ n ∈ succs g m ∧ (post g v).reverse.idxOf n ≤ (post g v).reverse.idxOf m) ↔ ∃ m n, m ∈ post g v ∧ n ∈ succs g m ∧ Way g n m := by
  constructor
  · rintro ⟨m, n, h1, h2, h3⟩
    exact ⟨m, n, h1, h2, rpost_back hok hv h1 h2 h3⟩
  · rintro ⟨m, n, h1, h2, h3⟩
    refine Classical.byContradiction fun hno => ?_
    have hf : ∀ m n, m ∈ post g v → n ∈ succs g m → (post g v).reverse.idxOf m < (post g v).reverse.idxOf n := fun m n a b => by
      have : ¬ ((post g v).reverse.idxOf n ≤ (post g v).reverse.idxOf m) := fun c => hno ⟨m, n, a, b, c⟩
      omega
    have hn := (post_way hok hv n).2 (((post_way hok hv m).1 h1).step h2)
    have h4 := (rpost_way hok hv hf hn h3).2
    have h5 := hf m n h1 h2
    omega
end
end Go.Proofs.Ytaehfohljblmoaa

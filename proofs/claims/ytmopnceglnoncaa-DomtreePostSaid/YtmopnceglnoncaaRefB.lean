/-
  Layer 8 (domtree), the reference: Build.
-/
import Derived.Test.YtmopnceglnoncaaDomM
import Derived.Test.YtmopnceglnoncaaReached
import Derived.Test.YtmopnceglnoncaaCommon
namespace Go.Proofs.Ytmopnceglnoncaa
open Go.RowKit

/-- x can be reached from e without a; a number that is no node is no condition. -/
inductive AvZ (g : List (List Int)) (e : Nat) (a : Int) : Nat → Prop
  | root : (e : Int) ≠ a → AvZ g e a e
  | step {u x : Nat} : AvZ g e a u → x ∈ succs g u → (x : Int) ≠ a → AvZ g e a x
theorem avZ_nat {g : List (List Int)} {e a x : Nat} : AvZ g e (a : Int) x ↔ AvG g e a x := by
  constructor
  · intro h
    induction h with
    | root h => exact .root (fun c => h (by rw [c]))
    | step _ hx hn ih => exact .step ih hx (fun c => hn (by rw [c]))
  · intro h
    induction h with
    | root h => exact .root (fun c => h (by omega))
    | step _ hx hn ih => exact .step ih hx (fun c => hn (by omega))
theorem avZ_none {g : List (List Int)} {e x : Nat} : AvZ g e (-1) x ↔ Way g e x := by
  constructor
  · intro h
    induction h with
    | root _ => exact .here
    | step _ hx _ ih => exact .step ih hx
  · intro h
    induction h with
    | here => exact .root (by omega)
    | step _ hx ih => exact .step ih hx (by omega)

/-- The search of 'without': l is its list, k places are done, and of the next one the first j successors. -/
structure Bfs (g : List (List Int)) (e : Nat) (a : Int) (l : List Nat) (k j : Nat) : Prop where
  nodup : l.Nodup
  av : ∀ x ∈ l, AvZ g e a x
  first : e ∈ l
  done : ∀ i u, i < k → l[i]? = some u → ∀ x ∈ succs g u, (x : Int) ≠ a → x ∈ l
  part : ∀ u, l[k]? = some u → ∀ s : Nat, (s : Int) ∈ (g.getD u []).take j → (s : Int) ≠ a → s ∈ l
section
variable {g : List (List Int)} {e : Nat} {a : Int} {l : List Nat} {k j : Nat}
theorem AvZ.lt (h : okG g = true) (he : e < g.length) {x : Nat} (k : AvZ g e a x) : x < g.length := by
  cases k with
  | root _ => exact he
  | step _ hx _ => exact succs_lt h hx
theorem Bfs.start (he : (e : Int) ≠ a) : Bfs g e a [e] 0 0 :=
  ⟨by simp, fun x hx => by rw [List.mem_singleton.1 hx]; exact .root he, by simp, fun i u hi => by omega, fun u hu s hs => by simp at hs⟩
theorem Bfs.bnd (B : Bfs g e a l k j) (h : okG g = true) (he : e < g.length) : ∀ x ∈ l, x < g.length := fun x hx => (B.av x hx).lt h he
theorem Bfs.len (B : Bfs g e a l k j) (h : okG g = true) (he : e < g.length) : l.length ≤ g.length := nodup_len B.nodup (B.bnd h he)
theorem take_mem {row : List Int} {j : Nat} {s : Int} (hs : row[j]? = some s) {t : Int} (h : t ∈ row.take (j + 1)) : t ∈ row.take j ∨ t = s := by
  rw [List.take_add_one, hs] at h
  rcases List.mem_append.1 h with h | h
  · exact .inl h
  · exact .inr (by simpa using h)
/-- A successor that is a, or has been seen. -/
theorem Bfs.skip (B : Bfs g e a l k j) {u s : Nat} (hu : l[k]? = some u) (hs : (g.getD u [])[j]? = some (s : Int)) (h : (s : Int) = a ∨ s ∈ l) : Bfs g e a l k (j + 1) := by
  refine ⟨B.nodup, B.av, B.first, B.done, fun u' hu' t ht hn => ?_⟩
  rw [hu] at hu'
  injection hu' with hu'
  subst hu'
  rcases take_mem hs ht with h1 | h1
  · exact B.part u hu t h1 hn
  · have : t = s := by omega
    subst this
    exact h.resolve_left hn
/-- A new one. -/
theorem Bfs.take (B : Bfs g e a l k j) (h : okG g = true) {u s : Nat} (hu : l[k]? = some u) (hs : (g.getD u [])[j]? = some (s : Int)) (hn : (s : Int) ≠ a) (hm : s ∉ l) : Bfs g e a (l ++ [s]) k (j + 1) := by
  have hk : k < l.length := (List.getElem?_eq_some_iff.1 hu).1
  have hin : s ∈ succs g u := by
    unfold succs
    exact List.mem_map.2 ⟨(s : Int), List.mem_of_getElem? hs, rfl⟩
  have hul : u ∈ l := List.mem_of_getElem? hu
  refine ⟨?_, fun x hx => ?_, by simp [B.first], fun i v hi hv x hx hne => ?_, fun u' hu' t ht hne => ?_⟩
  · rw [List.nodup_append]
    exact ⟨B.nodup, by simp, fun x hx y hy => by rw [List.mem_singleton.1 hy]; rintro rfl; exact hm hx⟩
  · rcases List.mem_append.1 hx with hx | hx
    · exact B.av x hx
    · rw [List.mem_singleton.1 hx]; exact .step (B.av u hul) hin hn
  · rw [List.getElem?_append_left (by omega)] at hv
    exact List.mem_append_left _ (B.done i v hi hv x hx hne)
  · rw [List.getElem?_append_left hk, hu] at hu'
    injection hu' with hu'
    subst hu'
    rcases take_mem hs ht with h1 | h1
    · exact List.mem_append_left _ (B.part u hu t h1 hne)
    · have : t = s := by omega
      subst this
      simp
/-- A place is done. -/
theorem Bfs.next (B : Bfs g e a l k j) {u : Nat} (hu : l[k]? = some u) (hj : (g.getD u []).length ≤ j) (h : okG g = true) : Bfs g e a l (k + 1) 0 := by
  refine ⟨B.nodup, B.av, B.first, fun i v hi hv x hx hne => ?_, fun u hu s hs => by simp at hs⟩
  by_cases c : i < k
  · exact B.done i v c hv x hx hne
  · have : i = k := by omega
    subst this
    rw [hu] at hv
    injection hv with hv
    subst hv
    refine B.part u hu x ?_ hne
    rw [List.take_of_length_le hj]
    unfold succs at hx
    obtain ⟨s, hs, e1⟩ := List.mem_map.1 hx
    obtain ⟨-, b, rfl, -⟩ := row_nat h hs
    rw [← e1]
    exact hs
theorem Bfs.all (B : Bfs g e a l l.length 0) : ∀ x, x ∈ l ↔ AvZ g e a x := by
  refine fun x => ⟨B.av x, fun h => ?_⟩
  induction h with
  | root _ => exact B.first
  | step _ hx hn ih =>
    obtain ⟨i, hi⟩ := List.mem_iff_getElem?.1 ih
    exact B.done i _ (List.getElem?_eq_some_iff.1 hi).1 hi _ hx hn
end

theorem filt_le {α : Type} (p q : α → Bool) : ∀ (l : List α), (∀ x ∈ l, p x = true → q x = true) → (l.filter p).length ≤ (l.filter q).length
  | [], _ => Nat.le_refl _
  | x :: l, h => by
    have ih := filt_le p q l (fun y hy => h y (List.mem_cons_of_mem _ hy))
    have hx := h x (by simp)
    cases hp : p x with
    | true => rw [List.filter_cons_of_pos hp, List.filter_cons_of_pos (hx hp), List.length_cons, List.length_cons]; omega
    | false =>
      rw [List.filter_cons_of_neg (by simp [hp])]
      cases hq : q x with
      | true => rw [List.filter_cons_of_pos hq, List.length_cons]; omega
      | false => rw [List.filter_cons_of_neg (by simp [hq])]; exact ih
theorem filt_lt {α : Type} (p q : α → Bool) : ∀ (l : List α), (∀ x ∈ l, p x = true → q x = true) → ∀ y ∈ l, q y = true → p y = false → (l.filter p).length < (l.filter q).length
  | [], _, y, hy, _, _ => by cases hy
  | x :: l, h, y, hy, hq, hp => by
    have hx := h x (by simp)
    have hl := fun z hz => h z (List.mem_cons_of_mem x hz)
    rcases List.mem_cons.1 hy with rfl | hy
    · rw [List.filter_cons_of_pos hq, List.filter_cons_of_neg (by simp [hp]), List.length_cons]
      have := filt_le p q l hl
      omega
    · have ih := filt_lt p q l hl y hy hq hp
      cases hpx : p x with
      | true => rw [List.filter_cons_of_pos hpx, List.filter_cons_of_pos (hx hpx), List.length_cons, List.length_cons]; omega
      | false =>
        rw [List.filter_cons_of_neg (by simp [hpx])]
        cases hqx : q x with
        | true => rw [List.filter_cons_of_pos hqx, List.length_cons]; omega
        | false => rw [List.filter_cons_of_neg (by simp [hqx])]; exact ih

/-- a strictly above b. -/
def sA (L : List Nat) (dm : Nat → Nat) (a b : Nat) : Bool := decide (a ∈ L) && decide (b ∈ L) && decide (b ≠ a) && decide (a ∈ pth (bf L dm) (bd L dm) b)
/-- How many of the first m numbers lie strictly above b. -/
def cA (L : List Nat) (dm : Nat → Nat) (m b : Nat) : Nat := ((List.range m).filter fun a => sA L dm a b).length
/-- Whom a is strictly above, of the first m numbers. -/
def dA (L : List Nat) (dm : Nat → Nat) (m a : Nat) : List Nat := (List.range m).filter fun b => sA L dm a b
/-- The deepest above b of the first m numbers. -/
def bst (L : List Nat) (dm : Nat → Nat) (n e b : Nat) : Nat → Int
  | 0 => if b = e then (e : Int) else -1
  | m + 1 => if sA L dm m b = true ∧ (bst L dm n e b m < 0 ∨ cA L dm n m > cA L dm n (bst L dm n e b m).toNat) then (m : Int) else bst L dm n e b m
section
variable {g : List (List Int)} {e : Nat} {L P : List Nat} {dm : Nat → Nat}
theorem cA_succ (L : List Nat) (dm : Nat → Nat) (m b : Nat) : cA L dm (m + 1) b = cA L dm m b + (if sA L dm m b = true then 1 else 0) := by
  unfold cA
  rw [List.range_succ, List.filter_append, List.length_append]
  congr 1
  by_cases h : sA L dm m b = true
  · simp [h]
  · simp [h]
theorem cA_le (L : List Nat) (dm : Nat → Nat) (m b : Nat) : cA L dm m b ≤ m := by
  unfold cA
  have := List.length_filter_le (fun a => sA L dm a b) (List.range m)
  rwa [List.length_range] at this
theorem dA_succ (L : List Nat) (dm : Nat → Nat) (m a : Nat) : dA L dm (m + 1) a = dA L dm m a ++ (if sA L dm a m = true then [m] else []) := by
  unfold dA
  rw [List.range_succ, List.filter_append]
  congr 1
  by_cases h : sA L dm a m = true
  · rw [if_pos h, List.filter_cons_of_pos h]; rfl
  · rw [if_neg h, List.filter_cons_of_neg (by simpa using h)]; rfl
theorem dA_len (L : List Nat) (dm : Nat → Nat) (m a : Nat) : (dA L dm m a).length ≤ m := by
  unfold dA
  have := List.length_filter_le (fun b => sA L dm a b) (List.range m)
  rwa [List.length_range] at this
theorem dA_mem {m a b : Nat} : b ∈ dA L dm m a ↔ b < m ∧ sA L dm a b = true := by
  unfold dA
  rw [List.mem_filter, List.mem_range]
theorem dA_nodup (L : List Nat) (dm : Nat → Nat) (m a : Nat) : (dA L dm m a).Nodup := by
  unfold dA
  exact List.Nodup.sublist List.filter_sublist List.nodup_range
theorem sA_iff {a b : Nat} : sA L dm a b = true ↔ a ∈ L ∧ b ∈ L ∧ b ≠ a ∧ a ∈ pth (bf L dm) (bd L dm) b := by
  unfold sA
  simp only [Bool.and_eq_true, decide_eq_true_eq, and_assoc]
theorem sA_out {a : Nat} (h : a ∉ L) (b : Nat) : sA L dm a b = false := by
  cases c : sA L dm a b with
  | false => rfl
  | true => exact absurd (sA_iff.1 c).1 h
/-- Above another one: fewer are above. -/
theorem Bt.cA_lt (B : Bt g e L P dm) {x y : Nat} (hy : y ∈ L) (hx : x ∈ pth (bf L dm) (bd L dm) y) (hne : y ≠ x) : cA L dm g.length x < cA L dm g.length y := by
  have T := B.tree
  have hyn := B.sp.tail.bnd y hy
  have hyf := (Bt.in_ (L := L) (dm := dm) y).2 hy
  have hm := T.mem _ y rfl hyn hyf x hx
  have hxL : x ∈ L := (Bt.in_ x).1 hm.2.1
  unfold cA
  refine filt_lt _ _ _ (fun a _ ha => ?_) x (List.mem_range.2 hm.1) (sA_iff.2 ⟨hxL, hy, hne, hx⟩) ?_
  · obtain ⟨h1, _, h3, h4⟩ := sA_iff.1 ha
    refine sA_iff.2 ⟨h1, hy, fun c => ?_, hm.2.2.2.2 a h4⟩
    subst c
    have := (T.mem _ x rfl hm.1 hm.2.1 y h4).2.2.1
    rcases hm.2.2.2.1 with h | h
    · exact hne h.symm
    · omega
  · cases c : sA L dm x x with
    | false => rfl
    | true => exact absurd rfl (sA_iff.1 c).2.2.1
theorem Bt.sA_root (B : Bt g e L P dm) (a : Nat) : sA L dm a e = false := by
  cases c : sA L dm a e with
  | false => rfl
  | true =>
    obtain ⟨_, _, h3, h4⟩ := sA_iff.1 c
    rw [B.tree.ptop, List.mem_singleton] at h4
    exact absurd h4.symm h3
theorem bst_inv (L : List Nat) (dm : Nat → Nat) (n e : Nat) {b : Nat} (hb : b ≠ e) : ∀ m, (bst L dm n e b m = -1 ∧ ∀ a, a < m → sA L dm a b = false) ∨ ∃ r : Nat, bst L dm n e b m = (r : Int) ∧ r < m ∧ sA L dm r b = true ∧ ∀ a, a < m → sA L dm a b = true → cA L dm n a ≤ cA L dm n r
  | 0 => .inl ⟨by unfold bst; rw [if_neg hb], fun a ha => by omega⟩
  | m + 1 => by
    unfold bst
    rcases bst_inv L dm n e hb m with ⟨h1, h2⟩ | ⟨r, h1, h2, h3, h4⟩
    · by_cases hs : sA L dm m b = true
      · rw [if_pos ⟨hs, .inl (by rw [h1]; omega)⟩]
        refine .inr ⟨m, rfl, by omega, hs, fun a ha hsa => ?_⟩
        by_cases c : a = m
        · rw [c]; exact Nat.le_refl _
        · rw [h2 a (by omega)] at hsa; cases hsa
      · rw [if_neg (fun c => hs c.1)]
        refine .inl ⟨h1, fun a ha => ?_⟩
        by_cases c : a = m
        · rw [c]; simpa using hs
        · exact h2 a (by omega)
    · rw [h1, Int.toNat_natCast]
      by_cases hs : sA L dm m b = true ∧ ((r : Int) < 0 ∨ cA L dm n m > cA L dm n r)
      · rw [if_pos hs]
        have hc := hs.2.resolve_left (by omega)
        refine .inr ⟨m, rfl, by omega, hs.1, fun a ha hsa => ?_⟩
        by_cases c : a = m
        · rw [c]; exact Nat.le_refl _
        · have := h4 a (by omega) hsa; omega
      · rw [if_neg hs]
        refine .inr ⟨r, rfl, by omega, h3, fun a ha hsa => ?_⟩
        by_cases c : a = m
        · subst c
          exact Nat.le_of_not_lt fun k => hs ⟨hsa, .inr k⟩
        · exact h4 a (by omega) hsa
theorem bst_skip {n b m : Nat} (h : sA L dm m b = false) : bst L dm n e b (m + 1) = bst L dm n e b m := by
  rw [bst, if_neg (fun c => by rw [h] at c; cases c.1)]
/-- At the end: the immediate dominator. -/
theorem Bt.bst_end (B : Bt g e L P dm) (b : Nat) (hb : b < g.length) : bst L dm g.length e b g.length = bf L dm b := by
  have T := B.tree
  by_cases hbe : b = e
  · subst hbe
    have : ∀ m, bst L dm g.length b b m = (b : Int) := fun m => by
      induction m with
      | zero => unfold bst; rw [if_pos rfl]
      | succ m ih => rw [bst_skip (B.sA_root m), ih]
    rw [this, T.root]
  · by_cases hL : b ∈ L
    · obtain ⟨u, h1, h2, h3, h4, h5, h6, h7⟩ := T.node hb ((Bt.in_ b).2 hL) hbe
      have huL : u ∈ L := (Bt.in_ u).1 h4
      have hup : u ∈ pth (bf L dm) (bd L dm) b := by
        obtain ⟨q, hq⟩ := pth_head (bf L dm) (bd L dm) u
        rw [h7, hq]; simp
      have hus : sA L dm u b = true := sA_iff.2 ⟨huL, hL, fun c => h6 c.symm, hup⟩
      rcases bst_inv L dm g.length e hbe g.length with ⟨g1, g2⟩ | ⟨r, g1, g2, g3, g4⟩
      · rw [g2 u h3] at hus; cases hus
      · rw [g1, h1]
        obtain ⟨k1, _, k3, k4⟩ := sA_iff.1 g3
        rw [h7] at k4
        rcases List.mem_cons.1 k4 with k4 | k4
        · exact absurd k4.symm k3
        · by_cases c : u = r
          · rw [c]
          · have a1 := B.cA_lt huL k4 c
            have a2 := g4 u h3 hus
            omega
    · have h0 : ∀ a, sA L dm a b = false := fun a => by
        cases c : sA L dm a b with
        | false => rfl
        | true => exact absurd (sA_iff.1 c).2.1 hL
      have : ∀ m, bst L dm g.length e b m = -1 := fun m => by
        induction m with
        | zero => unfold bst; rw [if_neg hbe]
        | succ m ih => rw [bst_skip (h0 m), ih]
      rw [this]
      exact (Classical.byContradiction fun c => hL ((Bt.in_ b).1 (fun k => c k.symm)))
/-- Who is strictly below a: by reaching. -/
theorem Bt.sA_av (B : Bt g e L P dm) {a b : Nat} (ha : a ∈ L) : sA L dm a b = true ↔ b ≠ a ∧ b ∈ L ∧ ¬ AvG g e a b := by
  rw [sA_iff]
  constructor
  · rintro ⟨_, h2, h3, h4⟩; exact ⟨h3, h2, (B.dom h2 a).1 h4⟩
  · rintro ⟨h1, h2, h3⟩; exact ⟨ha, h2, h1, (B.dom h2 a).2 h3⟩
end
end Go.Proofs.Ytmopnceglnoncaa
namespace Go.Proofs.Ytmopnceglnoncaa
open Go.RowKit

theorem own_new1 (w : World) (base : Nat) (e : TypeId) (x : Int) (hb : base ≤ w.heap.size) : Own (w.alloc (.cells #[.int .i64 x] e)) base e .i64 (.slice (some ⟨w.heap.size, 0, none⟩) 1 1) [x] := by
  exact ⟨rfl, .inr ⟨w.heap.size, 1, #[.int .i64 x], rfl, hb, heap_alloc_new w _, Nat.le_refl _, by unfold maxLen; omega, rfl, rfl⟩⟩

set_option maxRecDepth 100000 in
set_option maxHeartbeats 8000000 in
theorem without_self (A : Option Addr) (c : Nat) (g : List (List Int)) (e : Nat) (w : World) (hg : RdL w A c g) (hok : codeG g = 0) :
    Calls Try.prog 35 #[.agg #[.slice A g.length c], .int .i64 (e : Nat), .int .i64 (e : Nat)] w fun en w' => (∃ D, en = .returned (.slice (some ⟨D, 0, none⟩) g.length g.length) ∧ OwnV w' w.heap.size 4 (.slice (some ⟨D, 0, none⟩) g.length g.length) (bz g.length [])) ∧ Below w.heap.size w w' := by
  obtain ⟨hokG, hN⟩ := code_ok hok
  have hc := hg.cap
  have hc9 : c ≤ 9223372036854775807 := by unfold maxLen at hc; omega
  obtain ⟨q, hq⟩ : ∃ q, w.heap.size = q := ⟨_, rfl⟩
  obtain ⟨w1, hw1⟩ : ∃ x, w.alloc (.cells #[.slice A g.length c] 24) = x := ⟨_, rfl⟩
  have hs1 : w1.heap.size = q + 1 := by rw [← hw1, World.size_alloc, hq]
  have hb1 : Below q w w1 := by rw [← hw1, ← hq]; exact (Below.refl _ _).alloc (Nat.le_refl _) _
  have hx1 : w1.cell? ⟨q, 0, none⟩ = some (.slice A g.length c) := by rw [← hw1, ← hq]; simp [go_sem]
  have hmk := run_made w1 39 4 (.bool false) 1 Try.underlying39 infoBool rfl (by omega) g.length (by omega)
  obtain ⟨w2, h2⟩ : ∃ x, w1.alloc (.cells (madeCells #[.bool false] g.length) 4) = x := ⟨_, rfl⟩
  have hD2 : OwnV w2 w1.heap.size 4 (.slice (some ⟨w1.heap.size, 0, none⟩) g.length g.length) (bz g.length []) := by
    rw [bz_nil, ← h2]
    exact own_madeV w1 4 (.bool false) g.length w1.heap.size (by unfold maxLen; omega) (Nat.le_refl _)
  have hb12 : Below q w w2 := by rw [← h2]; exact hb1.alloc (by omega) _
  have HZ := hide (And.intro (hD2.low (b := q) (by omega)) hb12)
  have t1 : ((e : Int) == (e : Int)) = true := by rw [beq_iff_eq]
  clear hg hok hb1 hb12 hc hokG hD2
  go_enter Try.func35, Try.ntmps35
  go_wp2_with fail
  go_ret
  rw [hq]
  rw [hs1] at HZ
  exact ⟨⟨_, rfl, HZ.out.1⟩, HZ.out.2⟩

set_option maxRecDepth 100000 in
set_option maxHeartbeats 8000000 in
theorem without_any (A : Option Addr) (c : Nat) (g : List (List Int)) (e : Nat) (a : Int) (w : World) (hg : RdL w A c g) (hok : codeG g = 0) (he : e < g.length) (hE : edges g ≤ 1000000) (hea : (e : Int) ≠ a) :
    Calls Try.prog 35 #[.agg #[.slice A g.length c], .int .i64 (e : Nat), .int .i64 a] w fun en w' => (∃ D l, en = .returned (.slice (some ⟨D, 0, none⟩) g.length g.length) ∧ (∀ x, x ∈ l ↔ AvZ g e a x) ∧ OwnV w' w.heap.size 4 (.slice (some ⟨D, 0, none⟩) g.length g.length) (bz g.length l)) ∧ Below w.heap.size w w' := by
  obtain ⟨hokG, hN⟩ := code_ok hok
  have hc := hg.cap
  have hc9 : c ≤ 9223372036854775807 := by unfold maxLen at hc; omega
  obtain ⟨q, hq⟩ : ∃ q, w.heap.size = q := ⟨_, rfl⟩
  obtain ⟨w1, hw1⟩ : ∃ x, w.alloc (.cells #[.slice A g.length c] 24) = x := ⟨_, rfl⟩
  have hs1 : w1.heap.size = q + 1 := by rw [← hw1, World.size_alloc, hq]
  have hb1 : Below q w w1 := by rw [← hw1, ← hq]; exact (Below.refl _ _).alloc (Nat.le_refl _) _
  have hx1 : w1.cell? ⟨q, 0, none⟩ = some (.slice A g.length c) := by rw [← hw1, ← hq]; simp [go_sem]
  have hmk := run_made w1 39 4 (.bool false) 1 Try.underlying39 infoBool rfl (by omega) g.length (by omega)
  obtain ⟨w2, h2⟩ : ∃ x, w1.alloc (.cells (madeCells #[.bool false] g.length) 4) = x := ⟨_, rfl⟩
  have hs2 : w2.heap.size = q + 1 + 1 := by rw [← h2, World.size_alloc, hs1]
  have hb12 : Below w1.heap.size w1 w2 := by rw [← h2]; exact (Below.refl _ _).alloc (Nat.le_refl _) _
  have hD2 : OwnV w2 w1.heap.size 4 (.slice (some ⟨w1.heap.size, 0, none⟩) g.length g.length) (bz g.length []) := by
    rw [bz_nil, ← h2]
    exact own_madeV w1 4 (.bool false) g.length w1.heap.size (by unfold maxLen; omega) (Nat.le_refl _)
  rw [hs1] at hD2
  have fe := hD2.freeAt e
  have ce := hD2.cellAt (bz_get [] he)
  have hD3 := hD2.set e (.bool true)
  rw [bz_set, List.nil_append] at hD3
  obtain ⟨w3, h3⟩ : ∃ x, w2.setCell ⟨q + 1, e, none⟩ (.bool true) = x := ⟨_, rfl⟩
  rw [h3] at hD3
  have hs3 : w3.heap.size = q + 1 + 1 := by rw [← h3, ← hs2]; simp [go_sem]
  have hF3 : Frm w2 w3 [q + 1] := by rw [← h3]; exact (Frm.refl w2 [q + 1]).setCell _ _ (.inl (by simp))
  obtain ⟨w4, h4⟩ : ∃ x, w3.alloc (.cells #[.int .i64 (e : Int)] 3) = x := ⟨_, rfl⟩
  have hb34 : Below w3.heap.size w3 w4 := by rw [← h4]; exact (Below.refl _ _).alloc (Nat.le_refl _) _
  have hs4 : w4.heap.size = q + 1 + 1 + 1 := by rw [← h4, World.size_alloc, hs3]
  have hL4 : Own w4 w3.heap.size 3 .i64 (.slice (some ⟨w3.heap.size, 0, none⟩) 1 1) [(e : Int)] := by
    rw [← h4]; exact own_new1 w3 w3.heap.size 3 (e : Int) (Nat.le_refl _)
  rw [hs3] at hL4
  have hD4 := hD3.below' hb34
  have hx3 : w3.cell? ⟨q, 0, none⟩ = some (.slice A g.length c) := by
    rw [hF3.cell (p := ⟨q, 0, none⟩) (by show q < _; omega) (by simp)]
    exact (hb12.cell (p := ⟨q, 0, none⟩) (lt_of_cell hx1)).trans hx1
  have hx4 := (hb34.cell (p := ⟨q, 0, none⟩) (lt_of_cell hx3)).trans hx3
  have hb4 : Below q w w4 := ((hb1.trans (hb12.mono (by omega))).trans (hF3.toBelow (fun x hx => by rw [List.mem_singleton.1 hx]; omega) (by omega))).trans (hb34.mono (by omega))
  have HB4 := hide hb4
  have HG := hide hg
  have HX4 := hide hx4
  have HS4 := hide hs4
  have HOK := hide (And.intro hokG (And.intro hE he))
  have HL4 := hide hL4
  have HD4 := hide hD4
  have HB0 := hide (Bfs.start (g := g) hea)
  have n1 : ((e : Int) == a) = false := beq_eq_false_iff_ne.2 hea
  have he' : (e : Int) < g.length := by omega
  clear hg hok hE hb1 hb12 hb34 hb4 hc hokG hea hL4 hD4 hD3 hD2 hF3 hx3 hx4
  go_enter Try.func35, Try.ntmps35
  go_wp2_with fail
  clear h2 h3 h4 hw1 hs1 hs2 hs3 hx1 hmk fe ce hs4
  go_loopw [8, 9] (fun lv z wr => ∃ (l : List Nat) (k : Nat), k ≤ l.length ∧ z = .int .i64 (k : Nat) ∧ Hid (Own wr (q + 1 + 1) 3 .i64 lv (ints l)) ∧ Hid (OwnV wr (q + 1) 4 (.slice (some ⟨q + 1, 0, none⟩) g.length g.length) (bz g.length l)) ∧ Hid (Bfs g e a l k 0) ∧ Hid (Below (q + 1) w4 wr)) (fun _ z _ => g.length - (intOf z).toNat)
  case atStart => exact ⟨[e], 0, by simp, rfl, HL4, HD4, HB0, hide (Below.refl _ _)⟩
  case round =>
    clear HL4 HD4 HB0 n1
    obtain ⟨wq, rfl⟩ : ∃ x, x = wr := ⟨_, rfl⟩
    obtain ⟨l, k, hk, rfl, HL, HD, HF, HB⟩ := hrel
    have hll : l.length ≤ g.length := HF.out.len HOK.out.1 HOK.out.2.2
    obtain ⟨Al, cl, rfl, hcl, hclm, -⟩ := HL.out.rd
    have HLQ := HL
    rw [ints_len] at hcl HLQ ⊢
    have hcl9 : cl ≤ 9223372036854775807 := by unfold maxLen at hclm; omega
    have HBW : Hid (Below q w wq) := hide (HB4.out.trans (HB.out.mono (by omega)))
    clear hclm
    by_cases hlt : k < l.length
    · have hlt' : (k : Int) < l.length := by omega
      obtain ⟨u, hu⟩ : ∃ u, l[k]? = some u := ⟨_, List.getElem?_eq_getElem hlt⟩
      have hun := HF.out.bnd HOK.out.1 HOK.out.2.2 u (List.mem_of_getElem? hu)
      have hun' : (u : Int) < g.length := by omega
      obtain ⟨row, hr0⟩ : ∃ r, g[u]? = some r := ⟨_, List.getElem?_eq_getElem hun⟩
      obtain ⟨b, off, B, d, rfl, hbl, hcell, hrow⟩ := HG.out.at hr0
      have c1 := (HBW.out.cell (p := ⟨b, off + u, none⟩) (by rw [← hq]; exact hbl)).trans hcell
      have c0 : wq.cell? ⟨q, 0, none⟩ = some (.slice (some ⟨b, off, none⟩) g.length c) := (HB.out.cell (p := ⟨q, 0, none⟩) (by show q < q + 1; omega)).trans HX4.out
      obtain ⟨lb, lo, rfl, -, c2⟩ := rd_at HLQ.out.rd (k := k) (x := (u : Int)) (by rw [ints_get, hu]; rfl)
      have HR := hide hrow
      obtain ⟨_, _, e3, hd, hm, -⟩ := hrow
      injection e3 with e3 e4 e5
      subst e3 e5
      have hd9 : d ≤ 9223372036854775807 := by unfold maxLen at hm; omega
      have HLE : Hid (row.length ≤ 1000000) := hide (by have := row_le_edges hr0; have := HOK.out.2.1; omega)
      have hrl : row.length ≤ 1000000 := HLE.out
      have HR0 := hide hr0
      have HU := hide hu
      clear hm hr0 e4 hu hcell hbl
      go_wp2_with fail
      go_quiet (fail)
      obtain ⟨wd, hwd⟩ : ∃ x, wq.drewN nq = x := ⟨_, rfl⟩
      rw [hwd]
      have HLd : Hid (Own wd (q + 1 + 1) 3 .i64 (.slice (some ⟨lb, lo, none⟩) l.length cl) (ints l)) := hide (by rw [← hwd]; exact HLQ.out.drewN nq)
      have HDd : Hid (OwnV wd (q + 1) 4 (.slice (some ⟨q + 1, 0, none⟩) g.length g.length) (bz g.length l)) := hide (by rw [← hwd]; exact HD.out)
      have HBd : Hid (Below (q + 1) w4 wd) := hide (by rw [← hwd]; exact Below.drewN' HB.out _)
      clear hwd c0 c1 c2 HL HLQ HD HB HBW
      go_wp2_with fail
      go_loopw [40, 8] (fun z lv wr => ∃ (j : Nat) (l2 : List Nat), j ≤ row.length ∧ z = .int .i64 (j : Nat) ∧ Hid (Own wr (q + 1 + 1) 3 .i64 lv (ints l2)) ∧ Hid (OwnV wr (q + 1) 4 (.slice (some ⟨q + 1, 0, none⟩) g.length g.length) (bz g.length l2)) ∧ Hid (Bfs g e a l2 k j) ∧ Hid (l2[k]? = some u) ∧ Hid (Below (q + 1) w4 wr)) (fun z _ _ => row.length - (intOf z).toNat)
      case atStart => exact ⟨0, l, Nat.zero_le _, rfl, HLd, HDd, HF, HU, HBd⟩
      case round =>
        clear HLd HDd HBd HF HU hlt hlt' hll hk
        obtain ⟨wp, rfl⟩ : ∃ x, x = wr := ⟨_, rfl⟩
        obtain ⟨j, l2, hj, rfl, HL, HD, HF, HU, HB⟩ := hrel
        have hll : l2.length ≤ g.length := HF.out.len HOK.out.1 HOK.out.2.2
        by_cases hlj : j < row.length
        · have hlj' : (j : Int) < row.length := by omega
          obtain ⟨m, hm⟩ : ∃ m, row[j]? = some m := ⟨_, List.getElem?_eq_getElem hlj⟩
          obtain ⟨s, rfl, hsn⟩ := ok_node HOK.out.1 HR0.out hm
          have hsn' : (s : Int) < g.length := by omega
          obtain ⟨b2, off2, rfl, -, cx⟩ := rd_at (HR.out.below' (by rw [hq]; exact HB4.out.trans (HB.out.mono (by omega)))) hm
          have HM : Hid ((g.getD u [])[j]? = some (s : Int)) := hide (by rw [getD_of HR0.out]; exact hm)
          have cs := HD.out.cellAt (bz_get l2 hsn)
          have fs := HD.out.freeAt s
          clear hm
          by_cases hsa : (s : Int) = a
          · have t1 : ((s : Int) != a) = false := by rw [bne_eq_false_iff_eq]; exact hsa
            have HF2 := hide (HF.out.skip HU.out HM.out (.inl hsa))
            clear hsa HF cs fs
            go_wp2_with fail
            go_roundw
            case rel => exact ⟨j + 1, l2, by omega, by go_num, HL, HD, HF2, HU, HB⟩
            case measure => simp [intOf]; omega
          · have t1 : ((s : Int) != a) = true := bne_iff_ne.2 hsa
            by_cases hsl : s ∈ l2
            · rw [decide_eq_true hsl] at cs
              have HF2 := hide (HF.out.skip HU.out HM.out (.inr hsl))
              clear hsa hsl HF fs
              go_wp2_with fail
              go_roundw
              case rel => exact ⟨j + 1, l2, by omega, by go_num, HL, HD, HF2, HU, HB⟩
              case measure => simp [intOf]; omega
            · rw [decide_eq_false hsl] at cs
              have HF2 := hide (HF.out.take HOK.out.1 HU.out HM.out hsa hsl)
              have HU2 : Hid ((l2 ++ [s])[k]? = some u) := hide (by rw [List.getElem?_append_left (List.getElem?_eq_some_iff.1 HU.out).1]; exact HU.out)
              have hD5 := HD.out.set s (.bool true)
              rw [bz_set] at hD5
              obtain ⟨w5, h5⟩ : ∃ y, wp.setCell ⟨q + 1, s, none⟩ (.bool true) = y := ⟨_, rfl⟩
              have hF5 : Frm wp w5 [q + 1] := by rw [← h5]; exact (Frm.refl wp [q + 1]).setCell _ _ (.inl (by simp))
              rw [h5] at hD5
              obtain ⟨Av, cv, rfl, hcv, hcvm, -⟩ := HL.out.rd
              have hcv9 : cv ≤ 9223372036854775807 := by unfold maxLen at hcvm; omega
              obtain ⟨el, hel⟩ : ∃ el, l2.length = el := ⟨_, rfl⟩
              rw [ints_len, hel] at hcv ⊢
              rw [hel] at hll
              have HEL := hide hel
              have HL5 := hide (HL.out.frmS hF5 (fun x hx hm => by have := (HL.out.size x hx).1; rw [List.mem_singleton.1 hm] at this; omega))
              have HD5 := hide hD5
              have HB5 : Hid (Below (q + 1) w4 w5) := hide (HB.out.trans (hF5.toBelow (fun x hx => by rw [List.mem_singleton.1 hx]; exact Nat.le_refl _) (by have h1 := HB.out.size; have h2 := HS4.out; omega)))
              have hws : q + 1 + 1 ≤ w5.heap.size := by have h1 := HB5.out.size; have h2 := HS4.out; omega
              clear hsa hsl HF HU hD5 hF5 hcvm hel HL HD
              go_wp2_with (refine wpList_append_rd _ rfl _ _ 28 rfl (q + 1 + 1) 3 .i64 8 intE _ (ints l2) (by rw [ints_len, HEL.out]; rfl) (HL5.out.alloc _) _ [(s : Int)] rfl (rd_one w5 3 (s : Int)) ?b1 ?b2 ?b3 ?_)
              case b1 => rw [ints_len, HEL.out, List.length_singleton]; omega
              case b2 => unfold maxLen; rw [ints_len, HEL.out, List.length_singleton]; omega
              case b3 => rw [World.size_alloc]; omega
              intro v' w6 ho6 hg6 _ hb6
              rw [← ints_snoc] at ho6
              have hf6 : Frm w5 w6 (Value.slice Av (ints l2).length cv).ownBlock.toList := ((Frm.refl w5 _).alloc _).trans (Frm.grown hg6)
              have HO6 := hide ho6
              have HB6 : Hid (Below (q + 1) w4 w6) := hide (HB5.out.trans (hf6.toBelow (fun x hx => by have := (HL5.out.size x (by simpa using hx)).1; omega) (by omega)))
              have HD6 := hide (HD5.out.frm hf6 (fun x hx hm => by
                have e1 : q + 1 = x := by simpa [Value.ownBlock] using hx
                have := (HL5.out.size x (by simpa using hm)).1
                omega))
              clear ho6 hg6 hb6 hf6
              go_wp2_with fail
              go_roundw
              case rel => exact ⟨j + 1, l2 ++ [s], by omega, by go_num, HO6, HD6, HF2, HU2, HB6⟩
              case measure => simp [intOf]; omega
        · obtain rfl : j = row.length := by omega
          have HF2 := hide (HF.out.next HU.out (by rw [getD_of HR0.out]; exact Nat.le_refl _) HOK.out.1)
          have hk2 : k + 1 ≤ l2.length := by have := (List.getElem?_eq_some_iff.1 HU.out).1; omega
          go_wp2_with fail
          go_roundw
          case rel => exact ⟨l2, k + 1, hk2, by go_num, HL, HD, HF2, HB⟩
          case measure => simp [intOf]; omega
    · obtain rfl : k = l.length := by omega
      have HA := hide HF.out.all
      have HZ := hide (And.intro (HD.out.low (b := q) (by omega)) HBW.out)
      go_wp2_with fail
      go_ret
      rw [hq]
      exact ⟨⟨_, l, rfl, HA.out, HZ.out.1⟩, HZ.out.2⟩
theorem without_all (A : Option Addr) (c : Nat) (g : List (List Int)) (e : Nat) (a : Int) (w : World) (hg : RdL w A c g) (hok : codeG g = 0) (he : e < g.length) (hE : edges g ≤ 1000000) :
    Calls Try.prog 35 #[.agg #[.slice A g.length c], .int .i64 (e : Nat), .int .i64 a] w fun en w' => (∃ D l, en = .returned (.slice (some ⟨D, 0, none⟩) g.length g.length) ∧ (∀ x, x ∈ l ↔ AvZ g e a x) ∧ OwnV w' w.heap.size 4 (.slice (some ⟨D, 0, none⟩) g.length g.length) (bz g.length l)) ∧ Below w.heap.size w w' := by
  by_cases h : (e : Int) = a
  · subst h
    refine (without_self A c g e w hg hok).mono ?_
    rintro en w' ⟨⟨D, h1, h2⟩, h3⟩
    refine ⟨⟨D, [], h1, fun x => ⟨fun k => absurd k (by simp), fun k => ?_⟩, h2⟩, h3⟩
    exfalso
    have : ∀ y, AvZ g e (e : Int) y → False := fun y ky => by
      induction ky with
      | root h => exact h rfl
      | step _ _ _ ih => exact ih
    exact this x k
  · exact without_any A c g e a w hg hok he hE h
end Go.Proofs.Ytmopnceglnoncaa
namespace Go.Proofs.Ytmopnceglnoncaa
open Go.RowKit

theorem own_madeI (w : World) (e : TypeId) (k : IntKind) (n base : Nat) (hn : n ≤ maxLen) (hb : base ≤ w.heap.size) : Own (w.alloc (.cells (madeCells #[.int k 0] n) e)) base e k (.slice (some ⟨w.heap.size, 0, none⟩) n n) (List.replicate n 0) := OwnV.toI (by rw [List.map_replicate]; exact own_madeV w e (.int k 0) n base hn hb)
/-- The rows of the first a nodes: whom each is strictly above. -/
def dL (L : List Nat) (dm : Nat → Nat) (n a : Nat) : List (List Int) := (List.range a).map fun x => ints (dA L dm n x)
theorem dL_succ (L : List Nat) (dm : Nat → Nat) (n a : Nat) : dL L dm n (a + 1) = dL L dm n a ++ [ints (dA L dm n a)] := by
  unfold dL; rw [List.range_succ, List.map_append]; rfl
theorem dL_len (L : List Nat) (dm : Nat → Nat) (n a : Nat) : (dL L dm n a).length = a := by simp [dL]
theorem dL_get {L : List Nat} {dm : Nat → Nat} {n a i : Nat} (h : i < a) : (dL L dm n a)[i]? = some (ints (dA L dm n i)) := by simp [dL, h]
/-- The counts while a's row is made: up to b. -/
def cB (L : List Nat) (dm : Nat → Nat) (a b x : Nat) : Int := if x < b then (cA L dm (a + 1) x : Nat) else (cA L dm a x : Nat)
theorem cB_yes {L : List Nat} {dm : Nat → Nat} {a b : Nat} (h : sA L dm a b = true) : cB L dm a (b + 1) b = (cA L dm a b : Int) + 1 ∧ ∀ j, j ≠ b → cB L dm a (b + 1) j = cB L dm a b j := by
  refine ⟨?_, fun j hj => ?_⟩
  · unfold cB
    rw [if_pos (by omega), cA_succ, if_pos h]; rfl
  · unfold cB
    by_cases c : j < b
    · rw [if_pos (by omega), if_pos c]
    · rw [if_neg (by omega), if_neg c]
theorem cB_no {L : List Nat} {dm : Nat → Nat} {a b : Nat} (h : sA L dm a b = false) (j : Nat) : cB L dm a (b + 1) j = cB L dm a b j := by
  unfold cB
  by_cases e : j = b
  · subst e
    rw [if_pos (by omega), if_neg (by omega), cA_succ, if_neg (by rw [h]; simp)]; rfl
  · by_cases c : j < b
    · rw [if_pos (by omega), if_pos c]
    · rw [if_neg (by omega), if_neg c]
theorem cB_at (L : List Nat) (dm : Nat → Nat) (a b : Nat) : cB L dm a b b = (cA L dm a b : Nat) := by unfold cB; rw [if_neg (Nat.lt_irrefl _)]
/-- The list while a's row is gone through: the first j of it. -/
def bsj (L : List Nat) (dm : Nat → Nat) (n e a j x : Nat) : Int := if x ∈ (dA L dm n a).take j then bst L dm n e x (a + 1) else bst L dm n e x a
theorem bsj_step {L : List Nat} {dm : Nat → Nat} {n e a j b : Nat} (hb : (dA L dm n a)[j]? = some b) : bsj L dm n e a (j + 1) b = bst L dm n e b (a + 1) ∧ bsj L dm n e a j b = bst L dm n e b a ∧ ∀ x, x ≠ b → bsj L dm n e a (j + 1) x = bsj L dm n e a j x := by
  have ht : (dA L dm n a).take (j + 1) = (dA L dm n a).take j ++ [b] := by rw [List.take_add_one, hb]; rfl
  refine ⟨?_, ?_, fun x hx => ?_⟩
  · unfold bsj; rw [if_pos (by rw [ht]; simp)]
  · unfold bsj
    rw [if_neg]
    intro h
    obtain ⟨i, hi⟩ := List.mem_iff_getElem?.1 h
    rw [List.getElem?_take] at hi
    by_cases c : i < j
    · rw [if_pos c] at hi
      have := nodup_get (dA_nodup L dm n a) hi hb
      omega
    · rw [if_neg c] at hi; cases hi
  · unfold bsj
    rw [ht]
    by_cases c : x ∈ (dA L dm n a).take j
    · rw [if_pos (List.mem_append_left _ c), if_pos c]
    · rw [if_neg c, if_neg (fun h => by rcases List.mem_append.1 h with h | h; exact c h; exact hx (List.mem_singleton.1 h))]
theorem bsj_end {L : List Nat} {dm : Nat → Nat} {n e a j : Nat} (hj : (dA L dm n a).length ≤ j) {x : Nat} (hx : x < n) : bsj L dm n e a j x = bst L dm n e x (a + 1) := by
  unfold bsj
  rw [List.take_of_length_le hj]
  by_cases c : x ∈ dA L dm n a
  · rw [if_pos c]
  · rw [if_neg c, bst_skip (by
      cases h : sA L dm a x with
      | false => rfl
      | true => exact absurd (dA_mem.2 ⟨hx, h⟩) c)]

set_option maxRecDepth 100000 in
set_option maxHeartbeats 8000000 in
theorem rbuild_any (A : Option Addr) (c : Nat) (g : List (List Int)) (e : Nat) (w : World) (hg : RdL w A c g) (hok : codeG g = 0) (he : e < g.length) (hE : edges g ≤ 1000000) {L P : List Nat} {dm : Nat → Nat} (BT : Bt g e L P dm) :
    Calls Try.prog 13 #[.agg #[.slice A g.length c], .int .i64 (e : Nat)] w fun en w' => (∃ D, en = .returned (.slice (some ⟨D, 0, none⟩) g.length g.length) ∧ Own w' w.heap.size 3 .i64 (.slice (some ⟨D, 0, none⟩) g.length g.length) (fz g.length (bf L dm))) ∧ Below w.heap.size w w' := by
  obtain ⟨hokG, hN⟩ := code_ok hok
  have hc := hg.cap
  have hc9 : c ≤ 9223372036854775807 := by unfold maxLen at hc; omega
  obtain ⟨q, hq⟩ : ∃ q, w.heap.size = q := ⟨_, rfl⟩
  obtain ⟨w1, hw1⟩ : ∃ x, w.alloc (.cells #[.slice A g.length c] 24) = x := ⟨_, rfl⟩
  have hs1 : w1.heap.size = q + 1 := by rw [← hw1, World.size_alloc, hq]
  have hb1 : Below q w w1 := by rw [← hw1, ← hq]; exact (Below.refl _ _).alloc (Nat.le_refl _) _
  have hx1 : w1.cell? ⟨q, 0, none⟩ = some (.slice A g.length c) := by rw [← hw1, ← hq]; simp [go_sem]
  have hck := rcheck_any A c g w1 (hg.below' (by rw [hq]; exact hb1))
  rw [hok] at hck
  have HK := hide hck
  have HB1 := hide hb1
  have HG := hide hg
  have HOK := hide (And.intro hok (And.intro hE he))
  have HBT := hide BT
  have e2 : decide ((e : Int) < 0) = false := decide_eq_false (by omega)
  have e3 : decide ((e : Int) ≥ (g.length : Int)) = false := decide_eq_false (by omega)
  have e4 : decide ((g.length : Int) ≤ (e : Int)) = false := decide_eq_false (by omega)
  have e5 : decide (g.length ≤ e) = false := decide_eq_false (by omega)
  have e6 : ¬ ((g.length : Int) ≤ (e : Int)) := by omega
  clear hg hok hE hck hb1 hc BT hokG
  go_enter Try.func13, Try.ntmps13
  go_wp2_with fail
  refine HK.out.mono ?_
  rintro en w2 ⟨rfl, hb2⟩
  have hx2 := (hb2.cell (p := ⟨q, 0, none⟩) (lt_of_cell hx1)).trans hx1
  have HB2 : Hid (Below q w w2) := hide (HB1.out.trans (hb2.mono (by omega)))
  have HS2 : Hid (q + 1 ≤ w2.heap.size) := hide (by rw [← hs1]; exact hb2.size)
  have HKW := hide (without_any A c g e (-1) w2 (HG.out.below' (by rw [hq]; exact HB2.out)) HOK.out.1 HOK.out.2.2 HOK.out.2.1 (by omega))
  clear hw1 hs1 hb2 HK HB1 hx1
  go_wp2_with fail
  refine HKW.out.mono ?_
  rintro en w3 ⟨⟨D0, l0, rfl, hl0, hD0⟩, hb3⟩
  have hx3 := (hb3.cell (p := ⟨q, 0, none⟩) (lt_of_cell hx2)).trans hx2
  have HB3 : Hid (Below q w w3) := hide (HB2.out.trans (hb3.mono (by have := HS2.out; omega)))
  obtain ⟨ib, hib⟩ : ∃ x, w3.heap.size = x := ⟨_, rfl⟩
  have hqi : q + 1 ≤ ib := by rw [← hib]; have := HS2.out; have := hb3.size; omega
  have hA3 : OwnV w3 w2.heap.size 4 (.slice (some ⟨D0, 0, none⟩) g.length g.length) (bl g.length (fun i => decide (i ∈ L))) := by
    have h : bz g.length l0 = bl g.length (fun i => decide (i ∈ L)) := bl_congr (fun i _ => by rw [decide_eq_decide, hl0 i, avZ_none]; exact (HBT.out.sp.reach i).symm)
    rw [← h]; exact hD0
  have hD0i : D0 < ib := by rw [← hib]; exact (hA3.size D0 rfl).2
  have hmk4 := run_made w3 28 3 (.int .i64 0) 8 Try.underlying28 infoInt rfl (by omega) g.length (by omega)
  obtain ⟨w4, h4⟩ : ∃ x, w3.alloc (.cells (madeCells #[.int .i64 0] g.length) 3) = x := ⟨_, rfl⟩
  have hs4 : w4.heap.size = ib + 1 := by rw [← h4, World.size_alloc, hib]
  have hI4 : Own w4 ib 3 .i64 (.slice (some ⟨ib, 0, none⟩) g.length g.length) (List.replicate g.length 0) := by
    rw [← h4, ← hib]; exact own_madeI w3 3 .i64 g.length w3.heap.size (by unfold maxLen; omega) (Nat.le_refl _)
  have hb34 : Below w3.heap.size w3 w4 := by rw [← h4]; exact (Below.refl _ _).alloc (Nat.le_refl _) _
  have hmk5 := run_made w4 28 3 (.int .i64 0) 8 Try.underlying28 infoInt rfl (by omega) g.length (by omega)
  obtain ⟨w5, h5⟩ : ∃ x, w4.alloc (.cells (madeCells #[.int .i64 0] g.length) 3) = x := ⟨_, rfl⟩
  have hs5 : w5.heap.size = ib + 1 + 1 := by rw [← h5, World.size_alloc, hs4]
  have hC5 : Own w5 ib 3 .i64 (.slice (some ⟨ib + 1, 0, none⟩) g.length g.length) (List.replicate g.length 0) := by
    rw [← h5, ← hs4]; exact (own_madeI w4 3 .i64 g.length w4.heap.size (by unfold maxLen; omega) (Nat.le_refl _)).low (by omega)
  have hb45 : Below w4.heap.size w4 w5 := by rw [← h5]; exact (Below.refl _ _).alloc (Nat.le_refl _) _
  have HB5 : Hid (Below q w w5) := hide ((HB3.out.trans (hb34.mono (by omega))).trans (hb45.mono (by omega)))
  have HA5 := hide ((hA3.below' hb34).below' hb45)
  have HI5 := hide (hI4.below' hb45)
  have HC5 := hide hC5
  have hx5 := (hb45.cell (p := ⟨q, 0, none⟩) (by show q < _; omega)).trans ((hb34.cell (p := ⟨q, 0, none⟩) (lt_of_cell hx3)).trans hx3)
  have HX5 := hide hx5
  have HS5 := hide hs5
  clear hx2 hx3 hb3 hD0 hl0 hA3 hI4 hb34 hb45 hC5 HKW e2 e3 e4 e5 e6
  go_wp2_with fail
  clear h4 h5 hmk4 hmk5 hs4 hs5 hib hx5
  go_loopw [42] (fun z wr => ∃ i : Nat, i ≤ g.length ∧ z = .int .i64 (i : Nat) ∧ Hid (Own wr ib 3 .i64 (.slice (some ⟨ib, 0, none⟩) g.length g.length) (fz g.length (fun x => if x < i then -1 else 0))) ∧ Hid (Frm w5 wr [ib])) (fun z _ => g.length - (intOf z).toNat)
  case atStart => exact ⟨0, Nat.zero_le _, rfl, hide (by
    rw [fz_ext (h := fun _ => 0) (fun i _ => by rw [if_neg (by omega)]), fz_const]; exact HI5.out), hide (Frm.refl _ _)⟩
  case round =>
    clear HI5
    obtain ⟨wq, rfl⟩ : ∃ x, x = wr := ⟨_, rfl⟩
    obtain ⟨i, hi, rfl, HI, HF⟩ := hrel
    by_cases hlt : i < g.length
    · have hlt' : (i : Int) < g.length := by omega
      have fi := HI.out.freeAt i
      have ci := HI.out.cellAt (fz_get (fun x => if x < i then -1 else 0) hlt)
      have hset := HI.out.set i (-1)
      rw [fz_set (h := fun x => if x < i + 1 then -1 else 0) (by simp) (fun j hj => by
        by_cases c : j < i
        · simp [c, show j < i + 1 by omega]
        · simp [c, show ¬ j < i + 1 by omega])] at hset
      have HN := hide (And.intro hset (HF.out.setCell ⟨ib, i, none⟩ (.int .i64 (-1)) (.inl (by simp))))
      clear hset HI HF
      go_wp2_with fail
      go_roundw
      case rel => exact ⟨i + 1, by omega, by go_num, hide HN.out.1, hide HN.out.2⟩
      case measure => simp [intOf]; omega
    · obtain rfl : i = g.length := by omega
      have hen : e < g.length := HOK.out.2.2
      have hen' : (e : Int) < g.length := by omega
      have fe := HI.out.freeAt e
      have ce := HI.out.cellAt (fz_get (fun x => if x < g.length then -1 else 0) hen)
      have hset := HI.out.set e (e : Int)
      have hz : (fz g.length (fun x => if x < g.length then -1 else 0)).set e (e : Int) = fz g.length (fun x => bst L dm g.length e x 0) := by
        rw [fz_ext (h := fun _ => -1) (fun j hj => by rw [if_pos hj])]
        exact fz_set (by unfold bst; rw [if_pos rfl]) (fun j hj => by unfold bst; rw [if_neg hj])
      rw [hz] at hset
      obtain ⟨w7, h7⟩ : ∃ x, wq.setCell ⟨ib, e, none⟩ (.int .i64 (e : Int)) = x := ⟨_, rfl⟩
      have hF7 : Frm w5 w7 [ib] := by rw [← h7]; exact HF.out.setCell ⟨ib, e, none⟩ (.int .i64 (e : Int)) (.inl (by simp))
      rw [h7] at hset
      have hs7 : ib + 1 + 1 ≤ w7.heap.size := by rw [← HS5.out]; exact hF7.size
      have HI7 := hide hset
      have HA7 := hide (HA5.out.frm hF7 (fun x hx hm => by
        have e1 : D0 = x := by simpa [Value.ownBlock] using hx
        rw [List.mem_singleton] at hm; omega))
      have HC7 := hide (HC5.out.frmS hF7 (fun x hx hm => by
        have e1 : ib + 1 = x := by simpa [Value.ownBlock] using hx
        rw [List.mem_singleton] at hm; omega))
      have HB7 : Hid (Below q w w7) := hide (HB5.out.trans (hF7.toBelow (B := q) (fun x hx => by rw [List.mem_singleton.1 hx]; omega) (by have := HB5.out.size; omega)))
      have HX7 := hide ((hF7.cell (p := ⟨q, 0, none⟩) (by show q < _; have := HS5.out; omega) (by simp; omega)).trans HX5.out)
      have HS7 := hide hs7
      clear hset hz hF7 HI HF HA5 HC5 HB5 HX5
      go_wp2_with fail
      clear h7 ce fe
      go_loopw [11, 10] (fun z sv wr => ∃ (a : Nat) (R : List Value), a ≤ g.length ∧ z = .int .i64 (a : Nat) ∧ Hid (OwnG wr w7.heap.size sv R (dL L dm g.length a)) ∧ Hid (Own wr ib 3 .i64 (.slice (some ⟨ib + 1, 0, none⟩) g.length g.length) (fz g.length (fun x => (cA L dm a x : Nat)))) ∧ Hid (Frm w7 wr [ib + 1])) (fun z _ _ => g.length - (intOf z).toNat)
      case atStart => exact ⟨0, [], Nat.zero_le _, rfl, hide OwnG.nil, hide (by
        rw [fz_ext (h := fun _ => 0) (fun i _ => by simp [cA]), fz_const]; exact HC7.out), hide (Frm.refl _ _)⟩
      case round =>
        clear HC7
        obtain ⟨wq, rfl⟩ : ∃ x, x = wr := ⟨_, rfl⟩
        obtain ⟨a, R, ha, rfl, HO, HC, HF⟩ := hrel
        have hs7 := HS7.out
        have hqs : w7.heap.size ≤ wq.heap.size := HF.out.size
        have HBQ : Hid (Below q w wq) := hide (HB7.out.trans (HF.out.toBelow (B := q) (fun x hx => by rw [List.mem_singleton.1 hx]; omega) (by have := HB7.out.size; omega)))
        obtain ⟨A2, c2, rfl, hc2, hc2m⟩ := HO.out.form
        have HO' := HO
        rw [dL_len] at hc2 HO' ⊢
        have hc29 : c2 ≤ 9223372036854775807 := by unfold maxLen at hc2m; omega
        have hRl : R.length = a := by rw [HO.out.len, dL_len]
        have hx7 : wq.cell? ⟨q, 0, none⟩ = some (.slice A g.length c) := (HF.out.cell (p := ⟨q, 0, none⟩) (by show q < _; omega) (by simp; omega)).trans HX7.out
        clear hc2m HO
        by_cases hlt : a < g.length
        · have hlt' : (a : Int) < g.length := by omega
          have HAQ := hide (HA7.out.frm HF.out (fun x hx hm => by
            have e1 : D0 = x := by simpa [Value.ownBlock] using hx
            rw [List.mem_singleton] at hm; omega))
          have ca := HAQ.out.cellAt (bl_get (fun i => decide (i ∈ L)) hlt)
          by_cases haL : a ∈ L
          · rw [decide_eq_true haL] at ca
            have HKW := hide (without_all A c g e (a : Int) wq (HG.out.below' (by rw [hq]; exact HBQ.out)) HOK.out.1 HOK.out.2.2 HOK.out.2.1)
            have HAL := hide haL
            clear haL
            go_wp2_with fail
            refine HKW.out.mono ?_
            rintro en w9 ⟨⟨D3, l3, rfl, hl3, hD3⟩, hb9⟩
            have HL3 := hide hl3
            have HD9 := hide hD3
            have hD3q : wq.heap.size ≤ D3 := (hD3.size D3 rfl).1
            have HA9 := hide (HAQ.out.below' hb9)
            have HC9 := hide (HC.out.below' hb9)
            have HB9 := hide hb9
            have hw9 : wq.heap.size ≤ w9.heap.size := hb9.size
            clear hl3 hD3 hb9 HKW HAQ HC ca hx7
            go_wp2_with fail
            go_loopw [14, 12] (fun z lv wr => ∃ b : Nat, b ≤ g.length ∧ z = .int .i64 (b : Nat) ∧ Hid (Own wr w9.heap.size 3 .i64 lv (ints (dA L dm b a))) ∧ Hid (Own wr ib 3 .i64 (.slice (some ⟨ib + 1, 0, none⟩) g.length g.length) (fz g.length (cB L dm a b))) ∧ Hid (Frm w9 wr [ib + 1])) (fun z _ _ => g.length - (intOf z).toNat)
            case atStart => exact ⟨0, Nat.zero_le _, rfl, hide Own.nil, hide (by
              rw [fz_ext (h := fun x => ((cA L dm a x : Nat) : Int)) (fun i _ => by unfold cB; rw [if_neg (by omega)])]; exact HC9.out), hide (Frm.refl _ _)⟩
            case round =>
              clear HC9
              obtain ⟨wp, rfl⟩ : ∃ x, x = wr := ⟨_, rfl⟩
              obtain ⟨b, hb, rfl, HLV, HC, HFB⟩ := hrel
              have hwps : wq.heap.size ≤ wp.heap.size := Nat.le_trans hw9 HFB.out.size
              by_cases hbl : b < g.length
              · have hbl' : (b : Int) < g.length := by omega
                have HAB := hide (HA9.out.frm HFB.out (fun x hx hm => by
                  have e1 : D0 = x := by simpa [Value.ownBlock] using hx
                  rw [List.mem_singleton] at hm; omega))
                have HDB := hide (HD9.out.frm HFB.out (fun x hx hm => by
                  have e1 : D3 = x := by simpa [Value.ownBlock] using hx
                  rw [List.mem_singleton] at hm; omega))
                have cb1 := HAB.out.cellAt (bl_get (fun i => decide (i ∈ L)) hbl)
                have cb2 := HDB.out.cellAt (bz_get l3 hbl)
                have HIFF : Hid (sA L dm a b = true ↔ b ≠ a ∧ b ∈ L ∧ b ∉ l3) := hide (by
                  rw [HBT.out.sA_av HAL.out, HL3.out, avZ_nat])
                by_cases hba : b = a
                · have t1 : ((b : Int) != (a : Int)) = false := by rw [bne_eq_false_iff_eq]; omega
                  have t1' : (b != a) = false := by rw [bne_eq_false_iff_eq]; exact hba
                  have hno : sA L dm a b = false := by
                    cases h : sA L dm a b with
                    | false => rfl
                    | true => exact absurd hba (HIFF.out.1 h).1
                  have HLV2 := HLV
                  have HC2 := HC
                  rw [show dA L dm b a = dA L dm (b + 1) a by rw [dA_succ, if_neg (by rw [hno]; simp), List.append_nil]] at HLV2
                  rw [fz_ext (h := cB L dm a (b + 1)) (fun i _ => (cB_no hno i).symm)] at HC2
                  clear hno HLV HC HIFF
                  go_wp2_with fail
                  go_roundw
                  case rel => exact ⟨b + 1, by omega, by go_num, HLV2, HC2, HFB⟩
                  case measure => simp [intOf]; omega
                · have t1 : ((b : Int) != (a : Int)) = true := bne_iff_ne.2 (by omega)
                  have t1' : (b != a) = true := bne_iff_ne.2 hba
                  by_cases hbL : b ∈ L
                  · rw [decide_eq_true hbL] at cb1
                    by_cases hb3 : b ∈ l3
                    · rw [decide_eq_true hb3] at cb2
                      have hno : sA L dm a b = false := by
                        cases h : sA L dm a b with
                        | false => rfl
                        | true => exact absurd hb3 (HIFF.out.1 h).2.2
                      have HLV2 := HLV
                      have HC2 := HC
                      rw [show dA L dm b a = dA L dm (b + 1) a by rw [dA_succ, if_neg (by rw [hno]; simp), List.append_nil]] at HLV2
                      rw [fz_ext (h := cB L dm a (b + 1)) (fun i _ => (cB_no hno i).symm)] at HC2
                      clear hno HLV HC HIFF
                      go_wp2_with fail
                      go_roundw
                      case rel => exact ⟨b + 1, by omega, by go_num, HLV2, HC2, HFB⟩
                      case measure => simp [intOf]; omega
                    · rw [decide_eq_false hb3] at cb2
                      have hyes := HIFF.out.2 ⟨hba, hbL, hb3⟩
                      obtain ⟨k1, k2⟩ := cB_yes hyes
                      have HDS : Hid (ints (dA L dm b a) ++ [(b : Int)] = ints (dA L dm (b + 1) a)) := hide (by rw [dA_succ, if_pos hyes, ints_snoc])
                      have cc1 := HC.out.cellAt (fz_get (cB L dm a b) hbl)
                      rw [cB_at] at cc1
                      have hcle := cA_le L dm a b
                      have hwr1 : IntKind.i64.wrap ((cA L dm a b : Int) + 1) = (cA L dm a b : Int) + 1 := IntWalk.i64_in _ (by omega)
                      obtain ⟨Av, cv, rfl, hcv, hcvm, -⟩ := HLV.out.rd
                      have hcv9 : cv ≤ 9223372036854775807 := by unfold maxLen at hcvm; omega
                      have hell := dA_len L dm b a
                      obtain ⟨el, hel⟩ : ∃ el, (dA L dm b a).length = el := ⟨_, rfl⟩
                      rw [ints_len, hel] at hcv ⊢
                      rw [hel] at hell
                      have HEL := hide hel
                      have HK := hide (And.intro k1 k2)
                      have HCC := hide cc1
                      clear hba hbL hb3 hyes k1 k2 hcvm hel HIFF cc1
                      go_wp2_with (refine wpList_append_rd _ rfl _ _ 28 rfl w9.heap.size 3 .i64 8 intE _ (ints (dA L dm b a)) (by rw [ints_len, HEL.out]; rfl) (HLV.out.alloc _) _ [(b : Int)] rfl (rd_one wp 3 (b : Int)) ?b1 ?b2 ?b3 ?_)
                      case b1 => rw [ints_len, HEL.out, List.length_singleton]; omega
                      case b2 => unfold maxLen; rw [ints_len, HEL.out, List.length_singleton]; omega
                      case b3 => rw [World.size_alloc]; have := HFB.out.size; omega
                      intro v' w6 ho6 hg6 _ hb6
                      rw [HDS.out] at ho6
                      have hf6 : Frm wp w6 (Value.slice Av (ints (dA L dm b a)).length cv).ownBlock.toList := ((Frm.refl wp _).alloc _).trans (Frm.grown hg6)
                      have hC6 := HC.out.frmS hf6 (fun x hx hm => by
                        have e1 : ib + 1 = x := by simpa [Value.ownBlock] using hx
                        have := (HLV.out.size x (by simpa using hm)).1
                        omega)
                      have cc6 := hC6.cellAt (fz_get (cB L dm a b) hbl)
                      rw [cB_at] at cc6
                      have fc6 := hC6.freeAt b
                      have hC7 := hC6.set b ((cA L dm a b : Int) + 1)
                      rw [fz_set (h := cB L dm a (b + 1)) HK.out.1 HK.out.2] at hC7
                      have hF6 : Frm w9 w6 [ib + 1] := HFB.out.trans' hf6 (fun x hx => .inr (HLV.out.size x (by simpa using hx)).1)
                      have hF7 := hF6.setCell ⟨ib + 1, b, none⟩ (.int .i64 ((cA L dm a b : Int) + 1)) (.inl (by simp))
                      have hO7 := ho6.frmS ((Frm.refl w6 [ib + 1]).setCell ⟨ib + 1, b, none⟩ (.int .i64 ((cA L dm a b : Int) + 1)) (.inl (by simp))) (fun x hx hm => by
                        have h1 := (ho6.size x hx).1
                        rw [List.mem_singleton.1 hm] at h1
                        omega)
                      have HZ := hide (And.intro hO7 (And.intro hC7 hF7))
                      obtain ⟨cz, hcz⟩ : ∃ z, (cA L dm a b : Int) = z := ⟨_, rfl⟩
                      rw [hcz] at hwr1 cc6 HZ
                      clear ho6 hg6 hb6 hf6 hC6 hC7 hF6 hF7 hO7 hcz
                      go_wp2_with fail
                      go_roundw
                      case rel => exact ⟨b + 1, by omega, by go_num, hide HZ.out.1, hide HZ.out.2.1, hide HZ.out.2.2⟩
                      case measure => simp [intOf]; omega
                  · rw [decide_eq_false hbL] at cb1
                    have hno : sA L dm a b = false := by
                      cases h : sA L dm a b with
                      | false => rfl
                      | true => exact absurd (HIFF.out.1 h).2.1 hbL
                    have HLV2 := HLV
                    have HC2 := HC
                    rw [show dA L dm b a = dA L dm (b + 1) a by rw [dA_succ, if_neg (by rw [hno]; simp), List.append_nil]] at HLV2
                    rw [fz_ext (h := cB L dm a (b + 1)) (fun i _ => (cB_no hno i).symm)] at HC2
                    clear hno HLV HC HIFF
                    go_wp2_with fail
                    go_roundw
                    case rel => exact ⟨b + 1, by omega, by go_num, HLV2, HC2, HFB⟩
                    case measure => simp [intOf]; omega
              · obtain rfl : b = g.length := by omega
                have HRV := hide (HLV.out.low hw9)
                have HCP : Hid (Own wp ib 3 .i64 (.slice (some ⟨ib + 1, 0, none⟩) g.length g.length) (fz g.length (fun x => (cA L dm (a + 1) x : Nat)))) := hide (by
                  have h := HC.out
                  rwa [fz_ext (h := fun x => ((cA L dm (a + 1) x : Nat) : Int)) (fun i hi => by unfold cB; rw [if_pos hi])] at h)
                have HFP := hide (((HF.out.trans (Frm.below HB9.out))).trans HFB.out)
                have HOP := hide ((HO'.out.frm (Frm.below HB9.out)).far HFB.out (fun x hx => by rw [List.mem_singleton.1 hx]; omega))
                clear HLV HC HFB
                obtain ⟨Am, cm, rfl, hcm, hcmm, -⟩ := HRV.out.rd
                have hcm9 : cm ≤ 9223372036854775807 := by unfold maxLen at hcmm; omega
                rw [ints_len] at hcm ⊢
                obtain ⟨dl, hdl⟩ : ∃ d, (dA L dm g.length a).length = d := ⟨_, rfl⟩
                have HDL := hide hdl
                rw [hdl] at hcm ⊢
                have hVb : ∀ x, (Value.slice Am dl cm).ownBlock = some x → wq.heap.size ≤ x := fun x hx => (HRV.out.size x (by cases Am <;> exact hx)).1
                have HVB := hide hVb
                clear hcmm hdl hVb
                go_wp2_with (first | (refine wpList_append_v _ rfl _ _ 22 rfl w7.heap.size 28 (.slice none 0 0) 24 ⟨Try.underlying22, rfl, info_parts infoInts⟩ _ R rfl (HOP.out.own.alloc _) _ [.slice Am dl cm] rfl (rdv_one wp 28 _) ?b0 ?b1 ?b2 ?b3 ?_))
                case b0 => first | rfl | (intro y hy; rw [List.mem_singleton.1 hy]; rfl)
                case b1 => (try simp only [List.length_singleton]); omega
                case b2 => unfold maxLen; (try simp only [List.length_singleton]); omega
                case b3 => (try rw [World.size_alloc]); omega
                intro v' w8 ho8 hf8 hb8
                have hG8 := (HOP.out.frm ((Frm.refl wp []).alloc (.cells #[.slice Am dl cm] 28))).add (v := .slice Am dl cm) (l := ints (dA L dm g.length a)) hf8 ho8 (((by have h := HRV.out; first | exact h | (rw [ints_len, HDL.out] at h; exact h) : Own wp wq.heap.size 3 .i64 (.slice Am dl cm) (ints (dA L dm g.length a))).low (b := w7.heap.size) (by omega)).alloc _) (hb8.imp id (fun h x hx => by rw [h] at hx; injection hx with hx; first | exact Nat.le_of_eq hx | (rw [World.size_alloc]; omega)))
                  (fun x hx hc => by have h1 := (HO'.out.own.size x hc).2; have h2 := HVB.out x hx; omega)
                  (fun k u x hk hu hc => by
                    obtain ⟨lk, hlk⟩ : ∃ l, (dL L dm g.length a)[k]? = some l := ⟨_, List.getElem?_eq_getElem (by rw [← HO'.out.len]; exact (List.getElem?_eq_some_iff.1 hk).1)⟩
                    have h1 := ((HO'.out.row k u lk hk hlk).size x hu).2
                    have h2 := HVB.out x hc
                    omega)
                have hF8 : Frm w7 w8 [ib + 1] := (HFP.out.alloc _).trans' hf8 (fun x hx => .inr (by have := (HO'.out.own.size x (by simpa using hx)).1; have := HS7.out; omega))
                have hC8 := (HCP.out.alloc (.cells #[.slice Am dl cm] 28)).frmS hf8 (fun x hx hm => by
                  have e1 : ib + 1 = x := by simpa [Value.ownBlock] using hx
                  have := (HO'.out.own.size x (by simpa using hm)).1
                  omega)
                rw [← dL_succ] at hG8
                obtain ⟨A8, c8, e8, -, -⟩ := hG8.form
                rw [dL_len] at e8
                subst e8
                have HZ := hide (And.intro hG8 (And.intro hC8 hF8))
                clear hG8 hF8 hC8 ho8 hf8 hb8
                go_wp2_with fail
                go_roundw
                case rel => exact ⟨a + 1, R ++ [_], by omega, by go_num, hide HZ.out.1, hide HZ.out.2.1, hide HZ.out.2.2⟩
                case measure => simp [intOf]; omega
          · rw [decide_eq_false haL] at ca
            have HRV : Hid (Own wq wq.heap.size 3 .i64 (.slice none 0 0) (ints (dA L dm g.length a))) := hide (by
              have h0 : dA L dm g.length a = [] := by
                unfold dA; rw [List.filter_eq_nil_iff]; intro b _; rw [sA_out haL]; simp
              rw [h0]; exact Own.nil)
            have HCP : Hid (Own wq ib 3 .i64 (.slice (some ⟨ib + 1, 0, none⟩) g.length g.length) (fz g.length (fun x => (cA L dm (a + 1) x : Nat)))) := hide (by
              rw [fz_ext (h := fun x => ((cA L dm a x : Nat) : Int)) (fun i _ => by rw [cA_succ, if_neg (by rw [sA_out haL]; simp)]; rfl)]
              exact HC.out)
            have HFP := HF
            have HOP := HO'
            obtain ⟨wp, rfl⟩ : ∃ x, x = wq := ⟨_, rfl⟩
            have hwps : wp.heap.size ≤ wp.heap.size := Nat.le_refl _
            clear haL HC hx7
            have HDL : Hid ((dA L dm g.length a).length = 0) := hide (by have h := HRV.out.rd.len; obtain ⟨_, _, e0, -⟩ := HRV.out.rd; injection e0 with _ e1 _; rw [ints_len] at e1; exact e1.symm)
            have HVB : Hid (∀ x, (Value.slice none 0 0).ownBlock = some x → wp.heap.size ≤ x) := hide (fun x hx => by simp [Value.ownBlock] at hx)
            go_wp2_with (first | (refine wpList_append_v _ rfl _ _ 22 rfl w7.heap.size 28 (.slice none 0 0) 24 ⟨Try.underlying22, rfl, info_parts infoInts⟩ _ R rfl (HOP.out.own.alloc _) _ [.slice none 0 0] rfl (rdv_one wp 28 _) ?b0 ?b1 ?b2 ?b3 ?_))
            case b0 => first | rfl | (intro y hy; rw [List.mem_singleton.1 hy]; rfl)
            case b1 => (try simp only [List.length_singleton]); omega
            case b2 => unfold maxLen; (try simp only [List.length_singleton]); omega
            case b3 => (try rw [World.size_alloc]); omega
            intro v' w8 ho8 hf8 hb8
            have hG8 := (HOP.out.frm ((Frm.refl wp []).alloc (.cells #[.slice none 0 0] 28))).add (v := .slice none 0 0) (l := ints (dA L dm g.length a)) hf8 ho8 (((by have h := HRV.out; first | exact h | (rw [ints_len, HDL.out] at h; exact h) : Own wp wp.heap.size 3 .i64 (.slice none 0 0) (ints (dA L dm g.length a))).low (b := w7.heap.size) (by omega)).alloc _) (hb8.imp id (fun h x hx => by rw [h] at hx; injection hx with hx; first | exact Nat.le_of_eq hx | (rw [World.size_alloc]; omega)))
              (fun x hx hc => by have h1 := (HO'.out.own.size x hc).2; have h2 := HVB.out x hx; omega)
              (fun k u x hk hu hc => by
                obtain ⟨lk, hlk⟩ : ∃ l, (dL L dm g.length a)[k]? = some l := ⟨_, List.getElem?_eq_getElem (by rw [← HO'.out.len]; exact (List.getElem?_eq_some_iff.1 hk).1)⟩
                have h1 := ((HO'.out.row k u lk hk hlk).size x hu).2
                have h2 := HVB.out x hc
                omega)
            have hF8 : Frm w7 w8 [ib + 1] := (HFP.out.alloc _).trans' hf8 (fun x hx => .inr (by have := (HO'.out.own.size x (by simpa using hx)).1; have := HS7.out; omega))
            have hC8 := (HCP.out.alloc (.cells #[.slice none 0 0] 28)).frmS hf8 (fun x hx hm => by
              have e1 : ib + 1 = x := by simpa [Value.ownBlock] using hx
              have := (HO'.out.own.size x (by simpa using hm)).1
              omega)
            rw [← dL_succ] at hG8
            obtain ⟨A8, c8, e8, -, -⟩ := hG8.form
            rw [dL_len] at e8
            subst e8
            have HZ := hide (And.intro hG8 (And.intro hC8 hF8))
            clear hG8 hF8 hC8 ho8 hf8 hb8
            go_wp2_with fail
            go_roundw
            case rel => exact ⟨a + 1, R ++ [_], by omega, by go_num, hide HZ.out.1, hide HZ.out.2.1, hide HZ.out.2.2⟩
            case measure => simp [intOf]; omega
        · obtain rfl : a = g.length := by omega
          have HIQ := hide (HI7.out.frmS HF.out (fun x hx hm => by
            have e1 : ib = x := by simpa [Value.ownBlock] using hx
            rw [List.mem_singleton] at hm; omega))
          clear hx7 HI7
          go_wp2_with fail
          go_loopw [15] (fun z wr => ∃ a : Nat, a ≤ g.length ∧ z = .int .i64 (a : Nat) ∧ Hid (Own wr ib 3 .i64 (.slice (some ⟨ib, 0, none⟩) g.length g.length) (fz g.length (fun x => bst L dm g.length e x a))) ∧ Hid (Frm wq wr [ib])) (fun z _ => g.length - (intOf z).toNat)
          case atStart => exact ⟨0, Nat.zero_le _, rfl, HIQ, hide (Frm.refl _ _)⟩
          case round =>
            clear HIQ
            obtain ⟨wp, rfl⟩ : ∃ x, x = wr := ⟨_, rfl⟩
            obtain ⟨a, ha, rfl, HI, HFI⟩ := hrel
            by_cases hlt2 : a < g.length
            · have hlt2' : (a : Int) < g.length := by omega
              have hOF := HO'.out.far HFI.out (fun x hx => by rw [List.mem_singleton.1 hx]; omega)
              obtain ⟨v, hv⟩ : ∃ v, R[a]? = some v := ⟨_, List.getElem?_eq_getElem (by rw [hRl]; exact hlt2)⟩
              have hdg := dL_get (L := L) (dm := dm) (n := g.length) hlt2
              have hrow := HO'.out.row a v _ hv hdg
              obtain ⟨b1, o1, e1, -, c1⟩ := hOF.own.rd.at a v hv
              subst e1
              have HRW := hide hrow
              obtain ⟨B, d, rfl, hd, hdm, -⟩ := hrow.rd
              have hd9 : d ≤ 9223372036854775807 := by unfold maxLen at hdm; omega
              rw [ints_len] at hd c1
              have hdl0 := dA_len L dm g.length a
              obtain ⟨dl, hdl⟩ : ∃ x, (dA L dm g.length a).length = x := ⟨_, rfl⟩
              rw [hdl] at hd c1 hdl0
              have HDL := hide hdl
              clear hOF hv hdg hrow hdm hdl
              go_wp2_with fail
              go_loopw [111] (fun z wr => ∃ j : Nat, j ≤ dl ∧ z = .int .i64 (j : Nat) ∧ Hid (Own wr ib 3 .i64 (.slice (some ⟨ib, 0, none⟩) g.length g.length) (fz g.length (bsj L dm g.length e a j))) ∧ Hid (Frm wq wr [ib])) (fun z _ => dl - (intOf z).toNat)
              case atStart => exact ⟨0, Nat.zero_le _, rfl, hide (by
                rw [fz_ext (h := fun x => bst L dm g.length e x a) (fun i _ => by unfold bsj; rw [List.take_zero, if_neg (by simp)])]; exact HI.out), HFI⟩
              case round =>
                clear HI HFI c1
                obtain ⟨wo, rfl⟩ : ∃ x, x = wr := ⟨_, rfl⟩
                obtain ⟨j, hj, rfl, HI, HFI⟩ := hrel
                by_cases hjl : j < dl
                · have hjl' : (j : Int) < dl := by omega
                  obtain ⟨b, hb⟩ : ∃ b, (dA L dm g.length a)[j]? = some b := ⟨_, List.getElem?_eq_getElem (by rw [HDL.out]; exact hjl)⟩
                  obtain ⟨hbn, hsb⟩ := dA_mem.1 (List.mem_of_getElem? hb)
                  have hbn' : (b : Int) < g.length := by omega
                  have hbe : b ≠ e := fun h => by subst h; rw [HBT.out.sA_root] at hsb; cases hsb
                  have hro := HRW.out.frmS HFI.out (fun x hx hm => by
                    have h1 := (HRW.out.size x hx).1
                    rw [List.mem_singleton.1 hm] at h1
                    omega)
                  obtain ⟨b2, o2, e2, -, cx⟩ := rd_at hro.rd (k := j) (x := (b : Int)) (by rw [ints_get, hb]; rfl)
                  subst e2
                  obtain ⟨k1, k2, k3⟩ := bsj_step (L := L) (dm := dm) (e := e) hb
                  have ci := HI.out.cellAt (fz_get (bsj L dm g.length e a j) hbn)
                  have fi := HI.out.freeAt b
                  rw [k2] at ci
                  have hset := HI.out.set b (a : Int)
                  have hCQ := HC.out.frmS HFI.out (fun x hx hm => by
                    have e1 : ib + 1 = x := by simpa [Value.ownBlock] using hx
                    rw [List.mem_singleton] at hm; omega)
                  have ka := hCQ.cellAt (fz_get (fun x => ((cA L dm g.length x : Nat) : Int)) hlt2)
                  have HFS := hide (HFI.out.setCell ⟨ib, b, none⟩ (.int .i64 (a : Int)) (.inl (by simp)))
                  rcases bst_inv L dm g.length e hbe a with ⟨h1, h2⟩ | ⟨r, h1, h2, h3, h4⟩
                  · rw [h1] at ci
                    have hval : bst L dm g.length e b (a + 1) = (a : Int) := by rw [bst, if_pos ⟨hsb, .inl (by rw [h1]; omega)⟩]
                    rw [fz_set (h := bsj L dm g.length e a (j + 1)) (by rw [k1, hval]) k3] at hset
                    have HS := hide hset
                    have t1 : decide ((-1 : Int) < 0) = true := by decide
                    clear hb hsb hbe hro k1 k2 k3 hset hCQ h1 h2 hval HI HFI
                    go_wp2_with fail
                    go_quiet (fail)
                    go_wp2_with fail
                    go_roundw
                    case rel => exact ⟨j + 1, by omega, by go_num, hide (HS.out.drewN _), hide (HFS.out.drewN _)⟩
                    case measure => simp [intOf]; omega
                  · rw [h1] at ci
                    have hrn : r < g.length := by omega
                    have hrn' : (r : Int) < g.length := by omega
                    have kr := hCQ.cellAt (fz_get (fun x => ((cA L dm g.length x : Nat) : Int)) hrn)
                    have t1 : decide ((r : Int) < 0) = false := decide_eq_false (by omega)
                    obtain ⟨ya, hya⟩ : ∃ y, cA L dm g.length a = y := ⟨_, rfl⟩
                    obtain ⟨yr, hyr⟩ : ∃ y, cA L dm g.length r = y := ⟨_, rfl⟩
                    rw [hya] at ka
                    rw [hyr] at kr
                    by_cases hcmp : ya > yr
                    · have t2 : decide ((ya : Int) > (yr : Int)) = true := decide_eq_true (by omega)
                      have t3 : decide ((yr : Int) < (ya : Int)) = true := decide_eq_true (by omega)
                      have t4 : decide (yr < ya) = true := decide_eq_true (by omega)
                      have hval : bst L dm g.length e b (a + 1) = (a : Int) := by rw [bst, if_pos ⟨hsb, .inr (by rw [h1, Int.toNat_natCast, hya, hyr]; exact hcmp)⟩]
                      rw [fz_set (h := bsj L dm g.length e a (j + 1)) (by rw [k1, hval]) k3] at hset
                      have HS := hide hset
                      clear hb hsb hbe hro k1 k2 k3 hset hCQ h1 h2 h3 h4 hval hya hyr hcmp HI HFI
                      go_wp2_with fail
                      go_quiet (fail)
                      go_wp2_with fail
                      go_roundw
                      case rel => exact ⟨j + 1, by omega, by go_num, hide (HS.out.drewN _), hide (HFS.out.drewN _)⟩
                      case measure => simp [intOf]; omega
                    · have t2 : decide ((ya : Int) > (yr : Int)) = false := decide_eq_false (by omega)
                      have t3 : decide ((yr : Int) < (ya : Int)) = false := decide_eq_false (by omega)
                      have t4 : decide (yr < ya) = false := decide_eq_false (by omega)
                      have hval : bst L dm g.length e b (a + 1) = (r : Int) := by rw [bst, if_neg (by rw [h1, Int.toNat_natCast, hya, hyr]; rintro ⟨_, h | h⟩; omega; exact hcmp h), h1]
                      have hI2 := HI.out
                      rw [fz_ext (h := bsj L dm g.length e a (j + 1)) (fun x _ => by
                        by_cases c : x = b
                        · subst c; rw [k1, k2, hval, h1]
                        · exact (k3 x c).symm)] at hI2
                      have HS := hide hI2
                      clear hb hsb hbe hro k1 k2 k3 hset hCQ h1 h2 h3 h4 hval hya hyr hcmp HI HFS hI2
                      go_wp2_with fail
                      go_quiet (fail)
                      go_wp2_with fail
                      go_roundw
                      case rel => exact ⟨j + 1, by omega, by go_num, hide (HS.out.drewN _), hide (HFI.out.drewN _)⟩
                      case measure => simp [intOf]; omega
                · obtain rfl : j = dl := by omega
                  have hI2 := HI.out
                  rw [fz_ext (h := fun x => bst L dm g.length e x (a + 1)) (fun x hx => bsj_end (by rw [HDL.out]; exact Nat.le_refl _) hx)] at hI2
                  have HS := hide hI2
                  clear HI hI2
                  go_wp2_with fail
                  go_roundw
                  case rel => exact ⟨a + 1, by omega, by go_num, HS, HFI⟩
                  case measure => simp [intOf]; omega
            · obtain rfl : a = g.length := by omega
              have hI2 := HI.out
              rw [fz_ext (h := bf L dm) (fun x hx => HBT.out.bst_end x hx)] at hI2
              have HZ := hide (And.intro (hI2.low (b := q) (by omega)) (HBQ.out.trans (HFI.out.toBelow (B := q) (fun x hx => by rw [List.mem_singleton.1 hx]; omega) (by have := HBQ.out.size; omega))))
              clear HI hI2 HFI
              go_wp2_with fail
              go_ret
              rw [hq]
              exact ⟨⟨_, rfl, HZ.out.1⟩, HZ.out.2⟩
end Go.Proofs.Ytmopnceglnoncaa

/-
  Layer 8 (domtree): the list that Build returns is a tree; whoever is above a node dominates it. As mathematics.
-/
import Derived.Test.YtmopnceglnoncaaBuild
import Derived.Test.YtmopnceglnoncaaPreM
namespace Go.Proofs.Ytmopnceglnoncaa
open Go.RowKit

section
variable {m : Nat} {E : Nat → Nat → Prop} {par : Nat → Nat}
theorem Av.ne {d x : Nat} (h : Av E d x) : x ≠ d := by
  cases h with
  | root h => exact h
  | step _ _ h => exact h
theorem Av.cross {i d x : Nat} (h : Av E i x) : Av E d x ∨ Av E i d := by
  induction h with
  | root h0 =>
    by_cases e : 0 = d
    · subst e; exact .inr (.root h0)
    · exact .inl (.root e)
  | step hu he hx ih =>
    rename_i u x
    rcases ih with ih | ih
    · by_cases e : x = d
      · subst e; exact .inr (.step hu he hx)
      · exact .inl (.step ih he e)
    · exact .inr ih
theorem Dft.avAnc (D : Dft m E par) {d : Nat} : ∀ v, v < m → ¬ Anc par d v → Av E d v := fun v => by
  induction v using Nat.strongRecOn with
  | _ v ih =>
    intro hv h
    by_cases h0 : v = 0
    · subst h0
      exact .root (fun e => h (e ▸ .here))
    · have h1 := D.parlt v (by omega) hv
      exact .step (ih (par v) h1 (by omega) (fun k => h (.up (by omega) k))) (D.parE v (by omega) hv) (fun e => h (e ▸ .here))
/-- Who dominates p: p, and whoever dominates its immediate dominator. -/
theorem IsIdom.doms (D : Dft m E par) {i p d : Nat} (hp : p < m) (hi : IsIdom E d p) (hne : i ≠ p) : ¬ Av E i p ↔ ¬ Av E i d := by
  have ha : Anc par d p := Classical.byContradiction fun h => hi.dom (D.avAnc p hp h)
  constructor
  · intro h k
    rcases Nat.lt_trichotomy i d with h1 | h1 | h1
    · exact h (D.avDown ha hp h1 k)
    · exact k.ne h1.symm
    · rcases Nat.lt_trichotomy i p with h2 | h2 | h2
      · exact h (hi.last i h1 h2)
      · exact hne h2
      · exact h (D.avTree hp h2)
  · intro h k
    rcases k.cross (d := d) with k | k
    · exact hi.dom k
    · exact h k
end
/-- x can be reached from e without a. -/
inductive AvG (g : List (List Int)) (e a : Nat) : Nat → Prop
  | root : e ≠ a → AvG g e a e
  | step {u x : Nat} : AvG g e a u → x ∈ succs g u → x ≠ a → AvG g e a x
theorem AvG.way {g : List (List Int)} {e a x : Nat} (h : AvG g e a x) : Way g e x := by
  induction h with
  | root _ => exact .here
  | step _ hx _ ih => exact .step ih hx
def dqN (dm : Nat → Nat) : Nat → Nat → Nat
  | 0, _ => 0
  | k + 1, p => if p = 0 then 0 else dqN dm k (dm p) + 1
theorem dqN_eq {dm : Nat → Nat} {m : Nat} (h : ∀ p, 0 < p → p < m → dm p < p) : ∀ k l p, p ≤ k → p ≤ l → p < m → dqN dm k p = dqN dm l p
  | 0, l, p, hk, hl, hm => by
    have : p = 0 := by omega
    subst this
    cases l with
    | zero => rfl
    | succ l => simp [dqN]
  | k + 1, 0, p, hk, hl, hm => by
    have : p = 0 := by omega
    subst this
    simp [dqN]
  | k + 1, l + 1, p, hk, hl, hm => by
    unfold dqN
    by_cases e : p = 0
    · rw [if_pos e, if_pos e]
    · have := h p (by omega) hm
      rw [if_neg e, if_neg e, dqN_eq h k l (dm p) (by omega) (by omega) (by omega)]
theorem dq_step {dm : Nat → Nat} {m : Nat} (h : ∀ p, 0 < p → p < m → dm p < p) {p : Nat} (h0 : 0 < p) (hm : p < m) : dqN dm p p = dqN dm (dm p) (dm p) + 1 := by
  have h1 := h p h0 hm
  obtain ⟨k, rfl⟩ : ∃ k, p = k + 1 := ⟨p - 1, by omega⟩
  rw [dqN, if_neg (by omega), dqN_eq h k (dm (k + 1)) (dm (k + 1)) (by omega) (Nat.le_refl _) (by omega)]
/-- The tree that Build returns, in places. -/
structure Bt (g : List (List Int)) (e : Nat) (L P : List Nat) (dm : Nat → Nat) : Prop where
  sp : Spans g e 0 [] [] L P
  id : ∀ p, 0 < p → p < L.length → IsIdom (PE g L) (dm p) p
  dz : dm 0 = 0
def bf (L : List Nat) (dm : Nat → Nat) : Nat → Int := idfTo L dm L.length
def bd (L : List Nat) (dm : Nat → Nat) (x : Nat) : Nat := dqN dm (L.idxOf x) (L.idxOf x)
section
variable {g : List (List Int)} {e : Nat} {L P : List Nat} {dm : Nat → Nat}
theorem Bt.lt (B : Bt g e L P dm) : ∀ p, 0 < p → p < L.length → dm p < p := fun p h0 h1 => (B.id p h0 h1).lt
theorem Bt.at_ (B : Bt g e L P dm) {p x : Nat} (hx : L[p]? = some x) : p < L.length ∧ x < g.length ∧ L.idxOf x = p ∧ ∃ y, L[dm p]? = some y ∧ bf L dm x = (y : Int) := by
  have hp : p < L.length := (List.getElem?_eq_some_iff.1 hx).1
  obtain ⟨h1, h2⟩ := idx_get B.sp.tail.nodup hx
  have hd : dm p < L.length := by
    by_cases h0 : p = 0
    · subst h0; rw [B.dz]; exact hp
    · have := B.lt p (by omega) hp; omega
  obtain ⟨y, hy⟩ : ∃ y, L[dm p]? = some y := ⟨_, List.getElem?_eq_getElem hd⟩
  refine ⟨hp, B.sp.tail.bnd x h1, h2, y, hy, ?_⟩
  unfold bf idfTo
  rw [if_pos ⟨h1, by omega⟩, h2, List.getD_eq_getElem?_getD, hy]; rfl
theorem Bt.in_ (x : Nat) : bf L dm x ≠ -1 ↔ x ∈ L := by
  unfold bf idfTo
  by_cases h : x ∈ L
  · rw [if_pos ⟨h, List.idxOf_lt_length_of_mem h⟩]
    exact ⟨fun _ => h, fun _ => by omega⟩
  · rw [if_neg (fun d => h d.1)]
    exact ⟨fun k => absurd rfl k, fun k => absurd k h⟩
theorem mem_at {x : Nat} (h : x ∈ L) : ∃ p : Nat, L[p]? = some x := List.mem_iff_getElem?.1 h
theorem Bt.tree (B : Bt g e L P dm) : Tr g.length (bf L dm) e (bd L dm) := by
  have hf := B.sp.first
  obtain ⟨h1, h2, h3, y, h4, h5⟩ := B.at_ hf
  refine ⟨h2, ?_, ?_, fun x hx hne => ?_⟩
  · rw [h5]
    rw [B.dz, hf] at h4
    injection h4 with h4
    rw [h4]
  · unfold bd; rw [h3]; rfl
  · by_cases hm : x ∈ L
    · obtain ⟨p, hp⟩ := mem_at hm
      obtain ⟨k1, k2, k3, y, k4, k5⟩ := B.at_ hp
      have h0 : 0 < p := by
        rcases Nat.eq_zero_or_pos p with h | h
        · subst h; rw [hf] at hp; injection hp with hp; exact absurd hp.symm hne
        · exact h
      obtain ⟨_, j2, j3, _⟩ := B.at_ k4
      refine .inr ⟨y, k5, j2, (Bt.in_ y).2 (List.mem_of_getElem? k4), ?_⟩
      unfold bd
      rw [k3, j3]
      exact dq_step B.lt h0 k1
    · exact .inl (Classical.byContradiction fun h => hm ((Bt.in_ x).1 h))
theorem Bt.avP (B : Bt g e L P dm) {a i : Nat} (hi : L[i]? = some a) {x : Nat} (h : AvG g e a x) : ∀ p, L[p]? = some x → Av (PE g L) i p := by
  have hnd := B.sp.tail.nodup
  induction h with
  | root h0 =>
    intro p hp
    obtain rfl : p = 0 := nodup_get hnd hp B.sp.first
    exact .root (fun e' => by subst e'; rw [hp] at hi; injection hi with hi; exact h0 hi)
  | step hu hx hne ih =>
    rename_i u x
    intro p hp
    obtain ⟨q, hq⟩ := mem_at ((B.sp.reach u).2 hu.way)
    exact .step (ih q hq) ⟨u, x, hq, hp, hx⟩ (fun e' => by subst e'; rw [hp] at hi; injection hi with hi; exact hne hi)
theorem Bt.avG (B : Bt g e L P dm) {a i : Nat} (hi : L[i]? = some a) {p : Nat} (h : Av (PE g L) i p) : ∀ x, L[p]? = some x → AvG g e a x := by
  have hnd := B.sp.tail.nodup
  induction h with
  | root h0 =>
    intro x hx
    rw [B.sp.first] at hx
    injection hx with hx
    subst hx
    exact .root (fun e' => h0 (nodup_get hnd B.sp.first (e' ▸ hi)))
  | step hu he hne ih =>
    rename_i q p
    intro x hx
    obtain ⟨u, x', h1, h2, h3⟩ := he
    rw [h2] at hx
    injection hx with hx
    subst hx
    exact .step (ih u h1) h3 (fun e' => hne (nodup_get hnd h2 (e' ▸ hi)))
theorem Bt.out (B : Bt g e L P dm) {a x : Nat} (ha : a ∉ L) (hx : x ∈ L) : AvG g e a x := by
  have hw := (B.sp.reach x).1 hx
  clear hx
  induction hw with
  | here => exact .root (fun e' => ha (e' ▸ (B.sp.reach e).2 .here))
  | step hu hs ih => exact .step ih hs (fun e' => ha (e' ▸ (B.sp.reach _).2 (.step hu hs)))
/-- Whoever is above a node dominates it. -/
theorem Bt.dom (B : Bt g e L P dm) {x : Nat} (hx : x ∈ L) (a : Nat) : a ∈ pth (bf L dm) (bd L dm) x ↔ ¬ AvG g e a x := by
  have T := B.tree
  have D := B.sp.dft
  by_cases ha : a ∈ L
  · obtain ⟨i, hi⟩ := mem_at ha
    have key : ∀ p x, L[p]? = some x → (a ∈ pth (bf L dm) (bd L dm) x ↔ ¬ Av (PE g L) i p) := fun p => by
      induction p using Nat.strongRecOn with
      | _ p ih =>
        intro x hp
        obtain ⟨k1, k2, k3, y, k4, k5⟩ := B.at_ hp
        by_cases h0 : p = 0
        · subst h0
          obtain rfl : e = x := by have := B.sp.first; rw [hp] at this; injection this with this; exact this.symm
          rw [T.ptop, List.mem_singleton]
          constructor
          · intro e' k
            subst e'
            exact k.ne (nodup_get B.sp.tail.nodup hp hi)
          · intro h
            apply Classical.byContradiction
            intro hne
            exact h (.root (fun e' => hne (by subst e'; rw [hp] at hi; injection hi with hi; exact hi.symm)))
        · have hxe : x ≠ e := fun e' => h0 (nodup_get B.sp.tail.nodup hp (e' ▸ B.sp.first))
          obtain ⟨u, j1, j2, j3, j4, j5, j6, j7⟩ := T.node k2 ((Bt.in_ x).2 (List.mem_of_getElem? hp)) hxe
          obtain rfl : u = y := by omega
          rw [j7, List.mem_cons, ih (dm p) (B.lt p (by omega) k1) u k4]
          by_cases e' : i = p
          · subst e'
            rw [hp] at hi
            injection hi with hi
            exact ⟨fun _ k => k.ne rfl, fun _ => .inl hi.symm⟩
          · rw [(B.id p (by omega) k1).doms D k1 e']
            constructor
            · rintro (h | h)
              · subst h; exact absurd (nodup_get B.sp.tail.nodup hi hp) e'
              · exact h
            · exact .inr
    obtain ⟨p, hp⟩ := mem_at hx
    rw [key p x hp]
    exact ⟨fun h k => h (B.avP hi k p hp), fun h k => h (B.avG hi k x hp)⟩
  · refine ⟨fun h => ?_, fun h => absurd (B.out ha hx) h⟩
    have hxb := B.sp.tail.bnd x hx
    have := (T.mem _ x rfl hxb ((Bt.in_ x).2 hx) a h).2.1
    exact absurd ((Bt.in_ a).1 this) ha
end
end Go.Proofs.Ytmopnceglnoncaa

namespace Go.Proofs.Ytmopnceglnoncaa
open Go.RowKit

def cutRow (g : List (List Int)) (a i : Nat) : List Int := (g.getD i []).filter fun s => decide (i ≠ a ∧ s ≠ (a : Int))
/-- The graph without the edges of a. -/
def cutG (g : List (List Int)) (a : Nat) : List (List Int) := (List.range g.length).map (cutRow g a)
theorem cutG_len (g : List (List Int)) (a : Nat) : (cutG g a).length = g.length := by simp [cutG]
theorem cutG_get {g : List (List Int)} {a i : Nat} (h : i < g.length) : (cutG g a)[i]? = some (cutRow g a i) := by simp [cutG, h]
theorem row_nat {g : List (List Int)} (h : okG g = true) {u : Nat} {s : Int} (hs : s ∈ g.getD u []) : u < g.length ∧ ∃ b : Nat, s = b ∧ b < g.length := by
  by_cases hu : u < g.length
  · obtain ⟨l, hl⟩ : ∃ l, g[u]? = some l := ⟨_, List.getElem?_eq_getElem hu⟩
    rw [getD_of hl] at hs
    obtain ⟨j, hj⟩ := List.mem_iff_getElem?.1 hs
    exact ⟨hu, ok_node h hl hj⟩
  · rw [List.getD_eq_getElem?_getD, List.getElem?_eq_none (by omega)] at hs
    cases hs
theorem cut_succs {g : List (List Int)} (h : okG g = true) {a u x : Nat} : x ∈ succs (cutG g a) u ↔ x ∈ succs g u ∧ u ≠ a ∧ x ≠ a := by
  unfold succs
  by_cases hu : u < g.length
  · rw [getD_of (cutG_get hu)]
    unfold cutRow
    rw [List.mem_map, List.mem_map]
    constructor
    · rintro ⟨s, hs, rfl⟩
      obtain ⟨h1, h2⟩ := List.mem_filter.1 hs
      obtain ⟨-, b, rfl, -⟩ := row_nat h h1
      have h3 := of_decide_eq_true h2
      exact ⟨⟨_, h1, rfl⟩, h3.1, fun e => h3.2 (by rw [← e]; rfl)⟩
    · rintro ⟨⟨s, hs, rfl⟩, h1, h2⟩
      obtain ⟨-, b, rfl, -⟩ := row_nat h hs
      exact ⟨_, List.mem_filter.2 ⟨hs, decide_eq_true ⟨h1, fun e => h2 (by rw [e]; rfl)⟩⟩, rfl⟩
  · constructor
    · intro hx
      rw [List.getD_eq_getElem?_getD, List.getElem?_eq_none (by rw [cutG_len]; omega)] at hx
      cases hx
    · rintro ⟨hx, -, -⟩
      rw [List.getD_eq_getElem?_getD, List.getElem?_eq_none (by omega)] at hx
      cases hx
/-- Reached without a: reached in the graph without a. -/
theorem av_cut {g : List (List Int)} (h : okG g = true) {e a x : Nat} : AvG g e a x ↔ e ≠ a ∧ Way (cutG g a) e x := by
  constructor
  · intro k
    induction k with
    | root h0 => exact ⟨h0, .here⟩
    | step hu hx hne ih =>
      have hn : ∀ {u}, AvG g e a u → u ≠ a := fun k => by
        cases k with
        | root h => exact h
        | step _ _ h => exact h
      exact ⟨ih.1, .step ih.2 ((cut_succs h).2 ⟨hx, hn hu, hne⟩)⟩
  · rintro ⟨h0, k⟩
    induction k with
    | here => exact .root h0
    | step _ hx ih =>
      obtain ⟨h1, _, h3⟩ := (cut_succs h).1 hx
      exact .step ih h1 h3
theorem cut_ok {g : List (List Int)} (h : okG g = true) (a : Nat) : okG (cutG g a) = true := by
  unfold okG
  rw [List.all_eq_true]
  intro l hl
  obtain ⟨i, hi, rfl⟩ := List.mem_map.1 hl
  unfold okRow
  rw [List.all_eq_true]
  intro s hs
  obtain ⟨-, b, rfl, hb⟩ := row_nat h (List.mem_filter.1 hs).1
  rw [cutG_len]
  simpa using hb
section
variable {n r : Nat} {f : Nat → Int} {dp : Nat → Nat}
/-- In the list, whoever is above a node comes before it. -/
theorem flat_before {α : Type} {F : α → List Nat} {K : List α} {a b : List Nat} {x : Nat} (h : K.flatMap F = a ++ x :: b) : ∃ c ∈ K, ∃ a1 a2 b1, a = a1 ++ a2 ∧ F c = a2 ++ x :: b1 := by
  induction K generalizing a with
  | nil => simp at h
  | cons c K ih =>
    rw [List.flatMap_cons] at h
    rcases List.append_eq_append_iff.1 h with ⟨a', h1, h2⟩ | ⟨c', h1, h2⟩
    · obtain ⟨d, hd, a1, a2, b1, h3, h4⟩ := ih h2
      exact ⟨d, List.mem_cons_of_mem _ hd, F c ++ a1, a2, b1, by rw [h1, h3, List.append_assoc], h4⟩
    · cases c' with
      | nil =>
        rw [List.nil_append] at h2
        obtain ⟨d, hd, a1, a2, b1, h3, h4⟩ := ih (a := []) h2.symm
        rw [List.append_nil] at h1
        have h5 := List.append_eq_nil_iff.1 h3.symm
        exact ⟨d, List.mem_cons_of_mem _ hd, a, [], b1, by simp, by rw [h4, h5.2]⟩
      | cons y c' =>
        rw [List.cons_append] at h2
        injection h2 with h3 h4
        subst h3
        exact ⟨c, List.mem_cons_self .., [], a, c', rfl, h1⟩
theorem Tr.before (T : Tr n f r dp) : ∀ k i, n - dp i = k → i < n → f i ≠ -1 → ∀ a x b, pre f n dp i = a ++ x :: b → x ≠ i → ∃ u : Nat, f x = (u : Int) ∧ u ∈ a := fun k => by
  induction k using Nat.strongRecOn with
  | _ k ih =>
    intro i hk hi hf a x b h hne
    have hd := T.dlt hi hf
    rw [T.pre_eq hi hf] at h
    cases a with
    | nil => rw [List.nil_append] at h; injection h with h _; exact absurd h.symm hne
    | cons y a =>
      rw [List.cons_append] at h
      injection h with h1 h2
      subst h1
      obtain ⟨c, hc, a1, a2, b1, h3, h4⟩ := flat_before h2
      have kc := T.kid hc
      by_cases hxc : x = c
      · subst hxc
        exact ⟨i, (kids_mem.1 hc).2.1, by simp⟩
      · obtain ⟨u, h5, h6⟩ := ih (n - dp c) (by omega) c rfl kc.1 kc.2.1 a2 x b1 h4 hxc
        exact ⟨u, h5, by rw [h3]; simp [h6]⟩
end
end Go.Proofs.Ytmopnceglnoncaa

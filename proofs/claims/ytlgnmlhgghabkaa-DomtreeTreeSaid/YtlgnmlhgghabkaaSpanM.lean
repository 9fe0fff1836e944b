/-
  Layer 8 (domtree): the search by recursion, as mathematics: its places form a depth-first tree.
-/
import Derived.Test.YtlgnmlhgghabkaaLtRun
import Derived.Test.YtlgnmlhgghabkaaTReachMath
import Derived.Test.YtlgnmlhgghabkaaDBase
namespace Go.Proofs.Ytlgnmlhgghabkaa
open Go.RowKit

/-- The search has left place u; e: the first place that was entered behind that. -/
structure Fin (g : List (List Int)) (L P : List Nat) (u e : Nat) : Prop where
  lt : u < e
  le : e ≤ L.length
  desc : ∀ v q, u < v → v < e → P[v]? = some q → u ≤ q
  far : ∀ v q, e ≤ v → P[v]? = some q → q < u ∨ e ≤ q
  succ : ∀ x y, L[u]? = some x → y ∈ succs g x → ∃ q, q < e ∧ L[q]? = some y
/-- What is true of the places that came behind the first k. -/
structure Tail (g : List (List Int)) (k : Nat) (L P : List Nat) : Prop where
  len : P.length = L.length
  nodup : L.Nodup
  bnd : ∀ x ∈ L, x < g.length
  tree : ∀ v q, k < v → P[v]? = some q → k ≤ q ∧ q < v ∧ ∃ x y, L[q]? = some x ∧ L[v]? = some y ∧ y ∈ succs g x
/-- A visit of n, from its begin to its end. -/
structure Spans (g : List (List Int)) (n par : Nat) (L P L' P' : List Nat) : Prop where
  ext : ∃ A, L' = L ++ n :: A
  extP : ∃ B, P' = P ++ par :: B
  tail : Tail g L.length L' P'
  fin : ∀ u, L.length ≤ u → u < L'.length → ∃ e, Fin g L' P' u e
/-- Within a visit of n: j successors are done. -/
structure Spanning (g : List (List Int)) (n par : Nat) (L P L' P' : List Nat) (j : Nat) : Prop where
  ext : ∃ A, L' = L ++ n :: A
  extP : ∃ B, P' = P ++ par :: B
  tail : Tail g L.length L' P'
  fin : ∀ u, L.length < u → u < L'.length → ∃ e, Fin g L' P' u e
  seen : ∀ i y, i < j → (succs g n)[i]? = some y → y ∈ L'
section
variable {g : List (List Int)} {n par j y : Nat} {L P L' P' L2 P2 : List Nat}
theorem app_at {A B : List Nat} {i x : Nat} (h : A[i]? = some x) : (A ++ B)[i]? = some x := by
  rw [List.getElem?_append_left (List.getElem?_eq_some_iff.1 h).1]; exact h
theorem app_lt {A B : List Nat} {i x : Nat} (hi : i < A.length) (h : (A ++ B)[i]? = some x) : A[i]? = some x := by
  rwa [List.getElem?_append_left hi] at h
theorem Spanning.begin (hlen : P.length = L.length) (hnd : L.Nodup) (hb : ∀ x ∈ L, x < g.length) (hn : n < g.length) (hnl : n ∉ L) : Spanning g n par L P (L ++ [n]) (P ++ [par]) 0 := by
  refine ⟨⟨[], rfl⟩, ⟨[], rfl⟩, ⟨by simp [hlen], ?_, fun x hx => ?_, fun v q hv hq => ?_⟩, fun u h1 h2 => ?_, fun i z hi => by omega⟩
  · rw [List.nodup_append]
    exact ⟨hnd, by simp, fun a ha b hb e => hnl (by rw [List.mem_singleton] at hb; rw [← hb, ← e]; exact ha)⟩
  · rcases List.mem_append.1 hx with hx | hx
    · exact hb x hx
    · rw [List.mem_singleton.1 hx]; exact hn
  · have := (List.getElem?_eq_some_iff.1 hq).1
    simp at this; omega
  · simp at h2; omega
theorem Spanning.skip (h : Spanning g n par L P L' P' j) (hy : (succs g n)[j]? = some y) (hm : y ∈ L') : Spanning g n par L P L' P' (j + 1) :=
  ⟨h.ext, h.extP, h.tail, h.fin, fun i z hi hz => by
    rcases Nat.lt_succ_iff_lt_or_eq.1 hi with hi | rfl
    · exact h.seen i z hi hz
    · rw [hy] at hz; injection hz with e; exact e ▸ hm⟩
theorem Spanning.go (h : Spanning g n par L P L' P' j) (hy : (succs g n)[j]? = some y) (k : Spans g y L.length L' P' L2 P2) : Spanning g n par L P L2 P2 (j + 1) := by
  obtain ⟨A, eA⟩ := h.ext
  obtain ⟨B, eB⟩ := h.extP
  obtain ⟨A2, eA2⟩ := k.ext
  obtain ⟨B2, eB2⟩ := k.extP
  have hll : L.length < L'.length := by rw [eA]; simp
  have hpl : P'.length = L'.length := h.tail.len
  have hn : L'[L.length]? = some n := by rw [eA, List.getElem?_append_right (Nat.le_refl _), Nat.sub_self]; rfl
  have hy2 : L2[L'.length]? = some y := by rw [eA2, List.getElem?_append_right (Nat.le_refl _), Nat.sub_self]; rfl
  have up : ∀ {i x : Nat}, L'[i]? = some x → L2[i]? = some x := fun hx => by rw [eA2]; exact app_at hx
  have dn : ∀ {i q : Nat}, i < L'.length → P2[i]? = some q → P'[i]? = some q := fun hi hq => by
    rw [eB2] at hq
    exact app_lt (by omega) hq
  have par2 : ∀ q, P2[L'.length]? = some q → q = L.length := fun q hq => by
    rw [eB2, ← hpl, List.getElem?_append_right (Nat.le_refl _), Nat.sub_self] at hq
    injection hq with hq
    exact hq.symm
  refine ⟨⟨A ++ y :: A2, by rw [eA2, eA]; simp⟩, ⟨B ++ L.length :: B2, by rw [eB2, eB]; simp⟩, ⟨k.tail.len, k.tail.nodup, k.tail.bnd, fun v q hv hq => ?_⟩, fun u h1 h2 => ?_, fun i z hi hz => ?_⟩
  · rcases Nat.lt_trichotomy v L'.length with c | c | c
    · obtain ⟨h1, h2, x, z, h3, h4, h5⟩ := h.tail.tree v q hv (dn c hq)
      exact ⟨h1, h2, x, z, up h3, up h4, h5⟩
    · subst c
      obtain rfl := par2 q hq
      exact ⟨Nat.le_refl _, hll, n, y, up hn, hy2, List.mem_of_getElem? hy⟩
    · obtain ⟨h1, h2, h3⟩ := k.tail.tree v q c hq
      exact ⟨by omega, h2, h3⟩
  · rcases Nat.lt_or_ge u L'.length with c | c
    · obtain ⟨e, F⟩ := h.fin u h1 c
      have hle := F.le
      refine ⟨e, F.lt, by have := congrArg List.length eA2; simp at this; omega, fun v q h3 h4 hq => F.desc v q h3 h4 (dn (by omega) hq), fun v q h3 hq => ?_, fun x z hx hz => ?_⟩
      · rcases Nat.lt_trichotomy v L'.length with c | c | c
        · exact F.far v q h3 (dn c hq)
        · subst c
          have := par2 q hq
          omega
        · have := (k.tail.tree v q c hq).1
          omega
      · obtain ⟨q, h5, h6⟩ := F.succ x z (by
          obtain ⟨x', hx'⟩ : ∃ x', L'[u]? = some x' := ⟨_, List.getElem?_eq_getElem c⟩
          rw [up hx'] at hx
          injection hx with e
          exact e ▸ hx') hz
        exact ⟨q, h5, up h6⟩
    · exact k.fin u c h2
  · rcases Nat.lt_succ_iff_lt_or_eq.1 hi with hi | rfl
    · obtain ⟨q, hq⟩ := List.getElem?_of_mem (h.seen i z hi hz)
      exact List.mem_of_getElem? (up hq)
    · rw [hy] at hz; injection hz with e
      exact e ▸ List.mem_of_getElem? hy2
theorem Spanning.finish (h : Spanning g n par L P L' P' j) (hj : (succs g n).length ≤ j) : Spans g n par L P L' P' := by
  obtain ⟨A, eA⟩ := h.ext
  have hll : L.length < L'.length := by rw [eA]; simp
  have hn : L'[L.length]? = some n := by rw [eA, List.getElem?_append_right (Nat.le_refl _), Nat.sub_self]; rfl
  refine ⟨h.ext, h.extP, h.tail, fun u h1 h2 => ?_⟩
  by_cases c : u = L.length
  · subst c
    refine ⟨L'.length, hll, Nat.le_refl _, fun v q h3 _ hq => (h.tail.tree v q h3 hq).1, fun v q h3 hq => ?_, fun x y hx hy => ?_⟩
    · have := (List.getElem?_eq_some_iff.1 hq).1
      have := h.tail.len
      omega
    · rw [hn] at hx
      injection hx with e
      subst e
      obtain ⟨i, hi⟩ := List.getElem?_of_mem hy
      have hlt := (List.getElem?_eq_some_iff.1 hi).1
      obtain ⟨q, hq⟩ := List.getElem?_of_mem (h.seen i y (by omega) hi)
      exact ⟨q, (List.getElem?_eq_some_iff.1 hq).1, hq⟩
  · exact h.fin u (by omega) h2
end
/-- The edges between places. -/
def PE (g : List (List Int)) (L : List Nat) (u v : Nat) : Prop := ∃ x y, L[u]? = some x ∧ L[v]? = some y ∧ y ∈ succs g x
def parOf (P : List Nat) (v : Nat) : Nat := P.getD v 0
theorem parOf_get {P : List Nat} {v : Nat} (h : v < P.length) : P[v]? = some (parOf P v) := by
  unfold parOf; rw [List.getD_eq_getElem?_getD, List.getElem?_eq_getElem h]; rfl
section
variable {g : List (List Int)} {n : Nat} {L P : List Nat}
theorem Spans.first (h : Spans g n 0 [] [] L P) : L[0]? = some n := by
  obtain ⟨A, rfl⟩ := h.ext; rfl
theorem Fin.anc {u e : Nat} (F : Fin g L P u e) (hl : P.length = L.length) (hlt : ∀ v q, 0 < v → P[v]? = some q → q < v) : ∀ v, u ≤ v → v < e → Anc (parOf P) u v := fun v => by
  induction v using Nat.strongRecOn with
  | _ v ih =>
    intro h1 h2
    by_cases c : u = v
    · subst c; exact .here
    · have hp := parOf_get (P := P) (v := v) (by have := F.le; omega)
      have h3 := F.desc v _ (by omega) h2 hp
      have h4 := hlt v _ (by omega) hp
      exact .up (by omega) (ih _ h4 h3 (by omega))
theorem Spans.dft (h : Spans g n 0 [] [] L P) : Dft L.length (PE g L) (parOf P) := by
  have hl := h.tail.len
  have hpos : 0 < L.length := by obtain ⟨A, rfl⟩ := h.ext; simp
  have htr := h.tail.tree
  simp only [List.length_nil] at htr
  have hlt : ∀ v q, 0 < v → P[v]? = some q → q < v := fun v q h0 hq => (htr v q h0 hq).2.1
  refine ⟨hpos, fun u v ⟨x, y, h1, h2, _⟩ => ⟨(List.getElem?_eq_some_iff.1 h1).1, (List.getElem?_eq_some_iff.1 h2).1⟩, fun p h0 hp => hlt p _ h0 (parOf_get (by omega)), fun p h0 hp => ?_, fun u v ⟨x, y, h1, h2, h3⟩ huv => ?_, fun c y x hx hc h1 h2 => ?_⟩
  · obtain ⟨_, _, x, y, h1, h2, h3⟩ := htr p _ h0 (parOf_get (by omega))
    exact ⟨x, y, h1, h2, h3⟩
  · have hu := (List.getElem?_eq_some_iff.1 h1).1
    obtain ⟨e, F⟩ := h.fin u (Nat.zero_le _) hu
    obtain ⟨q, h4, h5⟩ := F.succ x y h1 h3
    have := nodup_get h.tail.nodup h5 h2
    subst this
    exact F.anc hl hlt q (by omega) h4
  · have hcx : c ≤ x ∧ c < L.length := by omega
    obtain ⟨e, F⟩ := h.fin c (Nat.zero_le _) hcx.2
    have hxe : ∀ x, Anc (parOf P) c x → x < L.length → x < e := fun x hc => by
      induction hc with
      | here => intro _; exact F.lt
      | @up v h0 hc ih =>
        intro hv
        have hp := parOf_get (P := P) (v := v) (by omega)
        have h3 := hlt v _ h0 hp
        have h4 := ih (by omega)
        apply Classical.byContradiction
        intro hn
        rcases F.far v _ (by omega) hp with h5 | h5
        · have hge : ∀ z, Anc (parOf P) c z → z < L.length → c ≤ z := fun z hz => by
            induction hz with
            | here => intro _; exact Nat.le_refl _
            | @up z hz0 _ ih =>
              intro hz
              have := hlt z _ hz0 (parOf_get (P := P) (by omega))
              have := ih (by omega)
              omega
          have := hge _ hc (by omega)
          omega
        · omega
    exact F.anc hl hlt y h1 (by have := hxe x hc hx; omega)
/-- Who has a place is who can be reached. -/
theorem Spans.reach (h : Spans g n 0 [] [] L P) (x : Nat) : x ∈ L ↔ Way g n x := by
  have hd := h.dft
  constructor
  · intro hx
    obtain ⟨p, hp⟩ := List.getElem?_of_mem hx
    clear hx
    induction p using Nat.strongRecOn generalizing x with
    | _ p ih =>
      by_cases c : p = 0
      · subst c
        rw [h.first] at hp
        injection hp with e
        subst e
        exact .here
      · have hpl := (List.getElem?_eq_some_iff.1 hp).1
        obtain ⟨a, b, h1, h2, h3⟩ := hd.parE p (by omega) hpl
        rw [hp] at h2
        injection h2 with e
        subst e
        exact .step (ih _ (hd.parlt p (by omega) hpl) a h1) h3
  · intro hw
    induction hw with
    | here => exact List.mem_of_getElem? h.first
    | @step u x _ hx ih =>
      obtain ⟨p, hp⟩ := List.getElem?_of_mem ih
      obtain ⟨e, F⟩ := h.fin p (Nat.zero_le _) (List.getElem?_eq_some_iff.1 hp).1
      obtain ⟨q, _, hq⟩ := F.succ u x hp hx
      exact List.mem_of_getElem? hq
end
end Go.Proofs.Ytlgnmlhgghabkaa

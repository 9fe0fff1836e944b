/-
  Layer 8 (domtree): the search in memory: span's closure.
-/
import Derived.Test.YtmopnceglnoncaaIdomM
import Derived.Test.YtmopnceglnoncaaTReach
import Derived.Test.YtmopnceglnoncaaDBase
import Derived.Test.YtmopnceglnoncaaSmall
namespace Go.Proofs.Ytmopnceglnoncaa
open Go.RowKit

/-- The search has left place u; e: the first place that was entered behind that. -/
structure Fin (g : List (List Int)) (L P : List Nat) (u e : Nat) : Prop where
  lt : u < e
  le : e ≤ L.length
  desc : ∀ v q, u < v → v < e → P[v]? = some q → u ≤ q
  far : ∀ v q, e ≤ v → P[v]? = some q → q < u ∨ e ≤ q
  succ : ∀ x y, L[u]? = some x → y ∈ succs g x → ∃ q, q < e ∧ L[q]? = some y
/-- What is true of the places that came behind the first k. -/
structure Tail (g : List (List Int)) (k : Nat) (L P : List Nat) : Prop where
  len : P.length = L.length
  nodup : L.Nodup
  bnd : ∀ x ∈ L, x < g.length
  tree : ∀ v q, k < v → P[v]? = some q → k ≤ q ∧ q < v ∧ ∃ x y, L[q]? = some x ∧ L[v]? = some y ∧ y ∈ succs g x
/-- A visit of n, from its begin to its end. -/
structure Spans (g : List (List Int)) (n par : Nat) (L P L' P' : List Nat) : Prop where
  ext : ∃ A, L' = L ++ n :: A
  extP : ∃ B, P' = P ++ par :: B
  tail : Tail g L.length L' P'
  fin : ∀ u, L.length ≤ u → u < L'.length → ∃ e, Fin g L' P' u e
/-- Within a visit of n: j successors are done. -/
structure Spanning (g : List (List Int)) (n par : Nat) (L P L' P' : List Nat) (j : Nat) : Prop where
  ext : ∃ A, L' = L ++ n :: A
  extP : ∃ B, P' = P ++ par :: B
  tail : Tail g L.length L' P'
  fin : ∀ u, L.length < u → u < L'.length → ∃ e, Fin g L' P' u e
  seen : ∀ i y, i < j → (succs g n)[i]? = some y → y ∈ L'
section
variable {g : List (List Int)} {n par j y : Nat} {L P L' P' L2 P2 : List Nat}
theorem app_at {A B : List Nat} {i x : Nat} (h : A[i]? = some x) : (A ++ B)[i]? = some x := by
  rw [List.getElem?_append_left (List.getElem?_eq_some_iff.1 h).1]; exact h
theorem app_lt {A B : List Nat} {i x : Nat} (hi : i < A.length) (h : (A ++ B)[i]? = some x) : A[i]? = some x := by
  rwa [List.getElem?_append_left hi] at h
theorem Spanning.begin (hlen : P.length = L.length) (hnd : L.Nodup) (hb : ∀ x ∈ L, x < g.length) (hn : n < g.length) (hnl : n ∉ L) : Spanning g n par L P (L ++ [n]) (P ++ [par]) 0 := by
  refine ⟨⟨[], rfl⟩, ⟨[], rfl⟩, ⟨by simp [hlen], ?_, fun x hx => ?_, fun v q hv hq => ?_⟩, fun u h1 h2 => ?_, fun i z hi => by omega⟩
  · rw [List.nodup_append]
    exact ⟨hnd, by simp, fun a ha b hb e => hnl (by rw [List.mem_singleton] at hb; rw [← hb, ← e]; exact ha)⟩
  · rcases List.mem_append.1 hx with hx | hx
    · exact hb x hx
    · rw [List.mem_singleton.1 hx]; exact hn
  · have := (List.getElem?_eq_some_iff.1 hq).1
    simp at this; omega
  · simp at h2; omega
theorem Spanning.skip (h : Spanning g n par L P L' P' j) (hy : (succs g n)[j]? = some y) (hm : y ∈ L') : Spanning g n par L P L' P' (j + 1) :=
  ⟨h.ext, h.extP, h.tail, h.fin, fun i z hi hz => by
    rcases Nat.lt_succ_iff_lt_or_eq.1 hi with hi | rfl
    · exact h.seen i z hi hz
    · rw [hy] at hz; injection hz with e; exact e ▸ hm⟩
theorem Spanning.go (h : Spanning g n par L P L' P' j) (hy : (succs g n)[j]? = some y) (k : Spans g y L.length L' P' L2 P2) : Spanning g n par L P L2 P2 (j + 1) := by
  obtain ⟨A, eA⟩ := h.ext
  obtain ⟨B, eB⟩ := h.extP
  obtain ⟨A2, eA2⟩ := k.ext
  obtain ⟨B2, eB2⟩ := k.extP
  have hll : L.length < L'.length := by rw [eA]; simp
  have hpl : P'.length = L'.length := h.tail.len
  have hn : L'[L.length]? = some n := by rw [eA, List.getElem?_append_right (Nat.le_refl _), Nat.sub_self]; rfl
  have hy2 : L2[L'.length]? = some y := by rw [eA2, List.getElem?_append_right (Nat.le_refl _), Nat.sub_self]; rfl
  have up : ∀ {i x : Nat}, L'[i]? = some x → L2[i]? = some x := fun hx => by rw [eA2]; exact app_at hx
  have dn : ∀ {i q : Nat}, i < L'.length → P2[i]? = some q → P'[i]? = some q := fun hi hq => by
    rw [eB2] at hq
    exact app_lt (by omega) hq
  have par2 : ∀ q, P2[L'.length]? = some q → q = L.length := fun q hq => by
    rw [eB2, ← hpl, List.getElem?_append_right (Nat.le_refl _), Nat.sub_self] at hq
    injection hq with hq
    exact hq.symm
  refine ⟨⟨A ++ y :: A2, by rw [eA2, eA]; simp⟩, ⟨B ++ L.length :: B2, by rw [eB2, eB]; simp⟩, ⟨k.tail.len, k.tail.nodup, k.tail.bnd, fun v q hv hq => ?_⟩, fun u h1 h2 => ?_, fun i z hi hz => ?_⟩
  · rcases Nat.lt_trichotomy v L'.length with c | c | c
    · obtain ⟨h1, h2, x, z, h3, h4, h5⟩ := h.tail.tree v q hv (dn c hq)
      exact ⟨h1, h2, x, z, up h3, up h4, h5⟩
    · subst c
      obtain rfl := par2 q hq
      exact ⟨Nat.le_refl _, hll, n, y, up hn, hy2, List.mem_of_getElem? hy⟩
    · obtain ⟨h1, h2, h3⟩ := k.tail.tree v q c hq
      exact ⟨by omega, h2, h3⟩
  · rcases Nat.lt_or_ge u L'.length with c | c
    · obtain ⟨e, F⟩ := h.fin u h1 c
      have hle := F.le
      refine ⟨e, F.lt, by have := congrArg List.length eA2; simp at this; omega, fun v q h3 h4 hq => F.desc v q h3 h4 (dn (by omega) hq), fun v q h3 hq => ?_, fun x z hx hz => ?_⟩
      · rcases Nat.lt_trichotomy v L'.length with c | c | c
        · exact F.far v q h3 (dn c hq)
        · subst c
          have := par2 q hq
          omega
        · have := (k.tail.tree v q c hq).1
          omega
      · obtain ⟨q, h5, h6⟩ := F.succ x z (by
          obtain ⟨x', hx'⟩ : ∃ x', L'[u]? = some x' := ⟨_, List.getElem?_eq_getElem c⟩
          rw [up hx'] at hx
          injection hx with e
          exact e ▸ hx') hz
        exact ⟨q, h5, up h6⟩
    · exact k.fin u c h2
  · rcases Nat.lt_succ_iff_lt_or_eq.1 hi with hi | rfl
    · obtain ⟨q, hq⟩ := List.getElem?_of_mem (h.seen i z hi hz)
      exact List.mem_of_getElem? (up hq)
    · rw [hy] at hz; injection hz with e
      exact e ▸ List.mem_of_getElem? hy2
theorem Spanning.finish (h : Spanning g n par L P L' P' j) (hj : (succs g n).length ≤ j) : Spans g n par L P L' P' := by
  obtain ⟨A, eA⟩ := h.ext
  have hll : L.length < L'.length := by rw [eA]; simp
  have hn : L'[L.length]? = some n := by rw [eA, List.getElem?_append_right (Nat.le_refl _), Nat.sub_self]; rfl
  refine ⟨h.ext, h.extP, h.tail, fun u h1 h2 => ?_⟩
  by_cases c : u = L.length
  · subst c
    refine ⟨L'.length, hll, Nat.le_refl _, fun v q h3 _ hq => (h.tail.tree v q h3 hq).1, fun v q h3 hq => ?_, fun x y hx hy => ?_⟩
    · have := (List.getElem?_eq_some_iff.1 hq).1
      have := h.tail.len
      omega
    · rw [hn] at hx
      injection hx with e
      subst e
      obtain ⟨i, hi⟩ := List.getElem?_of_mem hy
      have hlt := (List.getElem?_eq_some_iff.1 hi).1
      obtain ⟨q, hq⟩ := List.getElem?_of_mem (h.seen i y (by omega) hi)
      exact ⟨q, (List.getElem?_eq_some_iff.1 hq).1, hq⟩
  · exact h.fin u (by omega) h2
end
/-- The edges between places. -/
def PE (g : List (List Int)) (L : List Nat) (u v : Nat) : Prop := ∃ x y, L[u]? = some x ∧ L[v]? = some y ∧ y ∈ succs g x
def parOf (P : List Nat) (v : Nat) : Nat := P.getD v 0
theorem parOf_get {P : List Nat} {v : Nat} (h : v < P.length) : P[v]? = some (parOf P v) := by
  unfold parOf; rw [List.getD_eq_getElem?_getD, List.getElem?_eq_getElem h]; rfl
section
variable {g : List (List Int)} {n : Nat} {L P : List Nat}
theorem Spans.first (h : Spans g n 0 [] [] L P) : L[0]? = some n := by
  obtain ⟨A, rfl⟩ := h.ext; rfl
theorem Fin.anc {u e : Nat} (F : Fin g L P u e) (hl : P.length = L.length) (hlt : ∀ v q, 0 < v → P[v]? = some q → q < v) : ∀ v, u ≤ v → v < e → Anc (parOf P) u v := fun v => by
  induction v using Nat.strongRecOn with
  | _ v ih =>
    intro h1 h2
    by_cases c : u = v
    · subst c; exact .here
    · have hp := parOf_get (P := P) (v := v) (by have := F.le; omega)
      have h3 := F.desc v _ (by omega) h2 hp
      have h4 := hlt v _ (by omega) hp
      exact .up (by omega) (ih _ h4 h3 (by omega))
theorem Spans.dft (h : Spans g n 0 [] [] L P) : Dft L.length (PE g L) (parOf P) := by
  have hl := h.tail.len
  have hpos : 0 < L.length := by obtain ⟨A, rfl⟩ := h.ext; simp
  have htr := h.tail.tree
  simp only [List.length_nil] at htr
  have hlt : ∀ v q, 0 < v → P[v]? = some q → q < v := fun v q h0 hq => (htr v q h0 hq).2.1
  refine ⟨hpos, fun u v ⟨x, y, h1, h2, _⟩ => ⟨(List.getElem?_eq_some_iff.1 h1).1, (List.getElem?_eq_some_iff.1 h2).1⟩, fun p h0 hp => hlt p _ h0 (parOf_get (by omega)), fun p h0 hp => ?_, fun u v ⟨x, y, h1, h2, h3⟩ huv => ?_, fun c y x hx hc h1 h2 => ?_⟩
  · obtain ⟨_, _, x, y, h1, h2, h3⟩ := htr p _ h0 (parOf_get (by omega))
    exact ⟨x, y, h1, h2, h3⟩
  · have hu := (List.getElem?_eq_some_iff.1 h1).1
    obtain ⟨e, F⟩ := h.fin u (Nat.zero_le _) hu
    obtain ⟨q, h4, h5⟩ := F.succ x y h1 h3
    have := nodup_get h.tail.nodup h5 h2
    subst this
    exact F.anc hl hlt q (by omega) h4
  · have hcx : c ≤ x ∧ c < L.length := by omega
    obtain ⟨e, F⟩ := h.fin c (Nat.zero_le _) hcx.2
    have hxe : ∀ x, Anc (parOf P) c x → x < L.length → x < e := fun x hc => by
      induction hc with
      | here => intro _; exact F.lt
      | @up v h0 hc ih =>
        intro hv
        have hp := parOf_get (P := P) (v := v) (by omega)
        have h3 := hlt v _ h0 hp
        have h4 := ih (by omega)
        apply Classical.byContradiction
        intro hn
        rcases F.far v _ (by omega) hp with h5 | h5
        · have hge : ∀ z, Anc (parOf P) c z → z < L.length → c ≤ z := fun z hz => by
            induction hz with
            | here => intro _; exact Nat.le_refl _
            | @up z hz0 _ ih =>
              intro hz
              have := hlt z _ hz0 (parOf_get (P := P) (by omega))
              have := ih (by omega)
              omega
          have := hge _ hc (by omega)
          omega
        · omega
    exact F.anc hl hlt y h1 (by have := hxe x hc hx; omega)
/-- Who has a place is who can be reached. -/
theorem Spans.reach (h : Spans g n 0 [] [] L P) (x : Nat) : x ∈ L ↔ Way g n x := by
  have hd := h.dft
  constructor
  · intro hx
    obtain ⟨p, hp⟩ := List.getElem?_of_mem hx
    clear hx
    induction p using Nat.strongRecOn generalizing x with
    | _ p ih =>
      by_cases c : p = 0
      · subst c
        rw [h.first] at hp
        injection hp with e
        subst e
        exact .here
      · have hpl := (List.getElem?_eq_some_iff.1 hp).1
        obtain ⟨a, b, h1, h2, h3⟩ := hd.parE p (by omega) hpl
        rw [hp] at h2
        injection h2 with e
        subst e
        exact .step (ih _ (hd.parlt p (by omega) hpl) a h1) h3
  · intro hw
    induction hw with
    | here => exact List.mem_of_getElem? h.first
    | @step u x _ hx ih =>
      obtain ⟨p, hp⟩ := List.getElem?_of_mem ih
      obtain ⟨e, F⟩ := h.fin p (Nat.zero_le _) (List.getElem?_eq_some_iff.1 hp).1
      obtain ⟨q, _, hq⟩ := F.succ u x hp hx
      exact List.mem_of_getElem? hq
end
end Go.Proofs.Ytmopnceglnoncaa
namespace Go.Proofs.Ytmopnceglnoncaa
open Go.RowKit

/-- The place of a node, or -1. -/
def place (L : List Nat) (x : Nat) : Int := if x ∈ L then (L.idxOf x : Nat) else -1
theorem place_new {L : List Nat} {n : Nat} (hn : n ∉ L) (x : Nat) : place (L ++ [n]) x = if x = n then (L.length : Int) else place L x := by
  unfold place
  by_cases e : x = n
  · subst e
    rw [if_pos (by simp), if_pos rfl, List.idxOf_append]
    rw [if_neg hn]
    simp
  · rw [if_neg e]
    by_cases c : x ∈ L
    · rw [if_pos (by simp [c]), if_pos c, List.idxOf_append, if_pos c]
    · rw [if_neg (by simp [c, e]), if_neg c]
theorem place_neg {L : List Nat} {x : Nat} : place L x = -1 ↔ x ∉ L := by
  unfold place
  by_cases c : x ∈ L
  · rw [if_pos c]; simp [c]
  · rw [if_neg c]; simp [c]
theorem place_get {L : List Nat} (h : L.Nodup) {p x : Nat} (hx : L[p]? = some x) : place L x = (p : Int) := by
  unfold place
  have hm := List.mem_of_getElem? hx
  rw [if_pos hm]
  have h1 : L[L.idxOf x]? = some x := by
    rw [List.getElem?_eq_getElem (List.idxOf_lt_length_of_mem hm), List.getElem_idxOf]
  have := nodup_get h h1 hx
  omega

/-- The search's three rows, its cell and its function: from block q on. gb: the graph's cell; f: the places; L, P: the nodes and the parents. -/
structure SpAt (w : World) (q gb N : Nat) (nv pv : Value) (f : Nat → Int) (L P : List Nat) : Prop where
  pl : Own w q 3 .i64 (.slice (some ⟨q, 0, none⟩) N N) (fz N f)
  box : Whole w (q + 1) 46 #[nv, .slice (some ⟨q, 0, none⟩) N N, pv]
  fn : w.cell? ⟨q + 2, 0, none⟩ = some (.func (.func 48) #[] #[.pointer (some ⟨q + 1, 0, none⟩), .pointer (some ⟨gb, 0, none⟩), .pointer (some ⟨q + 2, 0, none⟩)])
  nodes : Own w (q + 3) 3 .i64 nv (ints L)
  par : Own w (q + 3) 3 .i64 pv (ints P)
  ap : ∀ x, nv.ownBlock = some x → pv.ownBlock ≠ some x
section
variable {w w' : World} {q gb N : Nat} {nv pv nv' pv' : Value} {f h : Nat → Int} {L P : List Nat}
theorem SpAt.size (h : SpAt w q gb N nv pv f L P) : q + 3 ≤ w.heap.size := by have : q + 2 < w.heap.size := lt_of_cell h.fn; omega
theorem SpAt.still (h : SpAt w q gb N nv pv f L P) (hf : Frm w w' []) : SpAt w' q gb N nv pv f L P :=
  ⟨h.pl.frmS hf (fun _ _ => by simp), (hf.block _ h.box.lt (by simp)).trans h.box, (hf.cell (p := ⟨q + 2, 0, none⟩) (lt_of_cell h.fn) (by simp)).trans h.fn, h.nodes.frmS hf (fun _ _ => by simp), h.par.frmS hf (fun _ _ => by simp), h.ap⟩
theorem own_not {x : Nat} {l : List Int} {k : IntKind} {e : TypeId} {b : Nat} {v : Value} (h : Own w b e k v l) (hx : x < b) : ∀ g, v.ownBlock = some g → g ∉ [x] := fun g hg hm => by
  have := (h.size g hg).1
  rw [List.mem_singleton.1 hm] at this
  omega
/-- places[n] set. -/
theorem SpAt.setPl (H : SpAt w q gb N nv pv f L P) (n : Nat) (z : Int) (hz : h n = z) (hn : ∀ x, x ≠ n → h x = f x) : SpAt (w.setCell ⟨q, n, none⟩ (.int .i64 z)) q gb N nv pv h L P := by
  have hf : Frm w (w.setCell ⟨q, n, none⟩ (.int .i64 z)) [q] := (Frm.refl w [q]).setCell _ _ (.inl (by simp))
  have hs := H.size
  have h1 := H.pl.set n z
  rw [fz_set (h := h) hz hn] at h1
  exact ⟨h1, (hf.block _ H.box.lt (by simp)).trans H.box, (hf.cell (p := ⟨q + 2, 0, none⟩) (lt_of_cell H.fn) (by simp)).trans H.fn, H.nodes.frmS hf (own_not H.nodes (by omega)), H.par.frmS hf (own_not H.par (by omega)), H.ap⟩
theorem own_far {l : List Int} {k : IntKind} {e : TypeId} {b x : Nat} {v : Value} (h : Own w b e k v l) (hx : x < b) : x ∉ v.ownBlock.toList := fun hm => by
  have := (h.size x (by simpa using hm)).1
  omega
/-- The nodes have grown, and the cell holds them. -/
theorem SpAt.pushN (H : SpAt w q gb N nv pv f L P) {x : Nat} (ho : Own w' (q + 3) 3 .i64 nv' (ints L ++ [(x : Int)])) (hf : Frm w w' nv.ownBlock.toList) (hb : nv'.ownBlock = nv.ownBlock ∨ nv'.ownBlock = some w.heap.size) : SpAt (w'.setCell ⟨q + 1, 0, none⟩ nv') q gb N nv' pv f (L ++ [x]) P ∧ Below q w (w'.setCell ⟨q + 1, 0, none⟩ nv') := by
  have hs := H.size
  have hf2 : Frm w' (w'.setCell ⟨q + 1, 0, none⟩ nv') [q + 1] := (Frm.refl w' [q + 1]).setCell _ _ (.inl (by simp))
  have hw : Whole w' (q + 1) 46 #[nv, .slice (some ⟨q, 0, none⟩) N N, pv] := (hf.block _ H.box.lt (own_far H.nodes (by omega))).trans H.box
  have hw2 := hw.set 0 nv'
  refine ⟨⟨(H.pl.frmS hf (fun g hg hm => ?_)).frmS hf2 (fun g hg hm => ?_), hw2, (hf2.cell (p := ⟨q + 2, 0, none⟩) (Nat.lt_of_lt_of_le (lt_of_cell H.fn) hf.size) (by simp)).trans ((hf.cell (p := ⟨q + 2, 0, none⟩) (lt_of_cell H.fn) (own_far H.nodes (show q + 2 < q + 3 by omega))).trans H.fn), ?_, (H.par.frmS hf (fun g hg hm => H.ap g (by simpa using hm) hg)).frmS hf2 (own_not (H.par.frmS hf (fun g hg hm => H.ap g (by simpa using hm) hg)) (by omega)), fun y hy => ?_⟩, (hf.toBelow (fun g hg => ?_) (by omega)).trans (hf2.toBelow (fun g hg => by rw [List.mem_singleton.1 hg]; omega) (by have := hf.size; omega))⟩
  · have e : g = q := by simpa [Value.ownBlock] using hg.symm
    rw [e] at hm
    exact own_far H.nodes (by omega) hm
  · have e : g = q := by simpa [Value.ownBlock] using hg.symm
    rw [e, List.mem_singleton] at hm
    omega
  · rw [ints_snoc]
    exact ho.frmS hf2 (own_not ho (by omega))
  · rcases hb with e | e
    · rw [e] at hy; exact H.ap y hy
    · rw [e] at hy
      injection hy with hy
      intro c
      have := (H.par.size y c).2
      omega
  · have := (H.nodes.size g (by simpa using hg)).1
    omega
/-- The parents have grown, and the cell holds them. -/
theorem SpAt.pushP (H : SpAt w q gb N nv pv f L P) {x : Nat} (ho : Own w' (q + 3) 3 .i64 pv' (ints P ++ [(x : Int)])) (hf : Frm w w' pv.ownBlock.toList) (hb : pv'.ownBlock = pv.ownBlock ∨ pv'.ownBlock = some w.heap.size) : SpAt (w'.setCell ⟨q + 1, 2, none⟩ pv') q gb N nv pv' f L (P ++ [x]) ∧ Below q w (w'.setCell ⟨q + 1, 2, none⟩ pv') := by
  have hs := H.size
  have hf2 : Frm w' (w'.setCell ⟨q + 1, 2, none⟩ pv') [q + 1] := (Frm.refl w' [q + 1]).setCell _ _ (.inl (by simp))
  have hw : Whole w' (q + 1) 46 #[nv, .slice (some ⟨q, 0, none⟩) N N, pv] := (hf.block _ H.box.lt (own_far H.par (by omega))).trans H.box
  have hw2 := hw.set 2 pv'
  have hnd := H.nodes.frmS hf (fun g hg hm => H.ap g hg (by simpa using hm))
  refine ⟨⟨(H.pl.frmS hf (fun g hg hm => ?_)).frmS hf2 (fun g hg hm => ?_), hw2, (hf2.cell (p := ⟨q + 2, 0, none⟩) (Nat.lt_of_lt_of_le (lt_of_cell H.fn) hf.size) (by simp)).trans ((hf.cell (p := ⟨q + 2, 0, none⟩) (lt_of_cell H.fn) (own_far H.par (show q + 2 < q + 3 by omega))).trans H.fn), hnd.frmS hf2 (own_not hnd (by omega)), ?_, fun y hy => ?_⟩, (hf.toBelow (fun g hg => ?_) (by omega)).trans (hf2.toBelow (fun g hg => by rw [List.mem_singleton.1 hg]; omega) (by have := hf.size; omega))⟩
  · have e : g = q := by simpa [Value.ownBlock] using hg.symm
    rw [e] at hm
    exact own_far H.par (by omega) hm
  · have e : g = q := by simpa [Value.ownBlock] using hg.symm
    rw [e, List.mem_singleton] at hm
    omega
  · rw [ints_snoc]
    exact ho.frmS hf2 (own_not ho (by omega))
  · rcases hb with e | e
    · rw [e]; exact H.ap y hy
    · rw [e]
      intro c
      injection c with c
      have := (H.nodes.size y hy).2
      omega
  · have := (H.par.size g (by simpa using hg)).1
    omega
end

theorem Spanning.plen {g : List (List Int)} {n par : Nat} {L P : List Nat} (h : Spanning g n par L P (L ++ [n]) (P ++ [par]) 0) : P.length = L.length := by
  have := h.tail.len
  simp at this
  exact this
theorem Spanning.llen {g : List (List Int)} {n par j : Nat} {L P L1 P1 : List Nat} (h : Spanning g n par L P L1 P1 j) : L.length + 1 ≤ L1.length := by
  obtain ⟨A, rfl⟩ := h.ext
  simp

set_option maxRecDepth 100000 in
set_option maxHeartbeats 8000000 in
theorem visit_any (A : Option Addr) (c : Nat) (g : List (List Int)) (hok : okG g = true) (hN : g.length ≤ 65536) (q gb : Nat) (w0 : World) (hg : RdL w0 A c g) (hq0 : w0.heap.size ≤ gb) (hgb : gb < q) : ∀ (k n par : Nat) (L P : List Nat) (w : World) (nv pv : Value), g.length ≤ L.length + k → n < g.length → n ∉ L → L.Nodup → (∀ x ∈ L, x < g.length) → P.length = L.length → Below w0.heap.size w0 w → w.cell? ⟨gb, 0, none⟩ = some (.slice A g.length c) → SpAt w q gb g.length nv pv (place L) L P →
    Calls Try.prog 48 #[.int .i64 (n : Nat), .int .i64 (par : Nat), .pointer (some ⟨q + 1, 0, none⟩), .pointer (some ⟨gb, 0, none⟩), .pointer (some ⟨q + 2, 0, none⟩)] w fun en w' => en = .returned (.tuple #[]) ∧ ∃ nv' pv' L' P', Spans g n par L P L' P' ∧ SpAt w' q gb g.length nv' pv' (place L') L' P' ∧ Below q w w'
  | 0, n, par, L, P, w, nv, pv, hk, hn, hnl, hnd, hbd, _, _, _, _ => by
    exfalso
    have h1 : (n :: L).Nodup := List.nodup_cons.2 ⟨hnl, hnd⟩
    have h2 := nodup_len (n := g.length) h1 (fun x hx => by
      rcases List.mem_cons.1 hx with rfl | hx
      · exact hn
      · exact hbd x hx)
    simp at h2
    omega
  | k + 1, n, par, L, P, w, nv, pv, hk, hn, hnl, hnd, hbd, hpl, hb0, hcg, hS => by
    have IH := hide (visit_any A c g hok hN q gb w0 hg hq0 hgb k)
    have HS := hide hS
    have HB0 := hide hb0
    have HSB := hide (Spanning.begin (par := par) hpl hnd hbd hn hnl)
    have hLn := nodup_len hnd hbd
    have hn' : (n : Int) < g.length := by omega
    obtain ⟨l, hlg⟩ : ∃ l, g[n]? = some l := ⟨_, List.getElem?_eq_getElem hn⟩
    obtain ⟨Ab, Ao, B, d, rfl, hAb, hcell0, hrow⟩ := hg.at hlg
    have HG := hide hg
    have HL := hide hlg
    have HR := hide hrow
    obtain ⟨_, _, e3, hd, hdm, -⟩ := hrow
    injection e3 with e3 e4 e5
    subst e3 e5
    have hd9 : d ≤ 9223372036854775807 := by unfold maxLen at hdm; omega
    obtain ⟨An, cn, e6, hcn, hcnm, -⟩ := hS.nodes.rd
    obtain ⟨Ap, cp, e7, hcp, hcpm, -⟩ := hS.par.rd
    rw [ints_len] at e6 e7 hcn hcp
    subst e6 e7
    have hcn9 : cn ≤ 9223372036854775807 := by unfold maxLen at hcnm; omega
    have hcp9 : cp ≤ 9223372036854775807 := by unfold maxLen at hcpm; omega
    have HC0 := hide (And.intro hcell0 hAb)
    -- the worlds ahead
    have c1 : w.cell? ⟨q + 1, 0, none⟩ = some (.slice An L.length cn) := hS.box.cell 0
    have c2 : w.cell? ⟨q + 1, 1, none⟩ = some (.slice (some ⟨q, 0, none⟩) g.length g.length) := hS.box.cell 1
    have c3 := hS.pl.cellAt (fz_get (place L) hn)
    have c3f := hS.pl.freeAt n
    have HPN := hide (place_new hnl)
    have hS1 := hS.setPl (h := place (L ++ [n])) n (L.length : Int) (by rw [place_new hnl, if_pos rfl]) (fun x hx => by rw [place_new hnl, if_neg hx])
    obtain ⟨w1, hw1⟩ : ∃ x, w.setCell ⟨q, n, none⟩ (.int .i64 (L.length : Int)) = x := ⟨_, rfl⟩
    rw [hw1] at hS1
    have hf1 : Frm w w1 [q] := by rw [← hw1]; exact (Frm.refl w [q]).setCell _ _ (.inl (by simp))
    have hsz := hS.size
    have HB1 : Hid (Below q w w1) := hide (hf1.toBelow (fun x hx => by rw [List.mem_singleton.1 hx]; omega) (by omega))
    have d1 : w1.cell? ⟨q + 1, 0, none⟩ = some (.slice An L.length cn) := hS1.box.cell 0
    have d1f : w1.frozen? ⟨q + 1, 0, none⟩ = false := hS1.box.free 0
    have HS1 := hide hS1
    clear hg hS hb0 hnd hbd hpl hnl hlg hcell0 hAb hcnm hcpm hdm e4 hS1 hf1 hsz
    go_enter Try.func48, Try.ntmps48
    go_wp2_with (first | (refine wpList_append_rd _ rfl _ _ 28 rfl (q + 3) 3 .i64 8 intE _ (ints L) rfl (HS1.out.nodes.alloc _) _ [(n : Int)] rfl (rd_one w1 3 (n : Int)) ?b1 ?b2 ?b3 ?_))
    case b1 => rw [ints_len, List.length_singleton]; omega
    case b2 => unfold maxLen; rw [ints_len, List.length_singleton]; omega
    case b3 => have := HS1.out.size; rw [World.size_alloc]; omega
    intro v2 w2 ho2 hg2 _ hb2
    have hS1a := HS1.out.still ((Frm.refl w1 []).alloc (.cells #[.int .i64 (n : Int)] 3))
    obtain ⟨hS3, hb3⟩ := hS1a.pushN ho2 (Frm.grown hg2) (by rw [World.size_alloc]; exact hb2)
    have hw2 : Whole w2 (q + 1) 46 #[.slice An L.length cn, .slice (some ⟨q, 0, none⟩) g.length g.length, .slice Ap P.length cp] := ((Frm.grown hg2).block _ hS1a.box.lt (own_far hS1a.nodes (by omega))).trans hS1a.box
    have c5 : w2.cell? ⟨q + 1, 0, none⟩ = some (.slice An L.length cn) := hw2.cell 0
    have c5f := hw2.free 0
    obtain ⟨Av, cv, e8, hcv, hcvm, -⟩ := ho2.rd
    rw [List.length_append, ints_len, List.length_singleton] at e8 hcv
    have hcv9 : cv ≤ 9223372036854775807 := by unfold maxLen at hcvm; omega
    subst e8
    obtain ⟨w3, hw3⟩ : ∃ x, w2.setCell ⟨q + 1, 0, none⟩ (.slice Av (L.length + 1) cv) = x := ⟨_, rfl⟩
    rw [hw3] at hS3 hb3
    have HB3 : Hid (Below q w w3) := hide ((HB1.out.trans ((Below.refl _ _).alloc (by have := HS1.out.size; omega) _)).trans hb3)
    have HS3 := hide hS3
    have c6 : w3.cell? ⟨q + 1, 2, none⟩ = some (.slice Ap P.length cp) := hS3.box.cell 2
    clear ho2 hg2 hb2 hS1a hS3 hb3 hw2 hcvm c1 c2 c3 c3f hw1 d1 d1f
    go_wp2_with (first | (refine wpList_append_rd _ rfl _ _ 28 rfl (q + 3) 3 .i64 8 intE _ (ints P) rfl (HS3.out.par.alloc _) _ [(par : Int)] rfl (rd_one w3 3 (par : Int)) ?d1 ?d2 ?d3 ?_))
    case d1 => rw [ints_len, List.length_singleton, HSB.out.plen]; omega
    case d2 => unfold maxLen; rw [ints_len, List.length_singleton, HSB.out.plen]; omega
    case d3 => have := HS3.out.size; rw [World.size_alloc]; omega
    intro v4 w4 ho4 hg4 _ hb4
    have hS3a := HS3.out.still ((Frm.refl w3 []).alloc (.cells #[.int .i64 (par : Int)] 3))
    obtain ⟨hS5, hb5⟩ := hS3a.pushP ho4 (Frm.grown hg4) (by rw [World.size_alloc]; exact hb4)
    have hw4 : Whole w4 (q + 1) 46 #[.slice Av (L.length + 1) cv, .slice (some ⟨q, 0, none⟩) g.length g.length, .slice Ap P.length cp] := ((Frm.grown hg4).block _ hS3a.box.lt (own_far hS3a.par (by omega))).trans hS3a.box
    have c7 : w4.cell? ⟨q + 1, 2, none⟩ = some (.slice Ap P.length cp) := hw4.cell 2
    have c7f := hw4.free 2
    obtain ⟨Aw, cw, e9, hcw, hcwm, -⟩ := ho4.rd
    rw [List.length_append, ints_len, List.length_singleton] at e9 hcw
    have hcw9 : cw ≤ 9223372036854775807 := by unfold maxLen at hcwm; omega
    subst e9
    obtain ⟨w5, hw5⟩ : ∃ x, w4.setCell ⟨q + 1, 2, none⟩ (.slice Aw (P.length + 1) cw) = x := ⟨_, rfl⟩
    rw [hw5] at hS5 hb5
    have hbw5 : Below q w w5 := (HB3.out.trans ((Below.refl _ _).alloc (by have := HS3.out.size; omega) _)).trans hb5
    have HB5 := hide hbw5
    have HS5 := hide hS5
    have c8 : w5.cell? ⟨gb, 0, none⟩ = some (.slice (some ⟨Ab, Ao, none⟩) g.length c) := (hbw5.cell (p := ⟨gb, 0, none⟩) hgb).trans hcg
    have c9 : w5.cell? ⟨Ab, Ao + n, none⟩ = some (.slice B l.length d) := (hbw5.cell (p := ⟨Ab, Ao + n, none⟩) (by have := HC0.out.2; show Ab < q; omega)).trans ((HB0.out.cell (p := ⟨Ab, Ao + n, none⟩) HC0.out.2).trans HC0.out.1)
    clear ho4 hg4 hb4 hS3a hS5 hb5 hbw5 hw4 hcwm c5 c5f hw3 c6
    go_wp2_with fail
    clear c7 c7f hw5 c8 c9
    go_loopw [36] (fun z wr => ∃ (j : Nat) (L1 P1 : List Nat) (nv1 pv1 : Value), j ≤ l.length ∧ z = .int .i64 (j : Nat) ∧ Hid (Spanning g n par L P L1 P1 j) ∧ Hid (SpAt wr q gb g.length nv1 pv1 (place L1) L1 P1) ∧ Hid (Below q w wr)) (fun z _ => l.length - (intOf z).toNat)
    case atStart => exact ⟨0, _, _, _, _, Nat.zero_le _, rfl, HSB, HS5, HB5⟩
    case round =>
      clear HS5 HB5 HSB HS3 HB3
      obtain ⟨wr, rfl⟩ : ∃ x, x = wr := ⟨_, rfl⟩
      obtain ⟨j, L1, P1, nv1, pv1, hj, rfl, HW, HT, HB⟩ := hrel
      by_cases hjt : j < l.length
      · have hjt' : (j : Int) < l.length := by omega
        obtain ⟨m, hm⟩ : ∃ x, l[j]? = some x := ⟨_, List.getElem?_eq_getElem hjt⟩
        obtain ⟨y, rfl, hyn⟩ := ok_node hok HL.out hm
        have hbw : Below w0.heap.size w0 wr := HB0.out.trans (HB.out.mono (by omega))
        obtain ⟨b2, off2, rfl, hbl, cx⟩ := rd_at (HR.out.below' hbw) hm
        have hyn' : (y : Int) < g.length := by omega
        have HSG := hide (succs_get HL.out hm)
        have HBW := hide hbw
        have k1 : wr.cell? ⟨q + 1, 1, none⟩ = some (.slice (some ⟨q, 0, none⟩) g.length g.length) := HT.out.box.cell 1
        have k2 := HT.out.pl.cellAt (fz_get (place L1) hyn)
        clear hm hbw
        by_cases hy : y ∈ L1
        · have hz : ¬ place L1 y = -1 := fun e => place_neg.1 e hy
          have HW2 := hide (HW.out.skip HSG.out hy)
          obtain ⟨Z, hZ⟩ : ∃ Z, place L1 y = Z := ⟨_, rfl⟩
          rw [hZ] at k2 hz
          have hzb : (Z == (-1 : Int)) = false := by simpa using hz
          clear hZ hy hz
          go_wp2_with fail
          go_roundw
          case rel => exact ⟨j + 1, L1, P1, nv1, pv1, by omega, by go_num, HW2, HT, HB⟩
          case measure => simp [intOf]; omega
        · rw [place_neg.2 hy] at k2
          have k3 := HT.out.fn
          have HC := hide (IH.out y L.length L1 P1 wr nv1 pv1 (by have := HW.out.llen; omega) hyn hy HW.out.tail.nodup HW.out.tail.bnd HW.out.tail.len HBW.out ((HB.out.cell (p := ⟨gb, 0, none⟩) hgb).trans hcg) HT.out)
          clear hy
          go_wp2_with fail
          refine HC.out.mono ?_
          rintro en w6 ⟨rfl, nv2, pv2, L2, P2, hsp, hS6, hb6⟩
          have HW2 := hide (HW.out.go HSG.out hsp)
          have HT2 := hide hS6
          have HB2 := hide (HB.out.trans hb6)
          clear hsp hS6 hb6 HC k1 k2 k3 cx
          go_wp2_with fail
          go_roundw
          case rel => exact ⟨j + 1, L2, P2, nv2, pv2, by omega, by go_num, HW2, HT2, HB2⟩
          case measure => simp [intOf]; omega
      · obtain rfl : j = l.length := by omega
        have HF := hide (HW.out.finish (by rw [succs_len HL.out]; exact Nat.le_refl _))
        go_wp2_with fail
        first | (refine bodyPost_ret (results_none rfl _ _ _) rfl ?_) | go_end0
        exact ⟨rfl, nv1, pv1, L1, P1, HF.out, HT.out, HB.out⟩
end Go.Proofs.Ytmopnceglnoncaa

/-
  Layer 6 (digraph): opening a graph that is handed in by value: how it reads, and that no list of it takes more bytes than any argument may.
-/
import Derived.Test.YtmopnceglnoncaaGraph
namespace Go.Proofs.Ytmopnceglnoncaa
open Go.RowKit Go.ChangeShapes Go.WideShapes

section
variable {P : Program}
theorem weightsAll_mem {H : Type} {e : TypeId} : ∀ {ds : List (DataW H)} {d : DataW H} {n : Nat}, d ∈ ds → n ∈ d.weights P e → n ∈ DataW.weightsAll P e ds
  | d0 :: r, d, n, hd, hn => by
    simp only [DataW.weightsAll, List.mem_append]
    rcases List.mem_cons.1 hd with rfl | hd
    · exact .inl hn
    · exact .inr (weightsAll_mem hd hn)
/-- A slice of integers: its bytes are among the weights. -/
theorem opensW_ints {t e : TypeId} {k : IntKind} (ht : P.underlying t = some (.slice e)) (he : P.underlying e = some (.int k)) (hm : P.cellsOf e = 1) {H : Type} {enc : TypeId × Value → H} {W : World} {held : Bool} {fuel : Nat} {cs : List Value} {x : DataW H × List MemPlace} (h : DataW.trod enc P W 0 (fun _ => true) held fuel t cs = some x) :
    ∃ v l, cs = [v] ∧ Rd W k v l ∧ (0 < l.length → ∃ n ∈ x.1.weights P t, l.length * P.bytesOf e ≤ n) := by
  obtain ⟨v, l, h1, h2, _⟩ := opens_ints ht he hm H enc W held fuel cs x h
  refine ⟨v, l, h1, h2, fun h0 => ?_⟩
  obtain ⟨A, c, rfl, hc, -, -⟩ := h2
  rcases Deep.open_slice ht h with ⟨e1, _⟩ | ⟨a, len, cap, m, n, D, Pl, e1, _, hl, _, hk, e2, _⟩
  · rw [e1] at h1
    injection h1 with h1
    injection h1 with _ h1 _
    omega
  · rw [e1] at h1
    injection h1 with h1
    injection h1 with _ h1 _
    refine ⟨((List.range len).map D).length * P.bytesOf e + (((List.range (m - len)).map fun j => D (len + j))).length * P.bytesOf e, ?_, ?_⟩
    · rw [e2]
      simp only [DataW.weights, ht, List.mem_cons]
      exact .inl (by rw [Nat.add_mul])
    · rw [List.length_map, List.length_range, h1]
      exact Nat.le_add_right _ _
/-- A slice: what holds of each element, its weights among the slice's. -/
theorem opensW_slice {t e : TypeId} {m : Nat} {H : Type} {enc : TypeId × Value → H} {W : World} {held : Bool} {fuel : Nat} {cs : List Value} {x : DataW H × List MemPlace} {R : List Value → (Nat → Prop) → Prop} (ht : P.underlying t = some (.slice e)) (hm : P.cellsOf e = m) (h0 : 0 < m)
    (he : ∀ n r y, DataW.trod enc P W 0 (fun _ => true) held n e r = some y → R r (fun z => z ∈ y.1.weights P e)) (hR : ∀ r p q, R r p → (∀ z, p z → q z) → R r q) (h : DataW.trod enc P W 0 (fun _ => true) held fuel t cs = some x) :
    ∃ v rows, cs = [v] ∧ RdN W m v rows ∧ ∀ r ∈ rows, R r (fun z => z ∈ x.1.weights P t) := by
  rcases Deep.open_slice ht h with ⟨rfl, _⟩ | ⟨a, len, cap, k, n, D, Pl, rfl, _, hl, hmx, hk, e2, hx⟩
  · exact ⟨_, [], rfl, ⟨fun _ h => (by cases h), none, 0, rfl, Nat.le_refl _, Nat.zero_le _, fun h => absurd h (by simp)⟩, fun _ h => (by cases h)⟩
  · simp only [if_true] at hk
    obtain ⟨rows, hlen, hrows⟩ := list_of_each (p := fun i cs' => W.cells? 0 (a.add (i * m)) m = some cs' ∧ DataW.trod enc P W 0 (fun _ => true) held n e cs' = some (D i, Pl i)) len
      (fun i hi => by obtain ⟨cs', h1, h2⟩ := hx i (by omega); rw [hm] at h1; exact ⟨cs', h1, h2⟩)
    refine ⟨_, rows, rfl, ⟨fun r hr => ?_, some a, cap, by rw [hlen], by omega, hmx, fun hn => ?_⟩, fun r hr => ?_⟩
    · obtain ⟨i, hi⟩ := List.getElem?_of_mem hr
      exact (World.cells?_some (hrows i r hi).1).2.1
    · obtain ⟨b, off, spot⟩ := a
      obtain ⟨r0, hr0⟩ : ∃ r, rows[0]? = some r := ⟨_, List.getElem?_eq_getElem hn⟩
      obtain ⟨_, h1, h2⟩ := World.cells?_some (hrows 0 _ hr0).1
      have hc0 := h2 0 h0
      obtain ⟨z0, hz0⟩ : ∃ z, r0[0]? = some z := ⟨_, List.getElem?_eq_getElem (by omega)⟩
      rw [hz0, Nat.zero_mul] at hc0
      have hspot : spot = none := by
        have := World.cell?_spot hc0
        simpa [Addr.add] using this
      subst hspot
      have add2 : ∀ i j, ((⟨b, off, none⟩ : Addr).add (i * m)).add j = ⟨b, off + (i * m + j), none⟩ := fun i j => by rw [add_plain, add_plain, Nat.add_assoc]
      refine ⟨b, off, rfl, ?_, fun i j r z hr hz => ?_⟩
      · have h0' := add2 0 0
        rw [Nat.zero_mul] at h0'
        rw [h0'] at hc0
        exact lt_of_cell hc0
      · obtain ⟨_, g1, g2⟩ := World.cells?_some (hrows i r hr).1
        have hj : j < m := by have := (List.getElem?_eq_some_iff.1 hz).1; omega
        have := g2 j hj
        rw [add2] at this
        rw [this, hz]
    · obtain ⟨i, hi⟩ := List.getElem?_of_mem hr
      refine hR _ _ _ (he n r _ (hrows i r hi).2) fun z hz => ?_
      rw [e2]
      simp only [DataW.weights, ht, List.mem_cons, List.mem_append]
      refine .inr (.inl (weightsAll_mem (d := D i) ?_ hz))
      exact List.mem_map.2 ⟨i, List.mem_range.2 (by rw [← hlen]; exact (List.getElem?_eq_some_iff.1 hi).1), rfl⟩
theorem graph_rows {W : World} {Q : List Int → Prop} : ∀ rows : List (List Value), (∀ r ∈ rows, ∃ v l, r = [v] ∧ Rd W .i64 v l ∧ Q l) →
    ∃ (vs : List Value) (g : List (List Int)), rows = vs.map (fun x => [x]) ∧ vs.length = g.length ∧ (∀ l ∈ g, Q l) ∧ ∀ (i : Nat) (l : List Int), g[i]? = some l → ∃ (B : Option Addr) (d : Nat), vs[i]? = some (Value.slice B l.length d) ∧ Rd W .i64 (.slice B l.length d) l
  | [], _ => ⟨[], [], rfl, rfl, fun _ h => (by cases h), fun i l h => by simp at h⟩
  | r :: rows, h => by
    obtain ⟨v, l, rfl, hr, hq⟩ := h r (List.mem_cons_self ..)
    obtain ⟨vs, g, rfl, h1, h2, h3⟩ := graph_rows rows (fun r hr => h r (List.mem_cons_of_mem _ hr))
    refine ⟨v :: vs, l :: g, rfl, by simp [h1], fun l' hl => ?_, fun i l' hi => ?_⟩
    · rcases List.mem_cons.1 hl with rfl | hl
      · exact hq
      · exact h2 l' hl
    · cases i with
      | zero =>
        simp only [List.getElem?_cons_zero, Option.some.injEq] at hi
        subst hi
        have hr' := hr
        obtain ⟨B, d, rfl, -⟩ := hr
        exact ⟨B, d, rfl, hr'⟩
      | succ i => exact h3 i l' (by simpa using hi)
/-- A graph by value: how it reads; a list of it takes no more bytes than one of the weights. -/
theorem open_graph {tG tS tI e : TypeId} {f0 : Field} (hG : P.underlying tG = some (.struct #[f0])) (hf : f0.type = tS ∧ f0.offset = 0) (hS : P.underlying tS = some (.slice tI)) (hI : P.underlying tI = some (.slice e)) (he : P.underlying e = some (.int .i64)) (cG : P.cellsOf tG = 1) (cS : P.cellsOf tS = 1) (cI : P.cellsOf tI = 1) (ce : P.cellsOf e = 1)
    {H : Type} {enc : TypeId × Value → H} {W : World} {r : Reach} {b0 : Nat} {v : Value} {d : DataW H} {ps : List MemPlace} (hval : Value.okWide P W r b0 tG v) (hd : DataW.Trod enc P W 0 (fun _ => true) true tG v d ps) :
    ∃ A c g, v = .agg #[.slice A g.length c] ∧ RdL W A c g ∧ ∀ l ∈ g, 0 < l.length → ∃ n ∈ d.weights P tG, l.length * P.bytesOf e ≤ n := by
  obtain ⟨cs, rfl, hcs⟩ := okWide_struct hG hval
  rw [cG] at hcs
  obtain ⟨fuel, hfu⟩ := hd
  have hf' : DataW.trod enc P W 0 (fun _ => true) true fuel tG cs.toList = some (d, ps) := hfu
  obtain ⟨xs, n, _, e1, hl, hlen, hfs⟩ := DataW.trod_struct hG hf'
  obtain ⟨y0, rfl⟩ : ∃ y0, xs = [y0] := by
    match xs, hlen with
    | [y0], _ => exact ⟨y0, rfl⟩
  have ht := hfs 0 f0 rfl
  simp only [List.getElem?_cons_zero] at ht
  rw [hf.1, hf.2, cS, List.drop_zero, List.take_of_length_le (by rw [Array.length_toList]; omega)] at ht
  obtain ⟨v, rows, e3, hN, hrow⟩ := opensW_slice (m := 1) (R := fun r p => ∃ v l, r = [v] ∧ Rd W .i64 v l ∧ (0 < l.length → ∃ n, p n ∧ l.length * P.bytesOf e ≤ n)) hS cI (by omega)
    (fun n r y hy => by
      obtain ⟨v, l, h1, h2, h3⟩ := opensW_ints hI he ce hy
      exact ⟨v, l, h1, h2, fun h0 => by obtain ⟨n, h4, h5⟩ := h3 h0; exact ⟨n, h4, h5⟩⟩)
    (fun r p q ⟨v, l, h1, h2, h3⟩ hpq => ⟨v, l, h1, h2, fun h0 => by obtain ⟨n, h4, h5⟩ := h3 h0; exact ⟨n, hpq n h4, h5⟩⟩) ht
  obtain ⟨vs, g, rfl, h1, h2, h3⟩ := graph_rows (Q := fun l => 0 < l.length → ∃ n, n ∈ y0.1.weights P tS ∧ l.length * P.bytesOf e ≤ n) rows hrow
  have hV := hN.one
  obtain ⟨A, c, rfl, hc⟩ := id hV
  refine ⟨A, c, g, ?_, ⟨vs, h1, ?_, h3⟩, fun l hl h0 => ?_⟩
  · congr 1
    rw [← h1]
    exact Array.toList_inj.1 e3
  · rw [← h1]; exact hV
  · obtain ⟨n, h4, h5⟩ := h2 l hl h0
    refine ⟨n, ?_, h5⟩
    injection e1 with e1 _
    rw [e1]
    simp only [DataW.weights, hG, List.map_cons, List.map_nil, DataW.weightsEach, List.append_nil, hf.1]
    exact h4
end
end Go.Proofs.Ytmopnceglnoncaa

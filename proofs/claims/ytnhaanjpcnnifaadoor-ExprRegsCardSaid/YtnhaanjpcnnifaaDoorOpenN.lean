/-
  Arguments of any depth, opened: slices of slices, slices of structs. For every seat; no program is named here.
-/
import Derived.Test.YtnhaanjpcnnifaaDoorVals
import Derived.Test.YtnhaanjpcnnifaaDoorOpen
import Derived.Deep.Slices
import Derived.Deep.Strs
namespace Go.Proofs.YtnhaanjpcnnifaaDoor
open Go.RowKit Go.ChangeShapes Go.WideShapes

/-- The slice value v reads as rows of m cells each. -/
def RdN (w : World) (m : Nat) (v : Value) (rows : List (List Value)) : Prop :=
  (∀ r ∈ rows, r.length = m) ∧ ∃ A c, v = .slice A rows.length c ∧ rows.length ≤ c ∧ c ≤ maxLen ∧ (0 < rows.length → ∃ b off, A = some ⟨b, off, none⟩ ∧ b < w.heap.size ∧
    ∀ i j r z, rows[i]? = some r → r[j]? = some z → w.cell? ⟨b, off + (i * m + j), none⟩ = some z)

theorem RdN.below {w w' : World} {m B : Nat} {v : Value} {rows : List (List Value)} (h : RdN w m v rows) (hb : Below B w w') (hB : w.heap.size ≤ B) : RdN w' m v rows := by
  obtain ⟨hl, A, c, e1, hc, hm, hr⟩ := h
  refine ⟨hl, A, c, e1, hc, hm, fun hn => ?_⟩
  obtain ⟨b, off, e2, hlt, hcell⟩ := hr hn
  exact ⟨b, off, e2, Nat.lt_of_lt_of_le hlt hb.size, fun i j r z hr hz => (hb.cell (p := ⟨b, off + (i * m + j), none⟩) (Nat.lt_of_lt_of_le hlt hB)).trans (hcell i j r z hr hz)⟩
theorem RdN.below' {w w' : World} {m : Nat} {v : Value} {rows : List (List Value)} (h : RdN w m v rows) (hb : Below w.heap.size w w') : RdN w' m v rows := h.below hb (Nat.le_refl _)
/-- One cell an element. -/
theorem RdN.one {w : World} {v : Value} {xs : List Value} (h : RdN w 1 v (xs.map fun x => [x])) : RdV w v xs := by
  obtain ⟨_, A, c, e1, hc, hm, hr⟩ := h
  rw [List.length_map] at e1 hc hr
  refine ⟨A, c, e1, hc, hm, fun hn => ?_⟩
  obtain ⟨b, off, e2, hlt, hcell⟩ := hr hn
  refine ⟨b, off, e2, hlt, fun j z hz => ?_⟩
  have := hcell j 0 [z] z (by rw [List.getElem?_map, hz]; rfl) rfl
  simpa using this

theorem list_of_each {α : Type} {p : Nat → α → Prop} : ∀ n : Nat, (∀ i, i < n → ∃ x, p i x) → ∃ l : List α, l.length = n ∧ ∀ i x, l[i]? = some x → p i x
  | 0, _ => ⟨[], rfl, fun i x h => by simp at h⟩
  | n + 1, h => by
    obtain ⟨l, hl, hp⟩ := list_of_each n (fun i hi => h i (by omega))
    obtain ⟨x, hx⟩ := h n (by omega)
    refine ⟨l ++ [x], by simp [hl], fun i y hy => ?_⟩
    rcases Nat.lt_or_ge i n with hi | hi
    · rw [List.getElem?_append_left (by omega)] at hy
      exact hp i y hy
    · rw [List.getElem?_append_right (by omega), hl] at hy
      rcases Nat.eq_or_lt_of_le hi with rfl | hlt
      · simp at hy; subst hy; exact hx
      · have : ([x] : List α)[i - n]? = none := List.getElem?_eq_none (by simp; omega)
        rw [this] at hy; cases hy
theorem map_of_each {α β : Type} {f : α → β} {p : α → Prop} : ∀ l : List β, (∀ y ∈ l, ∃ x, y = f x ∧ p x) → ∃ xs : List α, l = xs.map f ∧ ∀ x ∈ xs, p x
  | [], _ => ⟨[], rfl, fun _ h => (by cases h)⟩
  | y :: r, h => by
    obtain ⟨x, rfl, hx⟩ := h y (by simp)
    obtain ⟨xs, rfl, hp⟩ := map_of_each r (fun z hz => h z (by simp [hz]))
    exact ⟨x :: xs, rfl, fun z hz => by
      rcases List.mem_cons.1 hz with rfl | hz
      · exact hx
      · exact hp z hz⟩

/-- WHAT THE CELLS OF A TYPE READ AS: R holds of every reading. -/
def Opens (P : Program) (t : TypeId) (R : World → List Value → Prop) : Prop :=
  ∀ (H : Type) (enc : TypeId × Value → H) (W : World) (held : Bool) (fuel : Nat) (cs : List Value) (x : DataW H × List MemPlace), DataW.trod enc P W 0 (fun _ => true) held fuel t cs = some x → R W cs

section
variable {P : Program}
theorem opens_int {t : TypeId} {k : IntKind} (ht : P.underlying t = some (.int k)) : Opens P t (fun _ cs => ∃ z, cs = [.int k z] ∧ (Lit.int k z).wf = true) := by
  intro H enc W held fuel cs x h
  obtain ⟨z, h1, _, h2⟩ := DataW.trod_int ht h
  exact ⟨z, h1, h2⟩
theorem opens_bool {t : TypeId} (ht : P.underlying t = some .bool) : Opens P t (fun _ cs => ∃ b, cs = [.bool b]) := by
  intro H enc W held fuel cs x h
  obtain ⟨b, h1, _⟩ := DataW.trod_bool ht h
  exact ⟨b, h1⟩
theorem opens_string {t : TypeId} (ht : P.underlying t = some .string) : Opens P t (fun _ cs => ∃ s : ByteArray, cs = [.string s] ∧ s.size ≤ maxLen) := by
  intro H enc W held fuel cs x h
  obtain ⟨s, h1, _, h2⟩ := DataW.trod_string ht h
  exact ⟨s, h1, h2⟩
theorem opens_slice {t e : TypeId} {m : Nat} {R : World → List Value → Prop} (ht : P.underlying t = some (.slice e)) (hm : P.cellsOf e = m) (h0 : 0 < m) (he : Opens P e R) :
    Opens P t (fun W cs => ∃ v rows, cs = [v] ∧ RdN W m v rows ∧ ∀ r ∈ rows, R W r) := by
  intro H enc W held fuel cs x h
  rcases Deep.open_slice ht h with ⟨rfl, _⟩ | ⟨a, len, cap, k, n, D, Pl, rfl, _, hl, hmx, hk, _, hx⟩
  · exact ⟨_, [], rfl, ⟨fun _ h => (by cases h), none, 0, rfl, Nat.le_refl _, Nat.zero_le _, fun h => absurd h (by simp)⟩, fun _ h => (by cases h)⟩
  · simp only [if_true] at hk
    obtain ⟨rows, hlen, hrows⟩ := list_of_each (p := fun i cs' => W.cells? 0 (a.add (i * m)) m = some cs' ∧ DataW.trod enc P W 0 (fun _ => true) held n e cs' = some (D i, Pl i)) len
      (fun i hi => by obtain ⟨cs', h1, h2⟩ := hx i (by omega); rw [hm] at h1; exact ⟨cs', h1, h2⟩)
    refine ⟨_, rows, rfl, ⟨fun r hr => ?_, some a, cap, by rw [hlen], by omega, hmx, fun hn => ?_⟩, fun r hr => ?_⟩
    · obtain ⟨i, hi⟩ := List.getElem?_of_mem hr
      exact (World.cells?_some (hrows i r hi).1).2.1
    · obtain ⟨b, off, spot⟩ := a
      obtain ⟨r0, hr0⟩ : ∃ r, rows[0]? = some r := ⟨_, List.getElem?_eq_getElem hn⟩
      obtain ⟨_, h1, h2⟩ := World.cells?_some (hrows 0 _ hr0).1
      have hc0 := h2 0 h0
      obtain ⟨z0, hz0⟩ : ∃ z, r0[0]? = some z := ⟨_, List.getElem?_eq_getElem (by omega)⟩
      rw [hz0, Nat.zero_mul] at hc0
      have hspot : spot = none := by
        have := World.cell?_spot hc0
        simpa [Addr.add] using this
      subst hspot
      have add2 : ∀ i j, ((⟨b, off, none⟩ : Addr).add (i * m)).add j = ⟨b, off + (i * m + j), none⟩ := fun i j => by rw [add_plain, add_plain, Nat.add_assoc]
      refine ⟨b, off, rfl, ?_, fun i j r z hr hz => ?_⟩
      · have h0' := add2 0 0
        rw [Nat.zero_mul] at h0'
        rw [h0'] at hc0
        exact lt_of_cell hc0
      · obtain ⟨_, g1, g2⟩ := World.cells?_some (hrows i r hr).1
        have hj : j < m := by have := (List.getElem?_eq_some_iff.1 hz).1; omega
        have := g2 j hj
        rw [add2] at this
        rw [this, hz]
    · obtain ⟨i, hi⟩ := List.getElem?_of_mem hr
      exact he H enc W held n r _ (hrows i r hi).2
/-- A slice of integers. -/
theorem opens_ints {t e : TypeId} {k : IntKind} (ht : P.underlying t = some (.slice e)) (he : P.underlying e = some (.int k)) (hm : P.cellsOf e = 1) :
    Opens P t (fun W cs => ∃ v l, cs = [v] ∧ Rd W k v l ∧ ∀ z ∈ l, (Lit.int k z).wf = true) := by
  intro H enc W held fuel cs x h
  obtain ⟨v, rows, h1, h2, h3⟩ := opens_slice ht hm (by omega) (opens_int he) H enc W held fuel cs x h
  obtain ⟨l, rfl, hl⟩ := map_of_each (f := fun z => [Value.int k z]) (p := fun z => (Lit.int k z).wf = true) rows h3
  refine ⟨v, l, h1, RdV.toI (RdN.one ?_), hl⟩
  rw [List.map_map]
  exact h2
theorem opens_struct2 {t : TypeId} {f0 f1 : Field} {R0 R1 : World → List Value → Prop} (ht : P.underlying t = some (.struct #[f0, f1])) (hs : P.cellsOf t = 2) (o : f0.offset = 0 ∧ f1.offset = 1)
    (c0 : P.cellsOf f0.type = 1) (c1 : P.cellsOf f1.type = 1) (h0 : Opens P f0.type R0) (h1 : Opens P f1.type R1) :
    Opens P t (fun W cs => ∃ a b, cs = [a, b] ∧ R0 W [a] ∧ R1 W [b]) := by
  intro H enc W held fuel cs x h
  obtain ⟨xs, n, _, _, hl, hlen, hf⟩ := DataW.trod_struct ht h
  rw [hs] at hl
  match xs, hlen with
  | [y0, y1], _ =>
    have e0 := hf 0 f0 rfl
    have e1 := hf 1 f1 rfl
    match cs, hl with
    | [a, b], _ =>
      rw [o.1, c0] at e0
      rw [o.2, c1] at e1
      exact ⟨a, b, rfl, h0 H enc W held n _ _ e0, h1 H enc W held n _ _ e1⟩
theorem opens_struct3 {t : TypeId} {f0 f1 f2 : Field} {R0 R1 R2 : World → List Value → Prop} (ht : P.underlying t = some (.struct #[f0, f1, f2])) (hs : P.cellsOf t = 3) (o : f0.offset = 0 ∧ f1.offset = 1 ∧ f2.offset = 2)
    (c0 : P.cellsOf f0.type = 1) (c1 : P.cellsOf f1.type = 1) (c2 : P.cellsOf f2.type = 1) (h0 : Opens P f0.type R0) (h1 : Opens P f1.type R1) (h2 : Opens P f2.type R2) :
    Opens P t (fun W cs => ∃ a b c, cs = [a, b, c] ∧ R0 W [a] ∧ R1 W [b] ∧ R2 W [c]) := by
  intro H enc W held fuel cs x h
  obtain ⟨y0, y1, y2, n, _, hl, e0, e1, e2⟩ := Deep.trod_struct3 ht h
  rw [hs] at hl
  match cs, hl with
  | [a, b, c], _ =>
    rw [o.1, c0] at e0
    rw [o.2.1, c1] at e1
    rw [o.2.2, c2] at e2
    exact ⟨a, b, c, rfl, h0 H enc W held n _ _ e0, h1 H enc W held n _ _ e1, h2 H enc W held n _ _ e2⟩
theorem opens_struct4 {t : TypeId} {f0 f1 f2 f3 : Field} {R0 R1 R2 R3 : World → List Value → Prop} (ht : P.underlying t = some (.struct #[f0, f1, f2, f3])) (hs : P.cellsOf t = 4) (o : f0.offset = 0 ∧ f1.offset = 1 ∧ f2.offset = 2 ∧ f3.offset = 3)
    (c0 : P.cellsOf f0.type = 1) (c1 : P.cellsOf f1.type = 1) (c2 : P.cellsOf f2.type = 1) (c3 : P.cellsOf f3.type = 1) (h0 : Opens P f0.type R0) (h1 : Opens P f1.type R1) (h2 : Opens P f2.type R2) (h3 : Opens P f3.type R3) :
    Opens P t (fun W cs => ∃ a b c d, cs = [a, b, c, d] ∧ R0 W [a] ∧ R1 W [b] ∧ R2 W [c] ∧ R3 W [d]) := by
  intro H enc W held fuel cs x h
  obtain ⟨xs, n, _, _, hl, hlen, hf⟩ := DataW.trod_struct ht h
  rw [hs] at hl
  match xs, hlen with
  | [y0, y1, y2, y3], _ =>
    have e0 := hf 0 f0 rfl
    have e1 := hf 1 f1 rfl
    have e2 := hf 2 f2 rfl
    have e3 := hf 3 f3 rfl
    match cs, hl with
    | [a, b, c, d], _ =>
      rw [o.1, c0] at e0
      rw [o.2.1, c1] at e1
      rw [o.2.2.1, c2] at e2
      rw [o.2.2.2, c3] at e3
      exact ⟨a, b, c, d, rfl, h0 H enc W held n _ _ e0, h1 H enc W held n _ _ e1, h2 H enc W held n _ _ e2, h3 H enc W held n _ _ e3⟩
/-- An argument, opened: a value of one cell. -/
theorem open_cell {H : Type} {enc : TypeId × Value → H} {W : World} {t : TypeId} {v : Value} {d : DataW H} {ps : List MemPlace} {R : World → List Value → Prop} (ho : Opens P t R) (hv : v.cells.toList = [v]) (hd : DataW.Trod enc P W 0 (fun _ => true) true t v d ps) : R W [v] := by
  obtain ⟨fuel, hf⟩ := hd
  rw [hv] at hf
  exact ho H enc W true fuel _ _ hf
end
end Go.Proofs.YtnhaanjpcnnifaaDoor

/-
  Rows of structs, as they lie in memory: how an element of a row is found. For every seat; no program is named here.
-/
import Derived.Test.YtnhaanjpcnnifaaDoorOpenN
import Derived.SizedLaws
namespace Go.Proofs.YtnhaanjpcnnifaaDoor
open Go.RowKit Go.ChangeShapes Go.WideShapes

/-- A 64-bit integer. -/
def I6 (z : Int) : Prop := (Lit.int .i64 z).wf = true
theorem I6.range {z : Int} (h : I6 z) : -9223372036854775808 ≤ z ∧ z ≤ 9223372036854775807 := by
  simpa [I6, Lit.wf, IntKind.min, IntKind.max, IntKind.signed, IntKind.bits] using h
/-- The cells cs lie in block b from o on. -/
def CellsAt (w : World) (b o : Nat) (cs : List Value) : Prop := ∀ j z, cs[j]? = some z → w.cell? ⟨b, o + j, none⟩ = some z
theorem CellsAt.below {w w' : World} {b o : Nat} {cs : List Value} {B : Nat} (h : CellsAt w b o cs) (hb : Below B w w') (hB : b < B) : CellsAt w' b o cs :=
  fun j z hz => (hb.cell (p := ⟨b, o + j, none⟩) hB).trans (h j z hz)
section
variable {w w' : World} {m : Nat} {A : Option Addr} {n c : Nat} {rows : List (List Value)}
theorem RdN.len (h : RdN w m (.slice A n c) rows) : n = rows.length := by
  obtain ⟨_, A', c', e, _⟩ := h
  injection e
theorem RdN.room (h : RdN w m (.slice A n c) rows) : n ≤ c ∧ c ≤ maxLen := by
  obtain ⟨_, A', c', e, h1, h2, _⟩ := h
  injection e with _ e1 e2
  subst e1 e2
  exact ⟨h1, h2⟩
/-- Where an element of a row lies. -/
theorem RdN.row (h : RdN w m (.slice A n c) rows) {i : Nat} {r : List Value} (hi : rows[i]? = some r) : ∃ b off, A = some ⟨b, off, none⟩ ∧ b < w.heap.size ∧ CellsAt w b (off + i * m) r := by
  obtain ⟨_, A', c', e, _, _, hr⟩ := h
  injection e with e1 e2 e3
  subst e1
  have hlt := (List.getElem?_eq_some_iff.1 hi).1
  obtain ⟨b, off, rfl, hb, hc⟩ := hr (by omega)
  exact ⟨b, off, rfl, hb, fun j z hz => by rw [Nat.add_assoc]; exact hc i j r z hi hz⟩
theorem RdN.nil (m : Nat) : RdN w m (.slice none 0 0) [] := ⟨fun _ h => (by cases h), none, 0, rfl, Nat.le_refl _, Nat.zero_le _, fun h => absurd h (by simp)⟩
end
/-- A length that a process can hold, of elements of eight bytes or more. -/
def Fits (n : Nat) : Prop := n ≤ 17592186044416
theorem fits_of {n b : Nat} (h8 : 8 ≤ b) (h : n * b ≤ reachBytes) : Fits n := by
  have h3 : reachBytes ≤ 140737488355328 := by decide
  have h4 : n * 8 ≤ n * b := Nat.mul_le_mul_left n h8
  unfold Fits
  omega
/-- WHAT THE CELLS OF A TYPE READ AS, where all that is read fits a process's memory. -/
def OpensW (P : Program) (t : TypeId) (R : World → List Value → Prop) : Prop :=
  ∀ (H : Type) (enc : TypeId × Value → H) (W : World) (held : Bool) (fuel : Nat) (cs : List Value) (x : DataW H × List MemPlace), DataW.trod enc P W 0 (fun _ => true) held fuel t cs = some x → (∀ n ∈ x.1.weights P t, n ≤ reachBytes) → R W cs
section
variable {P : Program}
/-- A field of one cell or more. -/
theorem trod_field {H : Type} {enc : TypeId × Value → H} {W : World} {held : Bool} {n : Nat} {t : TypeId} {m : Nat} {cs : List Value} {y : DataW H × List MemPlace} (k : Nat)
    (hm : P.cellsOf t = m) (h : DataW.trod enc P W 0 (fun _ => true) held n t ((cs.drop k).take (P.cellsOf t)) = some y) : DataW.trod enc P W 0 (fun _ => true) held n t ((cs.drop k).take m) = some y := by rwa [hm] at h
theorem weights_all {H : Type} {e : TypeId} : ∀ {ds : List (DataW H)} {d : DataW H}, d ∈ ds → ∀ n ∈ d.weights P e, n ∈ DataW.weightsAll P e ds
  | a :: r, d, hd, n, hn => by
    simp only [DataW.weightsAll, List.mem_append]
    rcases List.mem_cons.1 hd with rfl | hd
    · exact .inl hn
    · exact .inr (weights_all hd n hn)
theorem weights_field {H : Type} {t : TypeId} {fs : Array Field} (ht : P.underlying t = some (.struct fs)) {xs : List (DataW H × List MemPlace)} {i : Nat} {f : Field} {y : DataW H × List MemPlace} (hf : fs.toList[i]? = some f) (hy : xs[i]? = some y) :
    ∀ n ∈ y.1.weights P f.type, n ∈ (DataW.agg (xs.map (·.1))).weights P t := by
  intro n hn
  simp only [DataW.weights, ht]
  exact DataW.weights_mem_each (j := i) (t := f.type) (d := y.1) (by rw [List.getElem?_map, hf]; rfl) (by rw [List.getElem?_map, hy]; rfl) n hn
theorem opensW_slice {t e : TypeId} {m : Nat} {R : World → List Value → Prop} (ht : P.underlying t = some (.slice e)) (hm : P.cellsOf e = m) (h0 : 0 < m) (h8 : decide (8 ≤ P.bytesOf e) = true) (he : OpensW P e R) :
    OpensW P t (fun W cs => ∃ v rows, cs = [v] ∧ RdN W m v rows ∧ Fits rows.length ∧ ∀ r ∈ rows, R W r) := by
  intro H enc W held fuel cs x h hw
  rcases Deep.open_slice ht h with ⟨rfl, _⟩ | ⟨a, len, cap, k, n, D, Pl, rfl, _, hl, hmx, hk, rfl, hx⟩
  · exact ⟨_, [], rfl, RdN.nil m, Nat.zero_le _, fun _ h => (by cases h)⟩
  · simp only [if_true] at hk
    obtain ⟨rows, hlen, hrows⟩ := list_of_each (p := fun i cs' => W.cells? 0 (a.add (i * m)) m = some cs' ∧ DataW.trod enc P W 0 (fun _ => true) held n e cs' = some (D i, Pl i)) len
      (fun i hi => by obtain ⟨cs', h1, h2⟩ := hx i (by omega); rw [hm] at h1; exact ⟨cs', h1, h2⟩)
    have hfit : Fits rows.length := by
      refine fits_of (b := P.bytesOf e) (of_decide_eq_true h8) ?_
      have h1 := hw _ (show (((List.range len).map D).length + ((List.range (k - len)).map fun j => D (len + j)).length) * P.bytesOf e ∈ _ by simp only [DataW.weights, ht]; exact List.mem_cons_self)
      rw [List.length_map, List.length_range, Nat.add_mul] at h1
      rw [hlen]
      omega
    refine ⟨_, rows, rfl, ⟨fun r hr => ?_, some a, cap, by rw [hlen], by omega, hmx, fun hn => ?_⟩, hfit, fun r hr => ?_⟩
    · obtain ⟨i, hi⟩ := List.getElem?_of_mem hr
      exact (World.cells?_some (hrows i r hi).1).2.1
    · obtain ⟨b, off, spot⟩ := a
      obtain ⟨r0, hr0⟩ : ∃ r, rows[0]? = some r := ⟨_, List.getElem?_eq_getElem hn⟩
      obtain ⟨_, h1, h2⟩ := World.cells?_some (hrows 0 _ hr0).1
      have hc0 := h2 0 h0
      obtain ⟨z0, hz0⟩ : ∃ z, r0[0]? = some z := ⟨_, List.getElem?_eq_getElem (by omega)⟩
      rw [hz0, Nat.zero_mul] at hc0
      have hspot : spot = none := by
        have := World.cell?_spot hc0
        simpa [Addr.add] using this
      subst hspot
      have add2 : ∀ i j, ((⟨b, off, none⟩ : Addr).add (i * m)).add j = ⟨b, off + (i * m + j), none⟩ := fun i j => by rw [add_plain, add_plain, Nat.add_assoc]
      refine ⟨b, off, rfl, ?_, fun i j r z hr hz => ?_⟩
      · have h0' := add2 0 0
        rw [Nat.zero_mul] at h0'
        rw [h0'] at hc0
        exact lt_of_cell hc0
      · obtain ⟨_, g1, g2⟩ := World.cells?_some (hrows i r hr).1
        have hj : j < m := by have := (List.getElem?_eq_some_iff.1 hz).1; omega
        have := g2 j hj
        rw [add2] at this
        rw [this, hz]
    · obtain ⟨i, hi⟩ := List.getElem?_of_mem hr
      refine he H enc W held n r _ (hrows i r hi).2 (fun q hq => hw q ?_)
      have hil : i < len := by have := (List.getElem?_eq_some_iff.1 hi).1; omega
      simp only [DataW.weights, ht]
      exact List.mem_cons_of_mem _ (List.mem_append.2 (.inl (weights_all (List.mem_map.2 ⟨i, List.mem_range.2 hil, rfl⟩) q hq)))
theorem opensW_of {t : TypeId} {R : World → List Value → Prop} (h : Opens P t R) : OpensW P t R := fun H enc W held fuel cs x hx _ => h H enc W held fuel cs x hx
/-- A slice of integers. -/
theorem opensW_i6 {t e : TypeId} {k : IntKind} (ht : P.underlying t = some (.slice e)) (he : P.underlying e = some (.int k)) (hm : P.cellsOf e = 1) (h8 : decide (8 ≤ P.bytesOf e) = true) :
    OpensW P t (fun W cs => ∃ v l, cs = [v] ∧ Rd W k v l ∧ Fits l.length ∧ ∀ z ∈ l, (Lit.int k z).wf = true) := by
  intro H enc W held fuel cs x h hw
  obtain ⟨v, rows, h1, h2, h4, h3⟩ := opensW_slice ht hm (by omega) h8 (opensW_of (opens_int he)) H enc W held fuel cs x h hw
  obtain ⟨l, rfl, hl⟩ := map_of_each (f := fun z => [Value.int k z]) (p := fun z => (Lit.int k z).wf = true) rows h3
  refine ⟨v, l, h1, RdV.toI (RdN.one ?_), by simpa using h4, hl⟩
  rw [List.map_map]
  exact h2
end
end Go.Proofs.YtnhaanjpcnnifaaDoor

/-
  Rows of one-cell values of any kind, and what a call may turn: a set of blocks. For every seat; no program is named here.
-/
import Derived.Test.YtnhaanjpcnnifaaDoorBlock
import Derived.Maps.Own
import Derived.Maps.OwnSet
import Derived.Laws.OwnMore
import Derived.Laws.BytesArg
import Derived.Deep.RegionLaw
import Derived.Laws.IdiomStrings
namespace Go.Proofs.YtnhaanjpcnnifaaDoor
open Go.RowKit Go.MapKept Go.ChangeMaps

/-- w' is w, but for the blocks of S and what is new. -/
structure Frm (w w' : World) (S : List Nat) : Prop where
  os : w'.os = w.os
  tape : w'.tape = w.tape
  output : w'.output = w.output
  size : w.heap.size ≤ w'.heap.size
  block : ∀ i, i < w.heap.size → i ∉ S → w'.heap[i]? = w.heap[i]?

section
variable {a b c w w' : World} {S T : List Nat}
theorem Frm.refl (w : World) (S : List Nat) : Frm w w S := ⟨rfl, rfl, rfl, Nat.le_refl _, fun _ _ _ => rfl⟩
theorem Frm.trans' (h : Frm a b S) (k : Frm b c T) (hT : ∀ g ∈ T, g ∈ S ∨ a.heap.size ≤ g) : Frm a c S :=
  ⟨k.os.trans h.os, k.tape.trans h.tape, k.output.trans h.output, Nat.le_trans h.size k.size, fun i hi hs =>
    (k.block i (Nat.lt_of_lt_of_le hi h.size) (fun ht => by
      rcases hT i ht with h1 | h1
      · exact hs h1
      · omega)).trans (h.block i hi hs)⟩
theorem Frm.trans (h : Frm a b S) (k : Frm b c S) : Frm a c S := h.trans' k fun _ hg => .inl hg
theorem Frm.mono (h : Frm a b S) (hT : ∀ g ∈ S, g ∈ T ∨ a.heap.size ≤ g) : Frm a b T :=
  ⟨h.os, h.tape, h.output, h.size, fun i hi hs => h.block i hi (fun ht => by
    rcases hT i ht with h1 | h1
    · exact hs h1
    · omega)⟩
theorem Frm.below (h : Below w.heap.size w w') : Frm w w' S := ⟨h.os, h.tape, h.output, h.size, fun i hi _ => h.block i hi⟩
theorem Frm.toBelow {B : Nat} (h : Frm w w' S) (hS : ∀ g ∈ S, B ≤ g) (hB : B ≤ w.heap.size) : Below B w w' :=
  ⟨h.os, h.tape, h.output, h.size, fun i hi => h.block i (by omega) (fun hs => by have := hS i hs; omega)⟩
theorem Frm.grown {row : Option Nat} (h : w.grownBy w' row) : Frm w w' row.toList :=
  ⟨h.os, h.tape, h.output, h.size, fun i hi hs => h.block i hi (fun e => hs (by rw [← e]; simp))⟩
theorem Frm.alloc (h : Frm a w S) (o : Obj) : Frm a (w.alloc o) S := h.trans (Frm.below ((Below.refl _ _).alloc (Nat.le_refl _) o))
theorem Frm.drewN (h : Frm a w S) (n : Nat) : Frm a (w.drewN n) S := ⟨h.os, h.tape, h.output, h.size, h.block⟩
theorem Frm.drew (w : World) (S : List Nat) : Frm w w.drew S := ⟨rfl, rfl, rfl, Nat.le_refl _, fun _ _ _ => rfl⟩
theorem Frm.setCell (h : Frm a w S) (p : Addr) (u : Value) (hp : p.block ∈ S ∨ a.heap.size ≤ p.block) : Frm a (w.setCell p u) S :=
  ⟨h.os, h.tape, h.output, by simpa [World.setCell] using h.size, fun i hi hs =>
    (Below.heap_setCell w p u i (fun e => by
      rcases hp with h1 | h1
      · exact hs (e ▸ h1)
      · omega)).trans (h.block i hi hs)⟩
theorem Frm.map {g : Nat} (h : w.mapTurned w' g) : Frm w w' [g] := by
  obtain ⟨es, clock, es', clock', hb, rfl⟩ := h
  refine ⟨rfl, rfl, rfl, by simp [setBlock], fun i _ hs => ?_⟩
  exact heap_setBlock_other hb _ (by simpa using hs)
theorem Frm.cell {p : Addr} (h : Frm w w' S) (hp : p.block < w.heap.size) (hs : p.block ∉ S) : w'.cell? p = w.cell? p := World.cell?_of_block (h.block _ hp hs)
theorem Frm.frozen {p : Addr} (h : Frm w w' S) (hp : p.block < w.heap.size) (hs : p.block ∉ S) : w'.frozen? p = w.frozen? p := World.frozen?_of_block (h.block _ hp hs)
theorem Whole.frm {g : Nat} {t : TypeId} {cs : Array Value} (h : Whole w g t cs) (hf : Frm w w' S) (hg : g ∉ S) : Whole w' g t cs := (hf.block g h.lt hg).trans h
end

/-- The slice value v reads as the cells vs. -/
def RdV (w : World) (v : Value) (vs : List Value) : Prop :=
  ∃ A c, v = .slice A vs.length c ∧ vs.length ≤ c ∧ c ≤ maxLen ∧ (0 < vs.length → ∃ b off, A = some ⟨b, off, none⟩ ∧ b < w.heap.size ∧ ∀ j z, vs[j]? = some z → w.cell? ⟨b, off + j, none⟩ = some z)
/-- The slice value v is a row of the call's own, from block base on, of the cells vs. -/
def OwnV (w : World) (base : Nat) (e : TypeId) (v : Value) (vs : List Value) : Prop := w.ownsRow base e 1 v vs.length vs
/-- A slice type and its one-cell elements, in the program's tables. -/
structure ElemV (P : Program) (t e : TypeId) (z : Value) (bytes : Nat) : Prop where
  sl : P.underlying t = some (.slice e)
  one : z.cells.size = 1
  info : ∃ i, P.info? e = some i ∧ i.zero = some z ∧ i.size = 1 ∧ i.bytes = bytes

section
variable {w w' : World} {base : Nat} {e : TypeId} {v : Value} {vs : List Value} {S : List Nat}
theorem Rd.toV {k : IntKind} {l : List Int} (h : Rd w k v l) : RdV w v (l.map (Value.int k)) := by
  obtain ⟨A, c, h1, h2, h3, h4⟩ := h
  refine ⟨A, c, by simpa using h1, by simpa using h2, h3, fun hn => ?_⟩
  obtain ⟨b, off, e1, hb, hc⟩ := h4 (by simpa using hn)
  refine ⟨b, off, e1, hb, fun j z hz => ?_⟩
  rw [List.getElem?_map] at hz
  obtain ⟨y, hy, rfl⟩ := Option.map_eq_some_iff.1 hz
  exact hc j y hy
theorem RdV.toI {k : IntKind} {l : List Int} (h : RdV w v (l.map (Value.int k))) : Rd w k v l := by
  obtain ⟨A, c, h1, h2, h3, h4⟩ := h
  refine ⟨A, c, by simpa using h1, by simpa using h2, h3, fun hn => ?_⟩
  obtain ⟨b, off, e1, hb, hc⟩ := h4 (by simpa using hn)
  exact ⟨b, off, e1, hb, fun j z hz => hc j _ (by simp [hz])⟩
theorem Own.toV {k : IntKind} {l : List Int} (h : Own w base e k v l) : OwnV w base e v (l.map (Value.int k)) := by
  unfold OwnV; rw [List.length_map]; exact h
theorem OwnV.toI {k : IntKind} {l : List Int} (h : OwnV w base e v (l.map (Value.int k))) : Own w base e k v l := by
  unfold OwnV at h; rw [List.length_map] at h; exact h
theorem Own.form {k : IntKind} {l : List Int} (h : Own w base e k v l) (hn : 0 < l.length) : ∃ g cap, v = .slice (some ⟨g, 0, none⟩) l.length cap ∧ l.length ≤ cap ∧ cap ≤ maxLen ∧ base ≤ g ∧ g < w.heap.size := by
  rcases h.2 with ⟨_, h0⟩ | ⟨g, cap, cur, rfl, hg, hh, hc, hm, _⟩
  · omega
  · exact ⟨g, cap, rfl, hc, hm, hg, (h.size g rfl).2⟩
theorem RdV.below {B : Nat} (h : RdV w v vs) (hb : Below B w w') (hB : w.heap.size ≤ B) : RdV w' v vs := by
  obtain ⟨A, c, e1, hc, hm, hr⟩ := h
  refine ⟨A, c, e1, hc, hm, fun hn => ?_⟩
  obtain ⟨b, off, e2, hlt, hcell⟩ := hr hn
  exact ⟨b, off, e2, Nat.lt_of_lt_of_le hlt hb.size, fun j z hz => (hb.cell (p := ⟨b, off + j, none⟩) (Nat.lt_of_lt_of_le hlt hB)).trans (hcell j z hz)⟩
theorem RdV.below' (h : RdV w v vs) (hb : Below w.heap.size w w') : RdV w' v vs := h.below hb (Nat.le_refl _)
theorem RdV.frm (h : RdV w v vs) (hf : Frm w w' S) (hv : ∀ g, v.ownBlock = some g → g ∉ S) : RdV w' v vs := by
  obtain ⟨A, c, rfl, hc, hm, hr⟩ := h
  refine ⟨A, c, rfl, hc, hm, fun hn => ?_⟩
  obtain ⟨b, off, rfl, hlt, hcell⟩ := hr hn
  exact ⟨b, off, rfl, Nat.lt_of_lt_of_le hlt hf.size, fun j z hz => (hf.cell (p := ⟨b, off + j, none⟩) hlt (hv b rfl)).trans (hcell j z hz)⟩
theorem RdV.len (h : RdV w v vs) : vs.length ≤ maxLen := by obtain ⟨_, _, _, h1, h2, _⟩ := h; omega
theorem RdV.nil : RdV w (.slice none 0 0) [] := ⟨none, 0, rfl, Nat.le_refl _, Nat.zero_le _, fun h => absurd h (by simp)⟩
theorem RdV.alloc (h : RdV w v vs) (o : Obj) : RdV (w.alloc o) v vs := h.below' ((Below.refl _ _).alloc (Nat.le_refl _) o)
/-- The cell that an index leads to. -/
theorem RdV.at {A : Option Addr} {n c : Nat} (h : RdV w (.slice A n c) vs) (j : Nat) (z : Value) (hz : vs[j]? = some z) : ∃ b off, A = some ⟨b, off, none⟩ ∧ b < w.heap.size ∧ w.cell? ⟨b, off + j, none⟩ = some z := by
  obtain ⟨A', c', e1, _, _, hr⟩ := h
  injection e1 with e1 e2 e3
  subst e1
  have hlt : j < vs.length := by
    rcases Nat.lt_or_ge j vs.length with hlt | hge
    · exact hlt
    · rw [List.getElem?_eq_none hge] at hz; cases hz
  obtain ⟨b, off, rfl, hb, hc⟩ := hr (by omega)
  exact ⟨b, off, rfl, hb, hc j z hz⟩
theorem OwnV.nil : OwnV w base e (.slice none 0 0) [] := ⟨rfl, .inl ⟨rfl, rfl⟩⟩
theorem OwnV.size (h : OwnV w base e v vs) : ∀ g, v.ownBlock = some g → base ≤ g ∧ g < w.heap.size := World.ownsRow.lt h
theorem OwnV.rd (h : OwnV w base e v vs) : RdV w v vs := by
  obtain ⟨h1, h2⟩ := h
  rcases h2 with ⟨rfl, h0⟩ | ⟨g, cap, cur, rfl, hg, hh, hn, hm, hs, ht⟩
  · exact ⟨none, 0, by rw [h0], by omega, by unfold maxLen; omega, fun hn => by omega⟩
  · refine ⟨_, cap, rfl, hn, hm, fun _ => ⟨g, 0, rfl, ?_, fun j z hz => ?_⟩⟩
    · rcases Nat.lt_or_ge g w.heap.size with hlt | hge
      · exact hlt
      · rw [Array.getElem?_eq_none hge] at hh; cases hh
    · have hlt : j < vs.length := by
        rcases Nat.lt_or_ge j vs.length with hlt | hge
        · exact hlt
        · rw [List.getElem?_eq_none hge] at hz; cases hz
      rw [← ht, List.getElem?_take_of_lt (by omega)] at hz
      simp only [World.cell?, Nat.zero_add, hh]
      simpa using hz
/-- A row that holds something, written out. -/
theorem OwnV.form (h : OwnV w base e v vs) (hn : 0 < vs.length) : ∃ g cap, v = .slice (some ⟨g, 0, none⟩) vs.length cap ∧ vs.length ≤ cap ∧ cap ≤ maxLen ∧ base ≤ g ∧ g < w.heap.size := by
  rcases h.2 with ⟨_, h0⟩ | ⟨g, cap, cur, rfl, hg, hh, hc, hm, _⟩
  · omega
  · exact ⟨g, cap, rfl, hc, hm, hg, (h.size g rfl).2⟩
theorem OwnV.cellAt {g n cap : Nat} (h : OwnV w base e (.slice (some ⟨g, 0, none⟩) n cap) vs) {j : Nat} {z : Value} (hz : vs[j]? = some z) : w.cell? ⟨g, j, none⟩ = some z := by
  obtain ⟨b, off, e1, _, hc⟩ := h.rd.at j z hz
  rcases h.2 with ⟨e2, _⟩ | ⟨g', cap', cur, e2, _, hh, _, _, hs, ht⟩
  · cases e2
  · injection e2 with e2 _ _
    injection e2 with e2
    injection e2 with e2
    subst e2
    simp only [World.cell?, hh]
    have hj : j < vs.length := (List.getElem?_eq_some_iff.1 hz).1
    rw [← ht, List.getElem?_take_of_lt (by omega)] at hz
    simpa using hz
theorem OwnV.freeAt {g n cap : Nat} (h : OwnV w base e (.slice (some ⟨g, 0, none⟩) n cap) vs) (j : Nat) : w.frozen? ⟨g, j, none⟩ = false := by
  rcases h.2 with ⟨e2, _⟩ | ⟨g', cap', cur, e2, _, hh, _⟩
  · cases e2
  · injection e2 with e2 _ _
    injection e2 with e2
    injection e2 with e2
    subst e2
    simp [World.frozen?, hh]
theorem OwnV.set {g n cap : Nat} (h : OwnV w base e (.slice (some ⟨g, 0, none⟩) n cap) vs) (j : Nat) (u : Value) : OwnV (w.setCell ⟨g, j, none⟩ u) base e (.slice (some ⟨g, 0, none⟩) n cap) (vs.set j u) := by
  rcases h.2 with ⟨e2, _⟩ | ⟨g', cap', cur, e2, hg, hh, hc, hm, hs, ht⟩
  · cases e2
  · injection e2 with e2 e3 e4
    injection e2 with e2
    injection e2 with e2
    subst e2 e3 e4
    have hw : (w.setCell ⟨g, j, none⟩ u).heap[g]? = some (.cells (cur.setIfInBounds j u) e (0, 0)) := by simp [World.setCell, Array.getElem?_modify, hh]
    refine ⟨by simp, .inr ⟨g, cap, _, by simp, hg, hw, by simpa using hc, hm, by simpa using hs, ?_⟩⟩
    rw [Array.toList_setIfInBounds, List.length_set, List.take_set, ht]
theorem Own.cellAt {g n cap j : Nat} {k : IntKind} {l : List Int} {z : Int} (h : Own w base e k (.slice (some ⟨g, 0, none⟩) n cap) l) (hz : l[j]? = some z) : w.cell? ⟨g, j, none⟩ = some (.int k z) := h.toV.cellAt (by rw [List.getElem?_map, hz]; rfl)
theorem Own.freeAt {g n cap : Nat} {k : IntKind} {l : List Int} (h : Own w base e k (.slice (some ⟨g, 0, none⟩) n cap) l) (j : Nat) : w.frozen? ⟨g, j, none⟩ = false := h.toV.freeAt j
theorem Own.set {g n cap : Nat} {k : IntKind} {l : List Int} (h : Own w base e k (.slice (some ⟨g, 0, none⟩) n cap) l) (j : Nat) (z : Int) : Own (w.setCell ⟨g, j, none⟩ (.int k z)) base e k (.slice (some ⟨g, 0, none⟩) n cap) (l.set j z) := by
  have := h.toV.set j (.int k z)
  rw [← List.map_set] at this
  exact this.toI
theorem OwnV.frm (h : OwnV w base e v vs) (hf : Frm w w' S) (hv : ∀ g, v.ownBlock = some g → g ∉ S) : OwnV w' base e v vs := by
  obtain ⟨h1, h2⟩ := h
  refine ⟨h1, ?_⟩
  rcases h2 with h2 | ⟨g, cap, cur, rfl, hg, hh, r⟩
  · exact .inl h2
  · refine .inr ⟨g, cap, cur, rfl, hg, ?_, r⟩
    have hlt : g < w.heap.size := by
      rcases Nat.lt_or_ge g w.heap.size with hlt | hge
      · exact hlt
      · rw [Array.getElem?_eq_none hge] at hh; cases hh
    exact (hf.block g hlt (hv g rfl)).trans hh
theorem OwnV.below' (h : OwnV w base e v vs) (hb : Below w.heap.size w w') : OwnV w' base e v vs := h.frm (S := []) (Frm.below hb) (fun _ _ => by simp)
theorem OwnV.alloc (h : OwnV w base e v vs) (o : Obj) : OwnV (w.alloc o) base e v vs := World.ownsRow.alloc h o
theorem OwnV.drew (h : OwnV w base e v vs) : OwnV w.drew base e v vs := h
theorem OwnV.low (h : OwnV w base e v vs) {b : Nat} (hb : b ≤ base) : OwnV w b e v vs := by
  obtain ⟨h1, h2⟩ := h
  refine ⟨h1, ?_⟩
  rcases h2 with h2 | ⟨g, cap, cur, hv, hg, r⟩
  · exact .inl h2
  · exact .inr ⟨g, cap, cur, hv, by omega, r⟩
end

section
variable {P : Program} (w : World)

/-- 'append' onto a row of the call's own, the source nil, empty or not. -/
theorem run_append_v (base : Nat) (t ty e : TypeId) (z : Value) (bytes : Nat) (E : ElemV P t e z bytes) (v : Value) (l : List Value) (hown : OwnV w base e v l) (u : Value) (m : List Value) (hr : RdV w u m) (hone : ∀ x ∈ m, x.oneCell' = true)
    (hbytes : (l.length + m.length) * bytes ≤ 140737488355328) (hlen : l.length + m.length ≤ maxLen) (hbase : base ≤ w.heap.size) :
    ∃ v' w', (Builtin.append_ #[t, t] ty #[v, u]).run P w = .ok v' w' ∧ OwnV w' base e v' (l ++ m) ∧ Frm w w' v.ownBlock.toList ∧ (v'.ownBlock = v.ownBlock ∨ v'.ownBlock = some w.heap.size) := by
  obtain ⟨i, hi, hz, hs1, hby⟩ := E.info
  obtain ⟨A, c, rfl, hmc, _, hc⟩ := hr
  have fin : ∀ ad : Addr, A = some ad → (∀ j x, m[j]? = some x → w.cell? (ad.add j) = some x) →
      ∃ v' w', (Builtin.append_ #[t, t] ty #[v, .slice A m.length c]).run P w = .ok v' w' ∧ OwnV w' base e v' (l ++ m) ∧ Frm w w' v.ownBlock.toList ∧ (v'.ownBlock = v.ownBlock ∨ v'.ownBlock = some w.heap.size) := by
    rintro ad rfl hnews
    obtain ⟨v', w', hrun, h2, h3, _, h5⟩ := run_append_own_at (P := P) w base t ty e i z 1 bytes E.sl hi hz hs1 hby E.one (by decide) v l.length _ hown ad m.length c _ (by simp) hnews hone hlen hbytes hbase
    refine ⟨v', w', hrun, ?_, Frm.grown h3, h5⟩
    unfold OwnV
    rw [List.length_append]
    exact h2
  rcases Nat.eq_zero_or_pos m.length with h0 | h0
  · obtain rfl : m = [] := List.eq_nil_of_length_eq_zero h0
    rcases A with _ | ad
    · refine ⟨v, w, ?_, by simpa using hown, Frm.refl w _, .inl rfl⟩
      rcases hown.2 with ⟨rfl, _⟩ | ⟨g, cap, cur, rfl, _, _, hnc, _⟩
      · simp [Builtin.append_, run_underlying E.sl, sizeOf, typeInfo, hi, Builtin.lenOf, Builtin.firstCells]
      · simp [Builtin.append_, run_underlying E.sl, sizeOf, typeInfo, hi, Builtin.lenOf, Builtin.firstCells, hnc, storeCells]
    · exact fin ad rfl (fun j x hx => by simp at hx)
  · obtain ⟨b, off, rfl, _, hcell⟩ := hc h0
    refine fin _ rfl (fun j x hx => ?_)
    have := hcell j x hx
    have ea : (⟨b, off, none⟩ : Addr).add j = ⟨b, off + j, none⟩ := by
      unfold Addr.add
      split
      · rename_i h; rw [h]; rfl
      · rfl
    rw [ea]; exact this

theorem wpList_append_v {ops : Array Oper} {rest : List Oper} {o : Oper} {a : Act} {Q : Exit → Act → World → Prop} (hgd : o.guard = none) (s x : Operand) (t : TypeId)
    (ho : o.op = .call { callee := .builtin .append, args := #[s, x], argTypes := #[t, t] })
    (base : Nat) (e : TypeId) (z : Value) (bytes : Nat) (E : ElemV P t e z bytes) (v : Value) (l : List Value) (hs : a.eval s = v) (hown : OwnV w base e v l) (u : Value) (m : List Value) (hx : a.eval x = u) (hr : RdV w u m) (hone : ∀ x ∈ m, x.oneCell' = true)
    (hbytes : (l.length + m.length) * bytes ≤ 140737488355328) (hlen : l.length + m.length ≤ maxLen) (hbase : base ≤ w.heap.size)
    (h : ∀ v' w', OwnV w' base e v' (l ++ m) → Frm w w' v.ownBlock.toList → (v'.ownBlock = v.ownBlock ∨ v'.ownBlock = some w.heap.size) → wpList P ops Q rest (a.put o.dst v') w') : wpList P ops Q (o :: rest) a w := by
  refine wpList_plain hgd fun _ hK => ?_
  obtain ⟨v', w', hrun, h2, h3, h4⟩ := run_append_v (P := P) w base t o.type e z bytes E v l hown u m hr hone hbytes hlen hbase
  unfold Oper.wp execOp
  simp only [ho, resolve, invoke, builtin, Sem.run_bind, Sem.run_pure, Result.andThen_ok, List.map_toArray, List.map_cons, List.map_nil, hs, hx, hrun]
  exact hK _ _ (h v' w' h2 h3 h4)

/-- .. as one step of a region that draws its order. -/
theorem step_append_v {ops : Array Oper} {o : Oper} {a : Act} {w : World} {K : Act → World → Prop} {Q : Exit → Act → World → Prop} {E0 : Prop} (hgd : o.guard = none) (s x : Operand) (t : TypeId)
    (ho : o.op = .call { callee := .builtin .append, args := #[s, x], argTypes := #[t, t] })
    (base : Nat) (e : TypeId) (z : Value) (bytes : Nat) (E : ElemV P t e z bytes) (v : Value) (l : List Value) (hs : a.eval s = v) (hown : OwnV w base e v l) (u : Value) (m : List Value) (hx : a.eval x = u) (hr : RdV w u m) (hone : ∀ x ∈ m, x.oneCell' = true)
    (hbytes : (l.length + m.length) * bytes ≤ 140737488355328) (hlen : l.length + m.length ≤ maxLen) (hbase : base ≤ w.heap.size)
    (hK : ∀ v' w', OwnV w' base e v' (l ++ m) → Frm w w' v.ownBlock.toList → (v'.ownBlock = v.ownBlock ∨ v'.ownBlock = some w.heap.size) → K (a.put o.dst v') w') :
    if Region.wanted o (yielded ops a.tmps) = true then Oper.wp P o a w K Q else E0 := by
  have hw : Region.wanted o (yielded ops a.tmps) = true := by simp [Region.wanted, hgd]
  rw [if_pos hw]
  obtain ⟨v', w', hrun, h2, h3, h4⟩ := run_append_v (P := P) w base t o.type e z bytes E v l hown u m hr hone hbytes hlen hbase
  unfold Oper.wp
  simp [execOp, ho, resolve, invoke, builtin, hs, hx, hrun, Result.andThen]
  exact hK v' w' h2 h3 h4

/-- One element in a block of its own: what 'append(s, x)' is handed. -/
theorem rdv_one (w : World) (t : TypeId) (z : Value) : RdV (w.alloc (.cells #[z] t)) (.slice (some ⟨w.heap.size, 0, none⟩) 1 1) [z] := by
  refine ⟨_, 1, rfl, Nat.le_refl _, by unfold maxLen; omega, fun _ => ⟨w.heap.size, 0, rfl, by simp, fun j y hy => ?_⟩⟩
  cases j with
  | zero => simp only [List.getElem?_cons_zero, Option.some.injEq] at hy; subst hy; simp [go_sem]
  | succ j => simp at hy

theorem rdv_one_drew (w : World) (t : TypeId) (z : Value) : RdV (w.alloc (.cells #[z] t)).drew (.slice (some ⟨w.heap.size, 0, none⟩) 1 1) [z] := rdv_one w t z

/-- The string of a slice of bytes. -/
theorem run_convert_rd (src dst e : TypeId) (hs : P.underlying src = some (.slice e)) (he : P.underlying e = some (.int .u8)) (hd : P.underlying dst = some .string) {v : Value} {l : List Int} (h : Rd w .u8 v l) :
    (convert src dst v).run P w = .ok (.string (strOfNums l)) w := by
  obtain ⟨A, c, rfl, _, _, hc⟩ := h
  rcases A with _ | ad
  · have h0 : l = [] := by
      rcases Nat.eq_zero_or_pos l.length with h0 | h0
      · exact List.eq_nil_of_length_eq_zero h0
      · obtain ⟨_, _, e, _⟩ := hc h0; cases e
    subst h0
    rw [run_convert_bytes_nil w src e hs he _ _ dst hd]
    rfl
  · rcases Nat.eq_zero_or_pos l.length with h0 | h0
    · have h0' : l = [] := List.eq_nil_of_length_eq_zero h0
      subst h0'
      obtain ⟨b, off, p⟩ := ad
      have hl := run_loadCells_list (P := P) w ⟨b, off, p⟩ [] (fun j v hj => by simp at hj)
      rw [run_convert_bytes_string w src dst e _ _ _ hs he hd, run_bytesToString w _ ([] : List Int).length _ [] (by simpa using hl)]
      rfl
    · obtain ⟨b, off, e1, _, hcell⟩ := hc h0
      injection e1 with e1
      subst e1
      refine run_convert_bytes_arg w src e hs he b off _ _ l rfl (fun i hi => ?_) dst hd
      rw [hcell i _ (List.getElem?_eq_getElem hi)]
      simp [List.getD, List.getElem?_eq_getElem hi]
end

theorem byte_u8 {z : Int} (h : (Lit.int .u8 z).wf = true) : 0 ≤ z ∧ z ≤ 255 := by
  simpa [Lit.wf, IntKind.min, IntKind.max, IntKind.signed, IntKind.bits] using h
/-- A row of bytes that nothing else knows, its first cells free to be written. -/
def Buf (w : World) (v : Value) (l : List Int) : Prop :=
  ∃ g cap cur e fr, v = .slice (some ⟨g, 0, none⟩) l.length cap ∧ w.heap[g]? = some (.cells cur e fr) ∧ l.length ≤ cap ∧ cap ≤ maxLen ∧ l.length ≤ fr.1 ∧ ∀ (j : Nat) (z : Int), l[j]? = some z → cur[j]? = some (Value.int .u8 z)
section
variable {w w' : World} {v : Value} {l : List Int} {S : List Nat}
theorem Buf.rd (h : Buf w v l) : Rd w .u8 v l := by
  obtain ⟨g, cap, cur, e, fr, rfl, hh, hc, hm, hf, hr⟩ := h
  refine ⟨_, cap, rfl, hc, hm, fun _ => ⟨g, 0, rfl, ?_, fun j z hz => ?_⟩⟩
  · rcases Nat.lt_or_ge g w.heap.size with hlt | hge
    · exact hlt
    · rw [Array.getElem?_eq_none hge] at hh; cases hh
  · simp only [World.cell?, Nat.zero_add, hh]
    simpa using hr j z hz
theorem Buf.frm (h : Buf w v l) (hf : Frm w w' S) (hv : ∀ g, v.ownBlock = some g → g ∉ S) : Buf w' v l := by
  obtain ⟨g, cap, cur, e, fr, rfl, hh, r⟩ := h
  have hlt : g < w.heap.size := by
    rcases Nat.lt_or_ge g w.heap.size with hlt | hge
    · exact hlt
    · rw [Array.getElem?_eq_none hge] at hh; cases hh
  exact ⟨g, cap, cur, e, fr, rfl, (hf.block g hlt (hv g rfl)).trans hh, r⟩
theorem Buf.form (h : Buf w v l) : ∃ g cap, v = .slice (some ⟨g, 0, none⟩) l.length cap ∧ l.length ≤ cap ∧ cap ≤ maxLen := by
  obtain ⟨g, cap, cur, e, fr, rfl, hh, hc, hm, _⟩ := h
  exact ⟨g, cap, rfl, hc, hm⟩
theorem Buf.cellAt {g n cap j : Nat} {z : Int} (h : Buf w (.slice (some ⟨g, 0, none⟩) n cap) l) (hz : l[j]? = some z) : w.cell? ⟨g, j, none⟩ = some (.int .u8 z) := by
  obtain ⟨g', cap', cur, e, fr, e1, hh, _, _, _, hr⟩ := h
  injection e1 with e1 _ _
  injection e1 with e1
  injection e1 with e1
  subst e1
  simp only [World.cell?, hh]
  simpa using hr j z hz
theorem Buf.freeAt {g n cap j : Nat} (h : Buf w (.slice (some ⟨g, 0, none⟩) n cap) l) (hj : j < l.length) : w.frozen? ⟨g, j, none⟩ = false := by
  obtain ⟨g', cap', cur, e, fr, e1, hh, _, _, hf, _⟩ := h
  injection e1 with e1 _ _
  injection e1 with e1
  injection e1 with e1
  subst e1
  obtain ⟨lo, hi⟩ := fr
  simp only [World.frozen?, hh]
  simp only at hf
  simp; omega
theorem Buf.set {g n cap : Nat} (h : Buf w (.slice (some ⟨g, 0, none⟩) n cap) l) (j : Nat) (u : Int) : Buf (w.setCell ⟨g, j, none⟩ (.int .u8 u)) (.slice (some ⟨g, 0, none⟩) n cap) (l.set j u) := by
  obtain ⟨g', cap', cur, e, fr, e1, hh, hc, hm, hf, hr⟩ := h
  injection e1 with e1 e2 e3
  injection e1 with e1
  injection e1 with e1
  subst e1 e2 e3
  refine ⟨g, cap, cur.setIfInBounds j (.int .u8 u), e, fr, by simp, by simp [World.setCell, Array.getElem?_modify, hh], by simpa using hc, hm, by simpa using hf, fun i z hz => ?_⟩
  rw [List.getElem?_set] at hz
  rw [Array.getElem?_setIfInBounds]
  split at hz
  · rename_i hji
    subst hji
    split at hz
    · rename_i hjl
      obtain ⟨y, hy⟩ : ∃ y, l[j]? = some y := ⟨_, List.getElem?_eq_getElem hjl⟩
      have := hr j y hy
      have hjc := (Array.getElem?_eq_some_iff.1 this).1
      injection hz with hz
      subst hz
      simp [hjc]
    · cases hz
  · rename_i hji
    rw [if_neg hji]
    exact hr i z hz
theorem strOfNums_dsize (l : List Int) : (strOfNums l).data.size = l.length := by simp [strOfNums]
theorem ownV_empty (w : World) (e : TypeId) (base : Nat) (hb : base ≤ w.heap.size) : OwnV (w.alloc (.cells #[] e)) base e (.slice (some ⟨w.heap.size, 0, none⟩) 0 0) [] :=
  ⟨rfl, .inr ⟨w.heap.size, 0, #[], rfl, hb, heap_alloc_new w _, Nat.le_refl _, by unfold maxLen; omega, rfl, rfl⟩⟩
theorem ownI_empty (w : World) (e : TypeId) (k : IntKind) (base : Nat) (hb : base ≤ w.heap.size) : Own (w.alloc (.cells #[] e)) base e k (.slice (some ⟨w.heap.size, 0, none⟩) 0 0) [] := (ownV_empty w e base hb).toI
/-- A constant's bytes: one, in a new block that bears the run-time's mark. -/
theorem rd_marked (w : World) (t : TypeId) (z : Int) (fr : Nat × Nat) : Rd (w.alloc (.cells #[.int .u8 z] t fr)) .u8 (.slice (some ⟨w.heap.size, 0, none⟩) 1 1) [z] := by
  refine ⟨_, 1, rfl, Nat.le_refl _, by unfold maxLen; omega, fun _ => ⟨w.heap.size, 0, rfl, by rw [World.size_alloc]; exact Nat.lt_succ_self _, fun j y hy => ?_⟩⟩
  cases j with
  | zero => simp only [List.getElem?_cons_zero, Option.some.injEq] at hy; subst hy; rw [Nat.zero_add, World.cell?_alloc_mark]; rfl
  | succ j => simp at hy
/-- '[]byte(s)'. -/
theorem run_bytes_buf {P : Program} (w : World) (src dst e : TypeId) (l : List Int) (hb : ∀ z ∈ l, 0 ≤ z ∧ z ≤ 255) (hl : l.length ≤ maxLen) (hs : P.underlying src = some .string) (hd : P.underlying dst = some (.slice e)) (he : P.underlying e = some (.int .u8)) :
    ∃ cap w', (convert src dst (.string (strOfNums l))).run P w = .ok (.slice (some ⟨w.heap.size, 0, none⟩) l.length cap) w' ∧ Buf w' (.slice (some ⟨w.heap.size, 0, none⟩) l.length cap) l ∧ Frm w w' [] ∧ w.heap.size < w'.heap.size ∧ cap ≤ maxLen := by
  have hrun := run_bytes_of_string (P := P) w src dst e (strOfNums l) hs hd he
  rw [strOfNums_size] at hrun
  have hge := grownCap_ge w l.length 0 e
  have hle := grownCap_le_maxLen w l.length 0 e hl
  refine ⟨_, _, hrun, ⟨w.heap.size, _, _, e, _, rfl, heap_alloc_new w.drew _, hge, hle, ?_, fun j z hz => ?_⟩, ((Frm.drew w []).alloc _), by rw [World.size_alloc]; exact Nat.lt_succ_self _, hle⟩
  · simp only [bytesRow, Array.size_append, Array.size_map]
    have := strOfNums_dsize l
    omega
  · have hjl : j < l.length := by
      rcases Nat.lt_or_ge j l.length with hlt | hge
      · exact hlt
      · rw [List.getElem?_eq_none hge] at hz; cases hz
    have hj : j < (strOfNums l).data.size := by rw [strOfNums_dsize]; exact hjl
    rw [bytesRow_at _ _ _ hj]
    have e1 : (strOfNums l).data[j] = UInt8.ofNat z.toNat := by
      have h1 := strOfNums_data l
      have h2 : (strOfNums l).data.toList[j]? = some (UInt8.ofNat z.toNat) := by rw [h1, List.getElem?_map, hz]; rfl
      rw [List.getElem?_eq_some_iff] at h2
      obtain ⟨_, h2⟩ := h2
      simpa using h2
    rw [e1]
    have hzb := hb z (List.mem_of_getElem? hz)
    have : ((UInt8.ofNat z.toNat).toNat : Int) = z := by rw [UInt8.toNat_ofNat']; omega
    rw [this]
end
end Go.Proofs.YtnhaanjpcnnifaaDoor

/-
  Slices of integers: what a slice value reads as, and a row that the call itself made. For every seat; no program is named here.
-/
import Derived.WalkKit
import Derived.ProofKit
import Derived.Handy
import Derived.Maps.AppendAt
import Derived.Deep.AppendLies
import Derived.Deep.Draws
import Derived.Laws.MakeOwn
import Derived.Lib.AppendStr
namespace Go.Proofs.YtnhaanjpcnnifaaDoor
open Go.RowKit

/-- The slice value v reads as the integers l, in world w. -/
def Rd (w : World) (k : IntKind) (v : Value) (l : List Int) : Prop :=
  ∃ A c, v = .slice A l.length c ∧ l.length ≤ c ∧ c ≤ maxLen ∧ (0 < l.length → ∃ b off, A = some ⟨b, off, none⟩ ∧ b < w.heap.size ∧ ∀ j z, l[j]? = some z → w.cell? ⟨b, off + j, none⟩ = some (.int k z))

/-- The slice value v is a row of the call's own, from block base on, and reads as l. -/
def Own (w : World) (base : Nat) (e : TypeId) (k : IntKind) (v : Value) (l : List Int) : Prop :=
  w.ownsRow base e 1 v l.length (l.map (Value.int k))

/-- A slice type and its integer elements, in the program's tables. -/
structure ElemI (P : Program) (t e : TypeId) (k : IntKind) (bytes : Nat) : Prop where
  sl : P.underlying t = some (.slice e)
  el : P.underlying e = some (.int k)
  info : ∃ i, P.info? e = some i ∧ i.zero = some (.int k 0) ∧ i.size = 1 ∧ i.bytes = bytes

theorem Below.drewN' {B : Nat} {a w : World} (h : Below B a w) (n : Nat) : Below B a (w.drewN n) := ⟨h.os, h.tape, h.output, h.size, h.block⟩
theorem Below.all {a b c : World} (h : Below a.heap.size a b) (k : Below b.heap.size b c) : Below a.heap.size a c := h.trans (k.mono h.size)

section
variable {w w' : World} {base : Nat} {e : TypeId} {k : IntKind} {v : Value} {l : List Int}
theorem Rd.below {B : Nat} (h : Rd w k v l) (hb : Below B w w') (hB : w.heap.size ≤ B) : Rd w' k v l := by
  obtain ⟨A, c, e1, hc, hm, hr⟩ := h
  refine ⟨A, c, e1, hc, hm, fun hn => ?_⟩
  obtain ⟨b, off, e2, hlt, hcell⟩ := hr hn
  exact ⟨b, off, e2, Nat.lt_of_lt_of_le hlt hb.size, fun j z hz => (hb.cell (p := ⟨b, off + j, none⟩) (Nat.lt_of_lt_of_le hlt hB)).trans (hcell j z hz)⟩
theorem Rd.below' (h : Rd w k v l) (hb : Below w.heap.size w w') : Rd w' k v l := h.below hb (Nat.le_refl _)
theorem Rd.len (h : Rd w k v l) : l.length ≤ maxLen := by obtain ⟨_, _, _, h1, h2, _⟩ := h; omega
theorem Own.rd (h : Own w base e k v l) : Rd w k v l := by
  obtain ⟨h1, h2⟩ := h
  rcases h2 with ⟨rfl, h0⟩ | ⟨g, cap, cur, rfl, hg, hh, hn, hm, hs, ht⟩
  · exact ⟨none, 0, by rw [h0], by omega, by unfold maxLen; omega, fun hn => by omega⟩
  · refine ⟨_, cap, rfl, hn, hm, fun _ => ⟨g, 0, rfl, ?_, fun j z hz => ?_⟩⟩
    · rcases Nat.lt_or_ge g w.heap.size with hlt | hge
      · exact hlt
      · rw [Array.getElem?_eq_none hge] at hh; cases hh
    · have hj : (l.map (Value.int k))[j]? = some (.int k z) := by simp [hz]
      have hlt : j < l.length := by
        rcases Nat.lt_or_ge j l.length with hlt | hge
        · exact hlt
        · rw [List.getElem?_eq_none hge] at hz; cases hz
      rw [← ht, List.getElem?_take_of_lt (by omega)] at hj
      simp only [World.cell?, Nat.zero_add, hh]
      simpa using hj
theorem Own.size (h : Own w base e k v l) : ∀ g, v.ownBlock = some g → base ≤ g ∧ g < w.heap.size := World.ownsRow.lt h
theorem Own.keep {row : Option Nat} (h : Own w base e k v l) (hg : w.grownBy w' row) (hne : v.ownBlock = none ∨ v.ownBlock ≠ row) : Own w' base e k v l := World.ownsRow.kept h hg hne
theorem Own.below {B : Nat} (h : Own w base e k v l) (hb : Below B w w') (hB : w.heap.size ≤ B) : Own w' base e k v l :=
  World.ownsRow.kept (row := none) h ⟨hb.os, hb.tape, hb.output, hb.size, fun i hi _ => hb.block i (by omega)⟩ (by
    cases hv : v.ownBlock with
    | none => exact .inl rfl
    | some g => exact .inr (by simp))
theorem Own.below' (h : Own w base e k v l) (hb : Below w.heap.size w w') : Own w' base e k v l := h.below hb (Nat.le_refl _)
theorem Own.low (h : Own w base e k v l) {b : Nat} (hb : b ≤ base) : Own w b e k v l := by
  obtain ⟨h1, h2⟩ := h
  refine ⟨h1, ?_⟩
  rcases h2 with h2 | ⟨g, cap, cur, hv, hg, r⟩
  · exact .inl h2
  · exact .inr ⟨g, cap, cur, hv, by omega, r⟩
theorem Own.drewN (h : Own w base e k v l) (n : Nat) : Own (w.drewN n) base e k v l := h
theorem Own.alloc (h : Own w base e k v l) (o : Obj) : Own (w.alloc o) base e k v l := World.ownsRow.alloc h o
theorem Rd.alloc (h : Rd w k v l) (o : Obj) : Rd (w.alloc o) k v l := h.below' ((Below.refl _ _).alloc (Nat.le_refl _) o)
theorem Rd.drewN (h : Rd w k v l) (n : Nat) : Rd (w.drewN n) k v l := h
theorem Rd.nil : Rd w k (.slice none 0 0) [] := ⟨none, 0, rfl, Nat.le_refl _, Nat.zero_le _, fun h => absurd h (by simp)⟩
theorem Own.nil : Own w base e k (.slice none 0 0) [] := ⟨rfl, .inl ⟨rfl, rfl⟩⟩

/-- One element in a block of its own: what 'append(s, x)' is handed. -/
theorem rd_one (w : World) (t : TypeId) (z : Int) : Rd (w.alloc (.cells #[.int k z] t)) k (.slice (some ⟨w.heap.size, 0, none⟩) 1 1) [z] := by
  refine ⟨_, 1, rfl, Nat.le_refl _, by unfold maxLen; omega, fun _ => ⟨w.heap.size, 0, rfl, by simp, fun j y hy => ?_⟩⟩
  cases j with
  | zero => simp only [List.getElem?_cons_zero, Option.some.injEq] at hy; subst hy; simp [go_sem]
  | succ j => simp at hy
/-- A new block of integers, whole. -/
theorem rd_block (w : World) (t : TypeId) (l : List Int) (hl : l.length ≤ maxLen) : Rd (w.alloc (.cells (l.map (Value.int k)).toArray t)) k (.slice (some ⟨w.heap.size, 0, none⟩) l.length l.length) l := by
  refine ⟨_, _, rfl, Nat.le_refl _, hl, fun _ => ⟨w.heap.size, 0, rfl, by simp, fun j y hy => ?_⟩⟩
  rw [World.cell?_alloc_at _ _ _ _ rfl]
  simp [hy]
end

section
variable {P : Program} (w : World)

/-- 'append' onto a row of the call's own, the source nil, empty or not. -/
theorem run_append_rd (base : Nat) (t ty e : TypeId) (k : IntKind) (bytes : Nat) (E : ElemI P t e k bytes) (v : Value) (l : List Int) (hown : Own w base e k v l) (u : Value) (m : List Int) (hr : Rd w k u m)
    (hbytes : (l.length + m.length) * bytes ≤ 140737488355328) (hlen : l.length + m.length ≤ maxLen) (hbase : base ≤ w.heap.size) :
    ∃ v' w', (Builtin.append_ #[t, t] ty #[v, u]).run P w = .ok v' w' ∧ Own w' base e k v' (l ++ m) ∧ w.grownBy w' v.ownBlock ∧ (v'.ownBlock = v.ownBlock ∨ v'.ownBlock = some w.heap.size) := by
  obtain ⟨i, hi, hz, hs1, hby⟩ := E.info
  obtain ⟨A, c, rfl, hmc, _, hc⟩ := hr
  have hone : ∀ x ∈ m.map (Value.int k), x.oneCell' = true := by
    intro x hx
    simp only [List.mem_map] at hx
    obtain ⟨z, _, rfl⟩ := hx
    rfl
  have fin : ∀ ad : Addr, A = some ad → (∀ j x, (m.map (Value.int k))[j]? = some x → w.cell? (ad.add j) = some x) →
      ∃ v' w', (Builtin.append_ #[t, t] ty #[v, .slice A m.length c]).run P w = .ok v' w' ∧ Own w' base e k v' (l ++ m) ∧ w.grownBy w' v.ownBlock ∧ (v'.ownBlock = v.ownBlock ∨ v'.ownBlock = some w.heap.size) := by
    rintro ad rfl hnews
    obtain ⟨v', w', hrun, h2, h3, _, h5⟩ := run_append_own_at (P := P) w base t ty e i (.int k 0) 1 bytes E.sl hi hz hs1 hby rfl (by decide) v l.length _ hown ad m.length c _ (by simp) hnews hone hlen hbytes hbase
    refine ⟨v', w', hrun, ?_, h3, h5⟩
    unfold Own
    rw [List.length_append, List.map_append]
    exact h2
  rcases Nat.eq_zero_or_pos m.length with h0 | h0
  · obtain rfl : m = [] := List.eq_nil_of_length_eq_zero h0
    rcases A with _ | ad
    · refine ⟨v, w, ?_, by simpa using hown, World.grownBy.refl w _, .inl rfl⟩
      rcases hown.2 with ⟨rfl, _⟩ | ⟨g, cap, cur, rfl, _, _, hnc, _⟩
      · simp [Builtin.append_, run_underlying E.sl, sizeOf, typeInfo, hi, Builtin.lenOf, Builtin.firstCells]
      · simp [Builtin.append_, run_underlying E.sl, sizeOf, typeInfo, hi, Builtin.lenOf, Builtin.firstCells, hnc, storeCells]
    · exact fin ad rfl (fun j x hx => by simp at hx)
  · obtain ⟨b, off, rfl, _, hcell⟩ := hc h0
    refine fin _ rfl (fun j x hx => ?_)
    rw [List.getElem?_map] at hx
    obtain ⟨z, hz1, rfl⟩ := Option.map_eq_some_iff.1 hx
    have := hcell j z hz1
    have ea : (⟨b, off, none⟩ : Addr).add j = ⟨b, off + j, none⟩ := by
      unfold Addr.add
      split
      · rename_i h; rw [h]; rfl
      · rfl
    rw [ea]; exact this

theorem wpList_append_rd {ops : Array Oper} {rest : List Oper} {o : Oper} {a : Act} {Q : Exit → Act → World → Prop} (hgd : o.guard = none) (s x : Operand) (t : TypeId)
    (ho : o.op = .call { callee := .builtin .append, args := #[s, x], argTypes := #[t, t] })
    (base : Nat) (e : TypeId) (k : IntKind) (bytes : Nat) (E : ElemI P t e k bytes) (v : Value) (l : List Int) (hs : a.eval s = v) (hown : Own w base e k v l) (u : Value) (m : List Int) (hx : a.eval x = u) (hr : Rd w k u m)
    (hbytes : (l.length + m.length) * bytes ≤ 140737488355328) (hlen : l.length + m.length ≤ maxLen) (hbase : base ≤ w.heap.size)
    (h : ∀ v' w', Own w' base e k v' (l ++ m) → w.grownBy w' v.ownBlock → Below base w w' → (v'.ownBlock = v.ownBlock ∨ v'.ownBlock = some w.heap.size) → wpList P ops Q rest (a.put o.dst v') w') : wpList P ops Q (o :: rest) a w := by
  refine wpList_plain hgd fun _ hK => ?_
  obtain ⟨v', w', hrun, h2, h3, h4⟩ := run_append_rd (P := P) w base t o.type e k bytes E v l hown u m hr hbytes hlen hbase
  unfold Oper.wp execOp
  simp only [ho, resolve, invoke, builtin, Sem.run_bind, Sem.run_pure, Result.andThen_ok, List.map_toArray, List.map_cons, List.map_nil, hs, hx, hrun]
  exact hK _ _ (h v' w' h2 h3 ((Below.refl base w).grown h3 hbase (fun k hk => (hown.size k hk).1)) h4)

/-- A string's bytes, as numbers. -/
def strInts (s : ByteArray) : List Int := s.data.toList.map fun c => (c.toNat : Int)
theorem strInts_len (s : ByteArray) : (strInts s).length = s.size := by unfold strInts; simp
theorem strInts_cells (s : ByteArray) : (strInts s).map (Value.int .u8) = Lib.strCells s := by
  unfold strInts; rw [List.map_map]; rfl
/-- 'append(b, s...)' of a string onto a row of the call's own. -/
theorem wpList_append_own_str {ops : Array Oper} {rest : List Oper} {o : Oper} {a : Act} {Q : Exit → Act → World → Prop} (hgd : o.guard = none) (sl x : Operand) (t u : TypeId)
    (ho : o.op = .call { callee := .builtin .append, args := #[sl, x], argTypes := #[t, u] })
    (base : Nat) (e : TypeId) (E : ElemI P t e .u8 1) (hu : P.underlying u = some .string) (v : Value) (l : List Int) (hs : a.eval sl = v) (hown : Own w base e .u8 v l) (s : ByteArray) (hx : a.eval x = .string s)
    (hlen : l.length + s.size ≤ 100000000000000) (hbase : base ≤ w.heap.size)
    (h : ∀ v' w', Own w' base e .u8 v' (l ++ strInts s) → Below base w w' → wpList P ops Q rest (a.put o.dst v') w') : wpList P ops Q (o :: rest) a w := by
  obtain ⟨i, hi, hz, hs1, hby⟩ := E.info
  refine Lib.wpList_append_own_string w hgd sl x t u ho base e i E.sl hu hi hz hs1 hby v l.length _ hs hown s hx (by unfold maxLen; omega) (by omega) hbase ?_
  intro v' w' h2 h3 _
  refine h v' w' ?_ ((Below.refl base w).grown h3 hbase (fun k hk => (hown.size k hk).1))
  unfold Own
  rw [List.length_append, List.map_append, strInts_len, strInts_cells]
  exact h2

/-- 'make([]T, 0, c)' of a computed capacity. -/
theorem run_make0 (t e : TypeId) (k : IntKind) (bytes : Nat) (E : ElemI P t e k bytes) (c : Int) (h0 : 0 ≤ c) (hb : bytes * c ≤ 281474976710656) (hc : c ≤ 1000000000000) :
    (Instr.makeSlice t (.int .i64 0) (.int .i64 c)).run P w = .ok (.slice (some ⟨w.heap.size, 0, none⟩) 0 c.toNat) (w.alloc (.cells (madeCells #[.int k 0] c.toNat) e)) := by
  obtain ⟨i, hi, hz, hs1, hby⟩ := E.info
  have h := run_make (P := P) (w := w) t e i (.int k 0) E.sl hi hz .i64 .i64 0 c (Int.le_refl _) h0 (by rw [hby]; exact hb) (by omega)
  rw [hs1, Nat.mul_one] at h
  exact h
theorem own_made (base : Nat) (e : TypeId) (k : IntKind) (c : Nat) (hc : c ≤ maxLen) (hb : base ≤ w.heap.size) : Own (w.alloc (.cells (madeCells #[.int k 0] c) e)) base e k (.slice (some ⟨w.heap.size, 0, none⟩) 0 c) [] := by
  refine ⟨rfl, .inr ⟨w.heap.size, c, _, rfl, hb, heap_alloc_new w _, Nat.zero_le _, hc, ?_, by simp⟩⟩
  simp [madeCells]
end
end Go.Proofs.YtnhaanjpcnnifaaDoor

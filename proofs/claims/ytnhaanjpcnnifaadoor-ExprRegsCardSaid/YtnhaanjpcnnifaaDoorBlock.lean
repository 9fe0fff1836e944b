/-
  A block that is known whole (a struct behind a pointer), and a slice that does not lie in it. For every seat; no program is named here.
-/
import Derived.Test.YtnhaanjpcnnifaaDoorSlice
namespace Go.Proofs.YtnhaanjpcnnifaaDoor
open Go.RowKit

/-- Block g holds just the cells cs. -/
def Whole (w : World) (g : Nat) (t : TypeId) (cs : Array Value) : Prop := w.heap[g]? = some (.cells cs t (0, 0))
/-- The slice value does not lie in block g. -/
def Apart (v : Value) (g : Nat) : Prop := ∀ a n c, v = .slice (some a) n c → a.block ≠ g

/-- The slice value lies from block B.1 on, below block B.2. -/
def InB (v : Value) (B : Nat × Nat) : Prop := ∀ a n c, v = .slice (some a) n c → ∃ b off, a = ⟨b, off, none⟩ ∧ b < B.2 ∧ B.1 ≤ b

section
variable {w w' : World} {g : Nat} {t : TypeId} {cs : Array Value} {k : IntKind} {v : Value} {l : List Int}
theorem Whole.lt (h : Whole w g t cs) : g < w.heap.size := by
  rcases Nat.lt_or_ge g w.heap.size with hlt | hge
  · exact hlt
  · unfold Whole at h; rw [Array.getElem?_eq_none hge] at h; cases h
theorem Whole.cell (h : Whole w g t cs) (i : Nat) : w.cell? ⟨g, i, none⟩ = cs[i]? := by
  unfold Whole at h; simp [World.cell?, h]
theorem Whole.free (h : Whole w g t cs) (i : Nat) : w.frozen? ⟨g, i, none⟩ = false := by
  unfold Whole at h; simp [World.frozen?, h]
theorem Whole.new (w : World) (t : TypeId) (cs : Array Value) : Whole (w.alloc (.cells cs t)) w.heap.size t cs := heap_alloc_new w _
theorem Whole.set (h : Whole w g t cs) (i : Nat) (u : Value) : Whole (w.setCell ⟨g, i, none⟩ u) g t (cs.setIfInBounds i u) := by
  unfold Whole at h ⊢
  simp [World.setCell, Array.getElem?_modify, h]
theorem Whole.far (h : Whole w g t cs) {p : Addr} (hp : g ≠ p.block) (u : Value) : Whole (w.setCell p u) g t cs := (Below.heap_setCell w p u g hp).trans h
theorem Whole.alloc (h : Whole w g t cs) (o : Obj) : Whole (w.alloc o) g t cs := (Below.heap_alloc w o g h.lt).trans h
theorem Whole.drewN (h : Whole w g t cs) (n : Nat) : Whole (w.drewN n) g t cs := h
theorem Whole.below {B : Nat} (h : Whole w g t cs) (hb : Below B w w') (hg : g < B) : Whole w' g t cs := (hb.block g hg).trans h
theorem Whole.below' (h : Whole w g t cs) (hb : Below w.heap.size w w') : Whole w' g t cs := h.below hb h.lt
theorem Whole.grown {row : Option Nat} (h : Whole w g t cs) (hb : w.grownBy w' row) (hg : some g ≠ row) : Whole w' g t cs := (hb.block g h.lt hg).trans h

/-- Only block g, and new blocks, have turned. -/
theorem only_set {a : World} (h : a.grownBy w (some g)) (i : Nat) (u : Value) : a.grownBy (w.setCell ⟨g, i, none⟩ u) (some g) :=
  ⟨h.os, h.tape, h.output, by simpa [World.setCell] using h.size, fun j hj hne => (Below.heap_setCell w _ u j (fun e => hne (by rw [e]))).trans (h.block j hj hne)⟩
theorem only_below {a : World} (h : a.grownBy w (some g)) (hb : Below w.heap.size w w') : a.grownBy w' (some g) :=
  ⟨hb.os.trans h.os, hb.tape.trans h.tape, hb.output.trans h.output, Nat.le_trans h.size hb.size, fun j hj hne => (hb.block j (Nat.lt_of_lt_of_le hj h.size)).trans (h.block j hj hne)⟩
theorem only_low {a : World} (h : a.grownBy w (some g)) (hb : Below a.heap.size w w') : a.grownBy w' (some g) :=
  ⟨hb.os.trans h.os, hb.tape.trans h.tape, hb.output.trans h.output, Nat.le_trans h.size hb.size, fun j hj hne => (hb.block j hj).trans (h.block j hj hne)⟩
theorem only_refl (w : World) (g : Nat) : w.grownBy w (some g) := World.grownBy.refl w _
theorem only_trans {a b c : World} (h : a.grownBy b (some g)) (k : b.grownBy c (some g)) : a.grownBy c (some g) :=
  ⟨k.os.trans h.os, k.tape.trans h.tape, k.output.trans h.output, Nat.le_trans h.size k.size, fun j hj hne => (k.block j (Nat.lt_of_lt_of_le hj h.size) hne).trans (h.block j hj hne)⟩
/-- A block of the call's own: below its beginning nothing has turned. -/
theorem below_only {a : World} {B : Nat} (h : a.grownBy w (some g)) (hg : B ≤ g) (hB : B ≤ a.heap.size) : Below B a w :=
  ⟨h.os, h.tape, h.output, h.size, fun j hj => h.block j (by omega) (by simp; omega)⟩
theorem Rd.only (h : Rd w k v l) (ha : Apart v g) (hg : w.grownBy w' (some g)) : Rd w' k v l := by
  obtain ⟨A, c, rfl, hc, hm, hr⟩ := h
  refine ⟨A, c, rfl, hc, hm, fun hn => ?_⟩
  obtain ⟨b, off, rfl, hlt, hcell⟩ := hr hn
  have hne : b ≠ g := ha _ _ _ rfl
  refine ⟨b, off, rfl, Nat.lt_of_lt_of_le hlt hg.size, fun j z hz => ?_⟩
  exact (World.cell?_of_block (a := ⟨b, off + j, none⟩) (hg.block b hlt (fun e => hne (by injection e)))).trans (hcell j z hz)
theorem Apart.nil : Apart (.slice none 0 0) g := fun a n c h => by cases h
theorem Apart.of_own {base : Nat} {e : TypeId} (h : Own w base e k v l) (hg : g < base) : Apart v g := by
  rintro a n c rfl
  have := (h.size a.block rfl).1
  omega
theorem Apart.fresh {base : Nat} {e : TypeId} (h : Own w base e k v l) (hg : w.heap.size ≤ g) : Apart v g := by
  rintro a n c rfl
  have := (h.size a.block rfl).2
  omega
theorem InB.nil {B : Nat × Nat} : InB (.slice none 0 0) B := fun a n c h => by cases h
theorem InB.of_own {base : Nat} {B : Nat × Nat} {e : TypeId} (h : Own w base e k v l) (hB : w.heap.size ≤ B.2) (hlo : B.1 ≤ base) : InB v B := by
  rintro a n c rfl
  have hs := h.size a.block rfl
  rcases h.2 with ⟨e1, _⟩ | ⟨g', cap, cur, e1, _⟩
  · cases e1
  · injection e1 with e1 _ _
    injection e1 with e1
    subst e1
    exact ⟨g', 0, rfl, Nat.lt_of_lt_of_le hs.2 hB, Nat.le_trans hlo hs.1⟩
theorem InB.blk {B : Nat × Nat} {b off n c : Nat} (h : InB (.slice (some ⟨b, off, none⟩) n c) B) : b < B.2 ∧ B.1 ≤ b := by
  obtain ⟨b', off', e, h1⟩ := h _ _ _ rfl
  injection e with e _ _
  omega
theorem Rd.keep {B : Nat × Nat} {B' : Nat} (h : Rd w k v l) (hl : InB v B) (hB : B.2 ≤ B') (hb : Below B' w w') : Rd w' k v l := by
  obtain ⟨A, c, rfl, hc, hm, hr⟩ := h
  refine ⟨A, c, rfl, hc, hm, fun hn => ?_⟩
  obtain ⟨b, off, rfl, hlt, hcell⟩ := hr hn
  have hbB := hl.blk
  exact ⟨b, off, rfl, Nat.lt_of_lt_of_le hlt hb.size, fun j z hz => (hb.cell (p := ⟨b, off + j, none⟩) (show b < B' by omega)).trans (hcell j z hz)⟩
theorem InB.apart {B : Nat × Nat} {g' : Nat} (h : InB v B) (hg : g' < B.1 ∨ B.2 ≤ g') : Apart v g' := by
  rintro a n c e
  obtain ⟨b, off, rfl, h1, h2⟩ := h a n c e
  show b ≠ g'
  omega
/-- A cut at the front: 's[:m]'. -/
theorem Rd.front {A : Option Addr} {n c m : Nat} (h : Rd w k (.slice A n c) l) (hm : m ≤ l.length) : Rd w k (.slice A m c) (l.take m) := by
  obtain ⟨A', c', e1, hc, hx, hr⟩ := h
  injection e1 with e1 e2 e3
  subst e1 e2 e3
  have hlen : (l.take m).length = m := by rw [List.length_take, Nat.min_eq_left hm]
  refine ⟨A, c, by rw [hlen], by omega, hx, fun hn => ?_⟩
  obtain ⟨b, off, rfl, hlt, hcell⟩ := hr (by omega)
  refine ⟨b, off, rfl, hlt, fun j z hz => hcell j z ?_⟩
  rw [List.getElem?_take] at hz
  split at hz
  · exact hz
  · cases hz
/-- A cut at the back, 's[m:]'; at the end of the capacity the address stays. -/
theorem Rd.back {b off n c m : Nat} (h : Rd w k (.slice (some ⟨b, off, none⟩) n c) l) (hm : m ≤ l.length) (A : Option Addr) (hA : A = some ⟨b, off + m, none⟩ ∨ m = l.length) : Rd w k (.slice A (n - m) (c - m)) (l.drop m) := by
  obtain ⟨A', c', e1, hc, hx, hr⟩ := h
  injection e1 with e1 e2 e3
  subst e1 e2 e3
  have hlen : (l.drop m).length = l.length - m := List.length_drop
  refine ⟨A, c - m, by rw [hlen], by omega, by omega, fun hn => ?_⟩
  rcases hA with rfl | hA
  · obtain ⟨b', off', e, hlt, hcell⟩ := hr (by omega)
    injection e with e
    injection e with e1 e2
    subst e1 e2
    refine ⟨b, off + m, rfl, hlt, fun j z hz => ?_⟩
    rw [Nat.add_assoc]
    exact hcell (m + j) z (by rw [← hz, List.getElem?_drop])
  · omega
end
end Go.Proofs.YtnhaanjpcnnifaaDoor

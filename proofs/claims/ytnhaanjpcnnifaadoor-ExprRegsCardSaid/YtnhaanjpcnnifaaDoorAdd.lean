import Derived.Test.YtnhaanjpcnnifaaDoorLeaf
import Derived.Deep.QuietTactic
import Derived.BigQuiet
namespace Go.Proofs.YtnhaanjpcnnifaaDoor
open Go.RowKit

/-- The table is still there after a store into another block. -/
theorem Tab.setCell {w : World} (h : Tab w) {a : Addr} (ha : 4 < a.block) (v : Value) : Tab (w.setCell a v) := by
  obtain ⟨c0, c1, c2, c3, c4⟩ := h
  have k : ∀ o, (w.setCell a v).cell? ⟨4, o, none⟩ = w.cell? ⟨4, o, none⟩ := fun o =>
    (Below.setCell (Below.refl (4 + 1) w) (p := a) ha v).cell (p := ⟨4, o, none⟩) (Nat.lt_succ_self _)
  exact ⟨(k _).trans c0, (k _).trans c1, (k _).trans c2, (k _).trans c3, (k _).trans c4⟩
theorem Tab.pos {w : World} (h : Tab w) : 4 < w.heap.size := by
  rcases Nat.lt_or_ge 4 w.heap.size with h0 | h0
  · exact h0
  · have := h.c0
    simp [World.cell?, Array.getElem?_eq_none (show w.heap.size ≤ 4 by omega)] at this
theorem Tab.below {w w' : World} (h : Tab w) (hb : Below w.heap.size w w') : Tab w' := by
  obtain ⟨c0, c1, c2, c3, c4⟩ := h
  have hp := Tab.pos ⟨c0, c1, c2, c3, c4⟩
  have k : ∀ o, w'.cell? ⟨4, o, none⟩ = w.cell? ⟨4, o, none⟩ := fun o => hb.cell (p := ⟨4, o, none⟩) hp
  exact ⟨(k _).trans c0, (k _).trans c1, (k _).trans c2, (k _).trans c3, (k _).trans c4⟩

theorem ret_ib {k : IntKind} {a b : Int} {p q : Bool} (h : a = b) (g : p = q) : Ending.returned (.tuple #[.int k a, .bool p]) = .returned (.tuple #[.int k b, .bool q]) := by rw [h, g]
theorem boxes_below (a b : Value) (c : Array Value) (t1 t2 t3 : TypeId) (w : World) (n : Nat) : Below w.heap.size w ((((w.alloc (.cells #[a] t1)).alloc (.cells #[b] t2)).alloc (.cells c t3)).drewN n) :=
  have h := (((Below.refl w.heap.size w).alloc (Nat.le_refl _) (.cells #[a] t1)).alloc (by simp) (.cells #[b] t2)).alloc (by simp; omega) (.cells c t3)
  ⟨h.os, h.tape, h.output, h.size, h.block⟩
theorem boxes_below0 (a b : Value) (c : Array Value) (t1 t2 t3 : TypeId) (w : World) : Below w.heap.size w (((w.alloc (.cells #[a] t1)).alloc (.cells #[b] t2)).alloc (.cells c t3)) :=
  boxes_below a b c t1 t2 t3 w 0

/-- What Add says besides: true if the wrapped sum is another number than the 64-bit sum. -/
theorem add_case1 {t a b : Int} (hs : ¬ wrapI t (wrap64 (wrapI t a + wrapI t b)) = wrap64 (wrapI t a + wrapI t b)) : true = addO t a b := by
  have h := add_over t _ _ (wrap_in t a) (wrap_in t b)
  exact (outI_true (by
    rcases Classical.em (minI t ≤ wrapI t a + wrapI t b ∧ wrapI t a + wrapI t b ≤ maxI t) with g | g
    · exact absurd (h.2 g).1 hs
    · omega)).symm
theorem add_case2 {t a b : Int} (hs : wrapI t (wrap64 (wrapI t a + wrapI t b)) = wrap64 (wrapI t a + wrapI t b)) (hb : Bool)
    (hd : hb = false ↔ ((wrapI t a < 0 ↔ wrapI t b < 0) → (wrap64 (wrapI t a + wrapI t b) < 0 ↔ wrapI t a < 0))) : hb = addO t a b := by
  have h := add_over t _ _ (wrap_in t a) (wrap_in t b)
  cases hb
  · exact (outI_false (h.1 ⟨hs, hd.1 rfl⟩)).symm
  · refine (outI_true ?_).symm
    rcases Classical.em (minI t ≤ wrapI t a + wrapI t b ∧ wrapI t a + wrapI t b ≤ maxI t) with g | g
    · exact absurd (hd.2 (h.2 g).2) (by simp)
    · omega

end Go.Proofs.YtnhaanjpcnnifaaDoor

/-
  Layer 23 (expr): slices.Sort on a row of integers of the call's own.
-/
import Derived.Sort.OwnSortedInts
import Derived.Shelf.Slices.In.SortNone
import Derived.Test.YtnhaanjpcnnifaaDoorExT
import Derived.Test.YtnhaanjpcnnifaaDoorExCp
namespace Go.Proofs.YtnhaanjpcnnifaaDoor
open Go.RowKit Go.Deep

theorem srtI_len (l : List Int) : (srtI l).length = l.length := (List.mergeSort_perm l _).length_eq
theorem sort_own (w : World) (base : Nat) (v : Value) (l : List Int) (h : Own w base 3 .i64 v l) (hl : l.length ≤ 1000000) :
    Calls Tryd.prog 32 #[v] w fun e w' => e = .returned (.tuple #[]) ∧ Own w' base 3 .i64 v (srtI l) ∧ Frm w w' v.ownBlock.toList := by
  have h0 := h
  obtain ⟨h1, h2⟩ := h
  rcases h2 with ⟨rfl, h2⟩ | ⟨g, cap, cur, rfl, hg, hb, hc, hx, hs, ht⟩
  · obtain rfl : l = [] := List.eq_nil_of_length_eq_zero h2
    refine (Any.slices_Sort_int_none rhoS_189 none 0 w).mono fun e w' hh => ?_
    obtain ⟨e1, rfl⟩ := hh
    exact ⟨e1, by rw [show srtI [] = [] from List.mergeSort_nil]; exact h0, Frm.refl _ _⟩
  · have hlt : g < w.heap.size := (Array.getElem?_eq_some_iff.1 hb).1
    rw [Nat.mul_one] at ht
    have hH := holds_of_blockI hb ht
    refine (Any.slices_Sort_int rhoS_189 g 0 cap l w hH hlt (by omega)).mono fun e w' ⟨e1, n, os, e2⟩ => ⟨e1, ?_, ?_⟩
    · rw [e2]
      have hq := ownsRow_sortedI (n := n) (os := os) (ss := l) (ts := srtI l) (srtI_len l) hg hb hc hx hs
      refine ⟨by simp, ?_⟩
      have := hq.2
      rw [srtI_len]
      exact this
    · rw [e2]
      exact Frm.grown (grownBy_sortedI _)
end Go.Proofs.YtnhaanjpcnnifaaDoor

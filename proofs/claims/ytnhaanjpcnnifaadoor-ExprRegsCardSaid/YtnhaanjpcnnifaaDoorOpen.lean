/-
  A slice of integers that came in, opened: what it reads as. For every seat; no program is named here.
-/
import Derived.Test.YtnhaanjpcnnifaaDoorKit
import Derived.Test.YtnhaanjpcnnifaaDoorSlice
namespace Go.Proofs.YtnhaanjpcnnifaaDoor
open Go.RowKit Go.ChangeShapes Go.WideShapes

theorem lt_of_cell {w : World} {a : Addr} {v : Value} (h : w.cell? a = some v) : a.block < w.heap.size := by
  rcases Nat.lt_or_ge a.block w.heap.size with hlt | hge
  · exact hlt
  · simp [World.cell?, Array.getElem?_eq_none hge] at h

theorem open_rd {H : Type} {enc : TypeId × Value → H} {P : Program} {W : World} {b0 : Nat} {r : Reach} {t e : TypeId} {k : IntKind} {v : Value} {d : DataW H} {ps : List MemPlace}
    (ht : P.underlying t = some (.slice e)) (he : P.underlying e = some (.int k)) (hc : P.cellsOf e = 1) (hval : Value.okWide P W r b0 t v) (hd : DataW.Trod enc P W 0 (fun _ => true) true t v d ps) :
    ∃ l : List Int, Rd W k v l ∧ ∀ z ∈ l, (Lit.int k z).wf = true := by
  obtain ⟨a0, len, cap, rfl⟩ := okWide_slice ht hval
  obtain ⟨fuel, hf⟩ := hd
  rcases open_ints ht he hc hf with ⟨hcs, _⟩ | ⟨a, len', cap', zs, hcs, _, hl, hm, hz, _, hcell, hwf⟩
  · have e1 : a0 = none ∧ len = 0 ∧ cap = 0 := by simpa [Value.cells] using hcs
    obtain ⟨rfl, rfl, rfl⟩ := e1
    exact ⟨[], Rd.nil, fun z hz => by cases hz⟩
  · have e1 : a0 = some a ∧ len = len' ∧ cap = cap' := by simpa [Value.cells] using hcs
    obtain ⟨rfl, rfl, rfl⟩ := e1
    have hzl : len ≤ zs.length := by rw [hz]; split <;> omega
    have hlen : (zs.take len).length = len := by rw [List.length_take, Nat.min_eq_left hzl]
    refine ⟨zs.take len, ⟨some a, cap, by rw [hlen], by omega, hm, fun hn => ?_⟩, fun z hz' => hwf z (List.mem_of_mem_take hz')⟩
    have h0 : 0 < zs.length := by omega
    obtain ⟨b, off, rfl, hc2⟩ := ints_at hcell h0
    refine ⟨b, off, rfl, lt_of_cell (hc2 0 h0), fun j z hj => ?_⟩
    have hjl : j < zs.length := by
      rcases Nat.lt_or_ge j (zs.take len).length with g | g
      · omega
      · rw [List.getElem?_eq_none g] at hj; cases hj
    rw [hc2 j hjl]
    rw [List.getElem?_take] at hj
    split at hj
    · simp [List.getD, hj]
    · cases hj
end Go.Proofs.YtnhaanjpcnnifaaDoor

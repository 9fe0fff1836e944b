/-
  Opening a graph that is handed in by value: neither its list of lists nor any list of it takes more bytes than any argument may.
-/
import Derived.Test.YtmopnceglnoncaaOpenG
namespace Go.Proofs.Ytmopnceglnoncaa
open Go.RowKit Go.ChangeShapes Go.WideShapes

section
variable {P : Program}
theorem opensW_len {t e : TypeId} (ht : P.underlying t = some (.slice e)) {H : Type} {enc : TypeId × Value → H} {W : World} {held : Bool} {fuel : Nat} {cs : List Value} {x : DataW H × List MemPlace} (h : DataW.trod enc P W 0 (fun _ => true) held fuel t cs = some x) :
    ∃ A n c, cs = [Value.slice A n c] ∧ (0 < n → ∃ k ∈ x.1.weights P t, n * P.bytesOf e ≤ k) := by
  rcases Deep.open_slice ht h with ⟨e1, _⟩ | ⟨a, len, cap, m, n, D, Pl, e1, _, hl, _, hk, e2, _⟩
  · exact ⟨none, 0, 0, e1, fun h => absurd h (Nat.lt_irrefl _)⟩
  · refine ⟨some a, len, cap, e1, fun _ => ⟨((List.range len).map D).length * P.bytesOf e + (((List.range (m - len)).map fun j => D (len + j))).length * P.bytesOf e, ?_, ?_⟩⟩
    · rw [e2]
      simp only [DataW.weights, ht, List.mem_cons]
      exact .inl (by rw [Nat.add_mul])
    · rw [List.length_map, List.length_range]
      exact Nat.le_add_right _ _
theorem open_graph2 {tG tS tI e : TypeId} {f0 : Field} (hG : P.underlying tG = some (.struct #[f0])) (hf : f0.type = tS ∧ f0.offset = 0) (hS : P.underlying tS = some (.slice tI)) (hI : P.underlying tI = some (.slice e)) (he : P.underlying e = some (.int .i64)) (cG : P.cellsOf tG = 1) (cS : P.cellsOf tS = 1) (cI : P.cellsOf tI = 1) (ce : P.cellsOf e = 1)
    {H : Type} {enc : TypeId × Value → H} {W : World} {r : Reach} {b0 : Nat} {v : Value} {d : DataW H} {ps : List MemPlace} (hval : Value.okWide P W r b0 tG v) (hd : DataW.Trod enc P W 0 (fun _ => true) true tG v d ps) :
    ∃ A c g, v = .agg #[.slice A g.length c] ∧ RdL W A c g ∧ (∀ l ∈ g, 0 < l.length → ∃ n ∈ d.weights P tG, l.length * P.bytesOf e ≤ n) ∧ (0 < g.length → ∃ n ∈ d.weights P tG, g.length * P.bytesOf tI ≤ n) := by
  obtain ⟨A, c, g, rfl, hr, hw⟩ := open_graph hG hf hS hI he cG cS cI ce hval hd
  refine ⟨A, c, g, rfl, hr, hw, fun h0 => ?_⟩
  obtain ⟨cs, e0, hcs⟩ := okWide_struct hG hval
  obtain ⟨fuel, hfu⟩ := hd
  have hf' : DataW.trod enc P W 0 (fun _ => true) true fuel tG cs.toList = some (d, ps) := by
    injection e0 with e0; rw [← e0]; exact hfu
  obtain ⟨xs, n, _, e1, hl, hlen, hfs⟩ := DataW.trod_struct hG hf'
  obtain ⟨y0, rfl⟩ : ∃ y0, xs = [y0] := by
    match xs, hlen with
    | [y0], _ => exact ⟨y0, rfl⟩
  have ht := hfs 0 f0 rfl
  rw [cG] at hcs
  simp only [List.getElem?_cons_zero] at ht
  rw [hf.1, hf.2, cS, List.drop_zero, List.take_of_length_le (by rw [Array.length_toList]; omega)] at ht
  obtain ⟨A', n', c', e3, h4⟩ := opensW_len hS ht
  injection e0 with e0
  rw [← e0] at e3
  injection e3 with e3 _
  injection e3 with e4 e5 e6
  obtain ⟨k, hk, hle⟩ := h4 (by omega)
  refine ⟨k, ?_, by rw [e5]; exact hle⟩
  injection e1 with e1 _
  rw [e1]
  simp only [DataW.weights, hG, List.map_cons, List.map_nil, DataW.weightsEach, List.append_nil, hf.1]
  exact hk
end
end Go.Proofs.Ytmopnceglnoncaa

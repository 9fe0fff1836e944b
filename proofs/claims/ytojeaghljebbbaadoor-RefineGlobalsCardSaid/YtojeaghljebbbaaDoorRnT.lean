/-
  Layer 19 (refine): an outcome as an argument, with the bytes of its lists.
-/
import Derived.Test.YtojeaghljebbbaaDoorRnO
namespace Go.Proofs.YtojeaghljebbbaaDoor
open Go.RowKit Go.ChangeShapes Go.WideShapes

theorem slice_bytes {P : Program} {t e : TypeId} {b : Nat} (ht : P.underlying t = some (.slice e)) (hb : P.bytesOf e = b) {H : Type} {enc : TypeId × Value → H} {W : World} {held : Bool} {fuel : Nat} {cs : List Value} {x : DataW H × List MemPlace}
    (h : DataW.trod enc P W 0 (fun _ => true) held fuel t cs = some x) (hw : ∀ n ∈ x.1.weights P t, n ≤ reachBytes) {A : Option Addr} {n c : Nat} (hcs : cs = [.slice A n c]) : n * b ≤ 140737488355328 := by
  have h3 : reachBytes ≤ 140737488355328 := by decide
  rcases Deep.open_slice ht h with ⟨e1, _⟩ | ⟨a, len, cap, k, m, D, Pl, e1, _, hl, hmx, hk, rfl, hx⟩
  · rw [hcs] at e1
    simp only [List.cons.injEq, and_true, Value.slice.injEq] at e1
    rw [e1.2.1]
    omega
  · rw [hcs] at e1
    simp only [List.cons.injEq, and_true, Value.slice.injEq] at e1
    have h1 := hw _ (show (((List.range len).map D).length + ((List.range (k - len)).map fun j => D (len + j)).length) * P.bytesOf e ∈ _ by simp only [DataW.weights, ht]; exact List.mem_cons_self)
    rw [List.length_map, List.length_range, Nat.add_mul, hb] at h1
    rw [e1.2.1]
    omega
theorem opens_LDb : OpensW Tryd.prog 28 (fun W cs => ∃ d : LD, cs = d.cl ∧ (d.ok W ∧ d.vs.length * 80 ≤ 140737488355328)) := by
  intro H enc W held fuel cs x h hw
  obtain ⟨d, h1, h2, _⟩ := opens_LD H enc W held fuel cs x h hw
  exact ⟨d, h1, h2, slice_bytes Tryd.underlying28 (by kernel_rfl) h hw h1⟩
theorem opens_listsB : OpensW Tryd.prog 29 (fun W cs => ∃ v, ∃ l : List LD, cs = [v] ∧ RdN W 1 v (l.map LD.cl) ∧ l.length * 24 ≤ 140737488355328 ∧ ∀ d ∈ l, d.ok W ∧ d.vs.length * 80 ≤ 140737488355328) := by
  intro H enc W held fuel cs x h hw
  obtain ⟨v, rows, h1, h2, _, h4⟩ := opensW_slice (m := 1) Tryd.underlying29 (by kernel_rfl) (by decide) (by kernel_rfl) opens_LDb H enc W held fuel cs x h hw
  obtain ⟨l, rfl, hl⟩ := map_of_each (f := LD.cl) (p := fun d => d.ok W ∧ d.vs.length * 80 ≤ 140737488355328) rows h4
  obtain ⟨A, c, hv⟩ := h2.form
  rw [List.length_map] at hv
  exact ⟨v, l, h1, h2, slice_bytes Tryd.underlying29 (by kernel_rfl) h hw (by rw [h1, hv]), hl⟩
structure OD.bytes (d : OD) : Prop where
  cls : d.cls.length * 24 ≤ 140737488355328
  each : ∀ l ∈ d.cls, l.vs.length * 80 ≤ 140737488355328
set_option maxRecDepth 100000 in
theorem opens_Ob : OpensW Tryd.prog 31 (fun W cs => ∃ d : OD, cs = d.cl ∧ d.ok W ∧ d.bytes) := by
  intro H enc W held fuel cs x h hw
  obtain ⟨xs, n, _, rfl, hl, hlen, hf⟩ := DataW.trod_struct Tryd.underlying31 h
  rw [show Tryd.prog.cellsOf 31 = 19 by kernel_rfl] at hl
  match xs, hlen with
  | [y0, y1, y2, y3, y4, y5], _ =>
    have e0 := trod_field 0 (show Tryd.prog.cellsOf 3 = 1 by kernel_rfl) (hf 0 _ rfl)
    have e1 := trod_field 1 (show Tryd.prog.cellsOf 3 = 1 by kernel_rfl) (hf 1 _ rfl)
    have e2 := trod_field 2 (show Tryd.prog.cellsOf 27 = 14 by kernel_rfl) (hf 2 _ rfl)
    have e3 := trod_field 16 (show Tryd.prog.cellsOf 28 = 1 by kernel_rfl) (hf 3 _ rfl)
    have w3 := fun q hq => hw q (weights_field Tryd.underlying31 (i := 3) rfl rfl q hq)
    have e4 := trod_field 17 (show Tryd.prog.cellsOf 29 = 1 by kernel_rfl) (hf 4 _ rfl)
    have w4 := fun q hq => hw q (weights_field Tryd.underlying31 (i := 4) rfl rfl q hq)
    have e5 := trod_field 18 (show Tryd.prog.cellsOf 3 = 1 by kernel_rfl) (hf 5 _ rfl)
    match cs, hl with
    | [c0, c1, c2, c3, c4, c5, c6, c7, c8, c9, c10, c11, c12, c13, c14, c15, c16, c17, c18], _ =>
      obtain ⟨z0, h0, _, _⟩ := DataW.trod_int Tryd.underlying3 e0
      obtain ⟨z1, h1, _, _⟩ := DataW.trod_int Tryd.underlying3 e1
      obtain ⟨d2, h2⟩ := opens_V H enc W held n _ _ e2
      obtain ⟨v3, l3, h3, r3, _⟩ := opens_vals H enc W held n _ _ e3 w3
      obtain ⟨v4, l4, h4, r4, s4, k4⟩ := opens_listsB H enc W held n _ _ e4 w4
      obtain ⟨z5, h5, _, _⟩ := DataW.trod_int Tryd.underlying3 e5
      simp only [List.drop, List.take, List.cons.injEq, and_true] at h0 h1 h2 h3 h4 h5
      obtain ⟨A3, k3, q3⟩ := r3.form
      obtain ⟨A4, k4', q4⟩ := r4.form
      subst q3 q4
      rw [List.length_map] at r3 h3 r4 h4
      subst h0 h1 h3 h4 h5
      refine ⟨⟨z0, z1, d2, A3, k3, l3, A4, k4', l4, z5⟩, ?_, ⟨r3, r4, fun d hd => (k4 d hd).1⟩, ⟨s4, fun d hd => (k4 d hd).2⟩⟩
      show _ = [Value.int .i64 z0, Value.int .i64 z1] ++ d2.cl ++ [Value.slice A3 l3.length k3, Value.slice A4 l4.length k4', Value.int .i64 z5]
      rw [← h2]
      rfl
section
variable {H : Type} {enc : TypeId × Value → H} {W : World} {r : Reach} {b0 : Nat} {v : Value} {x : DataW H} {ps : List MemPlace}
theorem open_Ob (hval : Value.okWide Tryd.prog W r b0 31 v) (hd : DataW.Trod enc Tryd.prog W 0 (fun _ => true) true 31 v x ps) (hw : ∀ n ∈ x.weights Tryd.prog 31, n ≤ reachBytes) :
    ∃ d : OD, v = .agg d.cl.toArray ∧ d.ok W ∧ d.bytes := by
  obtain ⟨cs, rfl, _⟩ := okWide_struct Tryd.underlying31 hval
  obtain ⟨fuel, hfu⟩ := hd
  have hf' : DataW.trod enc Tryd.prog W 0 (fun _ => true) true fuel 31 cs.toList = some (x, ps) := hfu
  obtain ⟨d, h1, h2⟩ := opens_Ob H enc W true fuel _ _ hf' hw
  exact ⟨d, by congr 1; rw [← h1], h2⟩
end
end Go.Proofs.YtojeaghljebbbaaDoor

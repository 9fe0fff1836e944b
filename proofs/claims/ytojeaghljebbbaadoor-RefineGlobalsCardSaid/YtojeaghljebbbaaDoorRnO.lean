/-
  Layer 19 (refine): arguments opened: lists of values, outcomes.
-/
import Derived.Test.YtojeaghljebbbaaDoorRnE
import Derived.Test.YtojeaghljebbbaaDoorDeepM
import Derived.Test.YtojeaghljebbbaaDoorOpenV
namespace Go.Proofs.YtojeaghljebbbaaDoor
open Go.RowKit Go.ChangeShapes Go.WideShapes

section
variable {H : Type} {enc : TypeId × Value → H} {W : World}
set_option maxRecDepth 100000 in
theorem open_laneH {held : Bool} {fuel : Nat} {cs : List Value} {x : DataW H × List MemPlace} (h : DataW.trod enc Tryd.prog W 0 (fun _ => true) held fuel 24 cs = some x) :
    ∃ a : LaneD, cs = [.int .i64 a.n, .bool a.p, .bool a.u] := by
  obtain ⟨y0, y1, y2, n, _, hl, e0, e1, e2⟩ := Deep.trod_struct3 Tryd.underlying24 h
  rw [show Tryd.prog.cellsOf 24 = 3 by kernel_rfl] at hl
  match cs, hl with
  | [a, b, c], _ =>
    rw [show Tryd.prog.cellsOf 2 = 1 by kernel_rfl] at e0
    simp only [show Tryd.prog.cellsOf 4 = 1 by kernel_rfl] at e1 e2
    obtain ⟨z, h1, _, _⟩ := DataW.trod_int Tryd.underlying2 e0
    obtain ⟨p, h2, _⟩ := DataW.trod_bool Tryd.underlying4 e1
    obtain ⟨u, h3, _⟩ := DataW.trod_bool Tryd.underlying4 e2
    simp at h1 h2 h3
    subst h1 h2 h3
    exact ⟨⟨z, p, u⟩, rfl⟩
end
set_option maxRecDepth 100000 in
theorem opens_V : Opens Tryd.prog 27 (fun _ cs => ∃ d : VD, cs = d.cl) := by
  intro H enc W held fuel cs x h
  obtain ⟨y0, y1, y2, n, _, hl, e0, e1, e2⟩ := Deep.trod_struct3 Tryd.underlying27 h
  rw [show Tryd.prog.cellsOf 27 = 14 by kernel_rfl] at hl
  simp only [show Tryd.prog.cellsOf 22 = 1 by kernel_rfl] at e0
  simp only [show Tryd.prog.cellsOf 3 = 1 by kernel_rfl] at e1
  simp only [show Tryd.prog.cellsOf 25 = 12 by kernel_rfl] at e2
  match cs, hl with
  | [c0, c1, c2, c3, c4, c5, c6, c7, c8, c9, c10, c11, c12, c13], _ =>
    obtain ⟨t, h0, _, _⟩ := DataW.trod_int Tryd.underlying22 e0
    obtain ⟨o, h1, _, _⟩ := DataW.trod_int Tryd.underlying3 e1
    have lane : ∀ i, i < 4 → ∃ a : LaneD, ((([c0, c1, c2, c3, c4, c5, c6, c7, c8, c9, c10, c11, c12, c13].drop 2).take 12).drop (i * 3)).take 3 = [.int .i64 a.n, .bool a.p, .bool a.u] := fun i hi => by
      obtain ⟨k, y, hy⟩ := trod_arr_at (m := 3) Tryd.underlying25 (by kernel_rfl) e2 i hi
      exact open_laneH hy
    obtain ⟨a, ha⟩ := lane 0 (by omega)
    obtain ⟨b, hb⟩ := lane 1 (by omega)
    obtain ⟨c, hc⟩ := lane 2 (by omega)
    obtain ⟨e, he⟩ := lane 3 (by omega)
    simp at h0 h1 ha hb hc he
    obtain ⟨rfl, rfl, rfl⟩ := ha
    obtain ⟨rfl, rfl, rfl⟩ := hb
    obtain ⟨rfl, rfl, rfl⟩ := hc
    obtain ⟨rfl, rfl, rfl⟩ := he
    subst h0 h1
    exact ⟨⟨t, o, a, b, c, e⟩, rfl⟩
theorem opens_vals : OpensW Tryd.prog 28 (fun W cs => ∃ v, ∃ l : List VD, cs = [v] ∧ RdN W 14 v (l.map VD.cl) ∧ Fits l.length) := by
  intro H enc W held fuel cs x h hw
  obtain ⟨v, rows, h1, h2, h3, h4⟩ := opensW_slice (m := 14) Tryd.underlying28 (by kernel_rfl) (by decide) (by kernel_rfl) (opensW_of opens_V) H enc W held fuel cs x h hw
  obtain ⟨l, rfl, _⟩ := map_of_each (f := VD.cl) (p := fun _ => True) rows (fun y hy => by obtain ⟨d, hd⟩ := h4 y hy; exact ⟨d, hd, trivial⟩)
  exact ⟨v, l, h1, h2, by simpa using h3⟩
def LD.fits (d : LD) : Prop := Fits d.vs.length
theorem opens_LD : OpensW Tryd.prog 28 (fun W cs => ∃ d : LD, cs = d.cl ∧ (d.ok W ∧ d.fits)) := by
  intro H enc W held fuel cs x h hw
  obtain ⟨v, l, h1, h2, h3⟩ := opens_vals H enc W held fuel cs x h hw
  obtain ⟨A, c, hv⟩ := h2.form
  subst hv
  rw [List.length_map] at h1 h2
  exact ⟨⟨A, c, l⟩, h1, h2, h3⟩
theorem opens_lists : OpensW Tryd.prog 29 (fun W cs => ∃ v, ∃ l : List LD, cs = [v] ∧ RdN W 1 v (l.map LD.cl) ∧ Fits l.length ∧ ∀ d ∈ l, d.ok W ∧ d.fits) := by
  intro H enc W held fuel cs x h hw
  obtain ⟨v, rows, h1, h2, h3, h4⟩ := opensW_slice (m := 1) Tryd.underlying29 (by kernel_rfl) (by decide) (by kernel_rfl) opens_LD H enc W held fuel cs x h hw
  obtain ⟨l, rfl, hl⟩ := map_of_each (f := LD.cl) (p := fun d => d.ok W ∧ d.fits) rows h4
  exact ⟨v, l, h1, h2, by simpa using h3, hl⟩
structure OD.fits (d : OD) : Prop where
  out : Fits d.out.length
  cls : Fits d.cls.length
  each : ∀ l ∈ d.cls, l.fits
set_option maxRecDepth 100000 in
theorem opens_O : OpensW Tryd.prog 31 (fun W cs => ∃ d : OD, cs = d.cl ∧ d.ok W ∧ d.fits) := by
  intro H enc W held fuel cs x h hw
  obtain ⟨xs, n, _, rfl, hl, hlen, hf⟩ := DataW.trod_struct Tryd.underlying31 h
  rw [show Tryd.prog.cellsOf 31 = 19 by kernel_rfl] at hl
  match xs, hlen with
  | [y0, y1, y2, y3, y4, y5], _ =>
    have e0 := trod_field 0 (show Tryd.prog.cellsOf 3 = 1 by kernel_rfl) (hf 0 _ rfl)
    have e1 := trod_field 1 (show Tryd.prog.cellsOf 3 = 1 by kernel_rfl) (hf 1 _ rfl)
    have e2 := trod_field 2 (show Tryd.prog.cellsOf 27 = 14 by kernel_rfl) (hf 2 _ rfl)
    have e3 := trod_field 16 (show Tryd.prog.cellsOf 28 = 1 by kernel_rfl) (hf 3 _ rfl)
    have w3 := fun q hq => hw q (weights_field Tryd.underlying31 (i := 3) rfl rfl q hq)
    have e4 := trod_field 17 (show Tryd.prog.cellsOf 29 = 1 by kernel_rfl) (hf 4 _ rfl)
    have w4 := fun q hq => hw q (weights_field Tryd.underlying31 (i := 4) rfl rfl q hq)
    have e5 := trod_field 18 (show Tryd.prog.cellsOf 3 = 1 by kernel_rfl) (hf 5 _ rfl)
    match cs, hl with
    | [c0, c1, c2, c3, c4, c5, c6, c7, c8, c9, c10, c11, c12, c13, c14, c15, c16, c17, c18], _ =>
      obtain ⟨z0, h0, _, _⟩ := DataW.trod_int Tryd.underlying3 e0
      obtain ⟨z1, h1, _, _⟩ := DataW.trod_int Tryd.underlying3 e1
      obtain ⟨d2, h2⟩ := opens_V H enc W held n _ _ e2
      obtain ⟨v3, l3, h3, r3, s3⟩ := opens_vals H enc W held n _ _ e3 w3
      obtain ⟨v4, l4, h4, r4, s4, k4⟩ := opens_lists H enc W held n _ _ e4 w4
      obtain ⟨z5, h5, _, _⟩ := DataW.trod_int Tryd.underlying3 e5
      simp only [List.drop, List.take, List.cons.injEq, and_true] at h0 h1 h2 h3 h4 h5
      obtain ⟨A3, k3, q3⟩ := r3.form
      obtain ⟨A4, k4', q4⟩ := r4.form
      subst q3 q4
      rw [List.length_map] at r3 h3 r4 h4
      subst h0 h1 h3 h4 h5
      refine ⟨⟨z0, z1, d2, A3, k3, l3, A4, k4', l4, z5⟩, ?_, ⟨r3, r4, fun d hd => (k4 d hd).1⟩, ⟨s3, s4, fun d hd => (k4 d hd).2⟩⟩
      show _ = [Value.int .i64 z0, Value.int .i64 z1] ++ d2.cl ++ [Value.slice A3 l3.length k3, Value.slice A4 l4.length k4', Value.int .i64 z5]
      rw [← h2]
      rfl
section
variable {H : Type} {enc : TypeId × Value → H} {W : World} {r : Reach} {b0 : Nat} {v : Value} {x : DataW H} {ps : List MemPlace}
theorem open_O (hval : Value.okWide Tryd.prog W r b0 31 v) (hd : DataW.Trod enc Tryd.prog W 0 (fun _ => true) true 31 v x ps) (hw : ∀ n ∈ x.weights Tryd.prog 31, n ≤ reachBytes) :
    ∃ d : OD, v = .agg d.cl.toArray ∧ d.ok W ∧ d.fits := by
  obtain ⟨cs, rfl, _⟩ := okWide_struct Tryd.underlying31 hval
  obtain ⟨fuel, hfu⟩ := hd
  have hf' : DataW.trod enc Tryd.prog W 0 (fun _ => true) true fuel 31 cs.toList = some (x, ps) := hfu
  obtain ⟨d, h1, h2⟩ := opens_O H enc W true fuel _ _ hf' hw
  exact ⟨d, by congr 1; rw [← h1], h2⟩
theorem open_vals (hval : Value.okWide Tryd.prog W r b0 28 v) (hd : DataW.Trod enc Tryd.prog W 0 (fun _ => true) true 28 v x ps) (hw : ∀ n ∈ x.weights Tryd.prog 28, n ≤ reachBytes) :
    ∃ l : List VD, RdN W 14 v (l.map VD.cl) ∧ Fits l.length := by
  obtain ⟨a0, len, cap, rfl⟩ := okWide_slice Tryd.underlying28 hval
  obtain ⟨fuel, hfu⟩ := hd
  have hf' : DataW.trod enc Tryd.prog W 0 (fun _ => true) true fuel 28 [.slice a0 len cap] = some (x, ps) := hfu
  obtain ⟨v, l, h1, h2, h3⟩ := opens_vals H enc W true fuel _ _ hf' hw
  simp only [List.cons.injEq, and_true] at h1
  subst h1
  exact ⟨l, h2, h3⟩
end
end Go.Proofs.YtojeaghljebbbaaDoor

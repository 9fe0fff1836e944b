/-
  Layer 12 (opcode): a module that comes in, opened, with the shapes of its functions' cells.
-/
import Derived.Test.YtjeinmccahbpgaaDoorOpenF
import Derived.Test.YtjeinmccahbpgaaDoorRfK
namespace Go.Proofs.YtjeinmccahbpgaaDoor
open Go.RowKit Go.ChangeShapes Go.WideShapes

set_option maxRecDepth 100000 in
theorem opens_fnS : Opens Tryd.prog 60 (fun W cs => ∃ d : FD, cs = [d.u0, .slice d.PA d.pl.length d.pc, .int .i64 d.res, .slice d.CA d.cl.length d.cc, d.u4] ∧ Rd W .i64 (.slice d.PA d.pl.length d.pc) d.pl ∧ Rd W .i64 (.slice d.CA d.cl.length d.cc) d.cl ∧ Shp d) := by
  intro H enc W held fuel cs x h
  obtain ⟨d, h1, h2, h3⟩ := opens_fn H enc W held fuel cs x h
  refine ⟨d, h1, h2, h3, ?_⟩
  obtain ⟨xs, n, _, _, hl, hlen, hf⟩ := DataW.trod_struct Tryd.underlying60 h
  subst h1
  match xs, hlen with
  | [y0, y1, y2, y3, y4], _ =>
    have e0 : DataW.trod enc Tryd.prog W 0 (fun _ => true) held n 9 (([d.u0, .slice d.PA d.pl.length d.pc, .int .i64 d.res, .slice d.CA d.cl.length d.cc, d.u4].drop 0).take (Tryd.prog.cellsOf 9)) = some y0 := hf 0 _ rfl
    have e4 : DataW.trod enc Tryd.prog W 0 (fun _ => true) held n 58 (([d.u0, .slice d.PA d.pl.length d.pc, .int .i64 d.res, .slice d.CA d.cl.length d.cc, d.u4].drop 4).take (Tryd.prog.cellsOf 58)) = some y4 := hf 4 _ rfl
    simp only [show Tryd.prog.cellsOf 9 = 1 by kernel_rfl] at e0
    simp only [show Tryd.prog.cellsOf 58 = 1 by kernel_rfl] at e4
    obtain ⟨s, h0, _, _⟩ := DataW.trod_string Tryd.underlying9 e0
    obtain ⟨BA, bn, bc, h4⟩ := slice_form Tryd.underlying58 (c0 := d.u4) e4
    simp at h0
    exact ⟨⟨s, h0⟩, BA, bn, bc, h4⟩
set_option maxRecDepth 100000 in
theorem opens_modS : Opens Tryd.prog 64 (fun W cs => ∃ GA gn gc FA fc, ∃ fs : List FD, cs = [.slice GA gn gc, .slice FA fs.length fc] ∧ FnsAt W FA fs ∧ ∀ d ∈ fs, Shp d) := by
  intro H enc W held fuel cs x h
  obtain ⟨xs, n, _, _, hl, hlen, hf⟩ := DataW.trod_struct Tryd.underlying64 h
  rw [show Tryd.prog.cellsOf 64 = 2 by kernel_rfl] at hl
  match xs, hlen with
  | [y0, y1], _ =>
    have e0 : DataW.trod enc Tryd.prog W 0 (fun _ => true) held n 61 ((cs.drop 0).take (Tryd.prog.cellsOf 61)) = some y0 := hf 0 _ rfl
    have e1 : DataW.trod enc Tryd.prog W 0 (fun _ => true) held n 62 ((cs.drop 1).take (Tryd.prog.cellsOf 62)) = some y1 := hf 1 _ rfl
    simp only [show Tryd.prog.cellsOf 61 = 1 by kernel_rfl] at e0
    simp only [show Tryd.prog.cellsOf 62 = 1 by kernel_rfl] at e1
    match cs, hl with
    | [c0, c1], _ =>
      have h0 : ∃ GA gn gc, c0 = .slice GA gn gc := by
        rcases Deep.open_slice Tryd.underlying61 e0 with ⟨e, _⟩ | ⟨a, len, cap, k, n, D, Pl, e, _⟩
        · exact ⟨none, 0, 0, by simpa using e⟩
        · exact ⟨some a, len, cap, by simpa using e⟩
      obtain ⟨GA, gn, gc, rfl⟩ := h0
      obtain ⟨v, rows, h1, hN, hrow⟩ := opens_slice (m := 5) Tryd.underlying62 (by kernel_rfl) (by decide) opens_fnS H enc W held n _ _ e1
      obtain ⟨fs, rfl, hfs⟩ := map_of_each (f := fun d : FD => [d.u0, .slice d.PA d.pl.length d.pc, .int .i64 d.res, .slice d.CA d.cl.length d.cc, d.u4]) (p := fun d => (Rd W .i64 (.slice d.PA d.pl.length d.pc) d.pl ∧ Rd W .i64 (.slice d.CA d.cl.length d.cc) d.cl) ∧ Shp d) rows (fun y hy => by
        obtain ⟨d, a, b, c, e⟩ := hrow y hy
        exact ⟨d, a, ⟨b, c⟩, e⟩)
      obtain ⟨_, FA, fc, e, _, _, hc⟩ := hN
      rw [List.length_map] at e hc
      simp at h1
      subst h1 e
      refine ⟨GA, gn, gc, FA, fc, fs, rfl, fun s d hs => ?_, fun d hd => (hfs d hd).2⟩
      have hlt := (List.getElem?_eq_some_iff.1 hs).1
      obtain ⟨b, off, rfl, _, hcell⟩ := hc (by omega)
      have hg := fun (j : Nat) (z : Value) (hz : [d.u0, Value.slice d.PA d.pl.length d.pc, .int .i64 d.res, .slice d.CA d.cl.length d.cc, d.u4][j]? = some z) => hcell s j _ z (by rw [List.getElem?_map, hs]; rfl) hz
      obtain ⟨⟨r1, r2⟩, _⟩ := hfs d (List.mem_of_getElem? hs)
      exact ⟨b, off, rfl, hg 0 _ rfl, by rw [Nat.add_assoc]; exact hg 1 _ rfl, by rw [Nat.add_assoc]; exact hg 2 _ rfl, by rw [Nat.add_assoc]; exact hg 3 _ rfl, by rw [Nat.add_assoc]; exact hg 4 _ rfl, r1, r2⟩
section
variable {H : Type} {enc : TypeId × Value → H} {W : World} {r : Reach} {b0 : Nat} {v : Value} {d : DataW H} {ps : List MemPlace}
set_option maxRecDepth 100000 in
theorem open_modS (hval : Value.okWide Tryd.prog W r b0 64 v) (hd : DataW.Trod enc Tryd.prog W 0 (fun _ => true) true 64 v d ps) :
    ∃ GA gn gc FA fc, ∃ fs : List FD, v = .agg #[.slice GA gn gc, .slice FA fs.length fc] ∧ FnsAt W FA fs ∧ ∀ d ∈ fs, Shp d := by
  obtain ⟨cs, rfl, _⟩ := okWide_struct Tryd.underlying64 hval
  obtain ⟨fuel, hfu⟩ := hd
  have hf' : DataW.trod enc Tryd.prog W 0 (fun _ => true) true fuel 64 cs.toList = some (d, ps) := hfu
  obtain ⟨GA, gn, gc, FA, fc, fs, h1, h2, h3⟩ := opens_modS H enc W true fuel _ _ hf'
  exact ⟨GA, gn, gc, FA, fc, fs, by congr 1; exact Array.toList_inj.1 h1, h2, h3⟩
end
end Go.Proofs.YtjeinmccahbpgaaDoor

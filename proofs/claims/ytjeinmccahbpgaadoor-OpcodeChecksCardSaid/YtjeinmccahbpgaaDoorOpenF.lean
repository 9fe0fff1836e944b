/-
  Layer 12 (opcode): the arguments of the laws, opened as they come in.
-/
import Derived.Test.YtjeinmccahbpgaaDoorOpR
import Derived.Test.YtjeinmccahbpgaaDoorOpen
namespace Go.Proofs.YtjeinmccahbpgaaDoor
open Go.RowKit Go.ChangeShapes Go.WideShapes

section
variable {P : Program}
theorem opensW_ints {t e : TypeId} {k : IntKind} (ht : P.underlying t = some (.slice e)) (he : P.underlying e = some (.int k)) (hm : P.cellsOf e = 1) {H : Type} {enc : TypeId × Value → H} {W : World} {held : Bool} {fuel : Nat} {cs : List Value} {x : DataW H × List MemPlace} (h : DataW.trod enc P W 0 (fun _ => true) held fuel t cs = some x) :
    ∃ v l, cs = [v] ∧ Rd W k v l ∧ (0 < l.length → ∃ n ∈ x.1.weights P t, l.length * P.bytesOf e ≤ n) := by
  obtain ⟨v, l, h1, h2, _⟩ := opens_ints ht he hm H enc W held fuel cs x h
  refine ⟨v, l, h1, h2, fun h0 => ?_⟩
  obtain ⟨A, c, rfl, hc, -, -⟩ := h2
  rcases Deep.open_slice ht h with ⟨e1, _⟩ | ⟨a, len, cap, m, n, D, Pl, e1, _, hl, _, hk, e2, _⟩
  · rw [e1] at h1
    injection h1 with h1
    injection h1 with _ h1 _
    omega
  · rw [e1] at h1
    injection h1 with h1
    injection h1 with _ h1 _
    refine ⟨((List.range len).map D).length * P.bytesOf e + (((List.range (m - len)).map fun j => D (len + j))).length * P.bytesOf e, ?_, ?_⟩
    · rw [e2]
      simp only [DataW.weights, ht, List.mem_cons]
      exact .inl (by rw [Nat.add_mul])
    · rw [List.length_map, List.length_range, h1]
      exact Nat.le_add_right _ _
end
section
variable {H : Type} {enc : TypeId × Value → H} {W : World} {r : Reach} {b0 : Nat} {v : Value} {d : DataW H} {ps : List MemPlace}
theorem slice_form {t e : TypeId} (ht : Tryd.prog.underlying t = some (.slice e)) {held : Bool} {fuel : Nat} {c0 : Value} {x : DataW H × List MemPlace} (h : DataW.trod enc Tryd.prog W 0 (fun _ => true) held fuel t [c0] = some x) : ∃ A n c, c0 = .slice A n c := by
  rcases Deep.open_slice ht h with ⟨e, _⟩ | ⟨a, len, cap, k, n, D, Pl, e, _⟩
  · exact ⟨none, 0, 0, by simpa using e⟩
  · exact ⟨some a, len, cap, by simpa using e⟩
set_option maxRecDepth 100000 in
theorem open_in (hval : Value.okWide Tryd.prog W r b0 38 v) (hd : DataW.Trod enc Tryd.prog W 0 (fun _ => true) true 38 v d ps) :
    ∃ op ty dst : Int, ∃ A c, ∃ l : List Int, ∃ imm sym el : Int, ∃ nw : Bool, v = .agg #[.int .i64 op, .int .i64 ty, .int .i64 dst, .slice A l.length c, .int .i64 imm, .int .i64 sym, .int .i64 el, .bool nw] ∧ Rd W .i64 (.slice A l.length c) l := by
  obtain ⟨cs, rfl, _⟩ := okWide_struct Tryd.underlying38 hval
  obtain ⟨fuel, hfu⟩ := hd
  have hf' : DataW.trod enc Tryd.prog W 0 (fun _ => true) true fuel 38 cs.toList = some (d, ps) := hfu
  obtain ⟨op, ty, dst, A, c, l, imm, sym, el, nw, h1, h2, _⟩ := opens_in H enc W true fuel _ _ hf'
  exact ⟨op, ty, dst, A, c, l, imm, sym, el, nw, by congr 1; exact Array.toList_inj.1 h1, h2⟩
set_option maxRecDepth 100000 in
theorem open_mod (hval : Value.okWide Tryd.prog W r b0 64 v) (hd : DataW.Trod enc Tryd.prog W 0 (fun _ => true) true 64 v d ps) :
    ∃ GA gn gc FA fc, ∃ fs : List FD, v = .agg #[.slice GA gn gc, .slice FA fs.length fc] ∧ FnsAt W FA fs := by
  obtain ⟨cs, rfl, _⟩ := okWide_struct Tryd.underlying64 hval
  obtain ⟨fuel, hfu⟩ := hd
  have hf' : DataW.trod enc Tryd.prog W 0 (fun _ => true) true fuel 64 cs.toList = some (d, ps) := hfu
  obtain ⟨GA, gn, gc, FA, fc, fs, h1, h2⟩ := opens_mod H enc W true fuel _ _ hf'
  exact ⟨GA, gn, gc, FA, fc, fs, by congr 1; exact Array.toList_inj.1 h1, h2⟩
set_option maxRecDepth 100000 in
theorem open_fn (hval : Value.okWide Tryd.prog W r b0 60 v) (hd : DataW.Trod enc Tryd.prog W 0 (fun _ => true) true 60 v d ps) :
    ∃ nm : ByteArray, ∃ PA pn pc, ∃ res : Int, ∃ RA rc, ∃ rl : List Int, ∃ BA bn bc, v = .agg #[.string nm, .slice PA pn pc, .int .i64 res, .slice RA rl.length rc, .slice BA bn bc] ∧ Rd W .i64 (.slice RA rl.length rc) rl ∧ (0 < rl.length → ∃ n ∈ d.weights Tryd.prog 60, rl.length * 8 ≤ n) := by
  obtain ⟨cs, rfl, _⟩ := okWide_struct Tryd.underlying60 hval
  obtain ⟨fuel, hfu⟩ := hd
  have hf' : DataW.trod enc Tryd.prog W 0 (fun _ => true) true fuel 60 cs.toList = some (d, ps) := hfu
  obtain ⟨xs, n, _, hx, hl, hlen, hf⟩ := DataW.trod_struct Tryd.underlying60 hf'
  rw [show Tryd.prog.cellsOf 60 = 5 by kernel_rfl] at hl
  obtain ⟨l, rfl⟩ : ∃ l : List Value, cs = l.toArray := ⟨cs.toList, by simp⟩
  match xs, hlen with
  | [y0, y1, y2, y3, y4], _ =>
    have e0 : DataW.trod enc Tryd.prog W 0 (fun _ => true) true n 9 ((l.drop 0).take (Tryd.prog.cellsOf 9)) = some y0 := hf 0 _ rfl
    have e1 : DataW.trod enc Tryd.prog W 0 (fun _ => true) true n 36 ((l.drop 1).take (Tryd.prog.cellsOf 36)) = some y1 := hf 1 _ rfl
    have e2 : DataW.trod enc Tryd.prog W 0 (fun _ => true) true n 22 ((l.drop 2).take (Tryd.prog.cellsOf 22)) = some y2 := hf 2 _ rfl
    have e3 : DataW.trod enc Tryd.prog W 0 (fun _ => true) true n 57 ((l.drop 3).take (Tryd.prog.cellsOf 57)) = some y3 := hf 3 _ rfl
    have e4 : DataW.trod enc Tryd.prog W 0 (fun _ => true) true n 58 ((l.drop 4).take (Tryd.prog.cellsOf 58)) = some y4 := hf 4 _ rfl
    simp only [show Tryd.prog.cellsOf 9 = 1 by kernel_rfl] at e0
    simp only [show Tryd.prog.cellsOf 36 = 1 by kernel_rfl] at e1
    simp only [show Tryd.prog.cellsOf 22 = 1 by kernel_rfl] at e2
    simp only [show Tryd.prog.cellsOf 57 = 1 by kernel_rfl] at e3
    simp only [show Tryd.prog.cellsOf 58 = 1 by kernel_rfl] at e4
    match l, hl with
    | [c0, c1, c2, c3, c4], _ =>
      obtain ⟨s, h0, _, _⟩ := DataW.trod_string Tryd.underlying9 e0
      obtain ⟨PA, pn, pc, rfl⟩ := slice_form Tryd.underlying36 (c0 := c1) e1
      obtain ⟨z2, h2, _, _⟩ := DataW.trod_int Tryd.underlying22 e2
      obtain ⟨v3, rl, h3, r3, w3⟩ := opensW_ints Tryd.underlying57 Tryd.underlying22 (by kernel_rfl) e3
      obtain ⟨BA, bn, bc, rfl⟩ := slice_form Tryd.underlying58 (c0 := c4) e4
      simp at h0 h2 h3
      obtain ⟨RA, rc, q3, _⟩ := id r3
      subst h0 h2 h3 q3
      refine ⟨s, PA, pn, pc, z2, RA, rc, rl, BA, bn, bc, rfl, r3, fun h => ?_⟩
      obtain ⟨m, hm, hle⟩ := w3 h
      rw [show Tryd.prog.bytesOf 22 = 8 by kernel_rfl] at hle
      refine ⟨m, ?_, hle⟩
      injection hx with hx _
      rw [hx]
      simp only [DataW.weights, Tryd.underlying60, List.map_cons, List.map_nil, DataW.weightsEach, List.mem_append]
      exact .inr (.inr (.inr (.inl hm)))
end
end Go.Proofs.YtjeinmccahbpgaaDoor

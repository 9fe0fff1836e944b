/-
  Layer 12 (opcode): Check of any instruction; its arguments opened.
-/
import Derived.Test.YtnhaanjpcnnifaaDoorOpQ
import Derived.Test.YtnhaanjpcnnifaaDoorOpenN
namespace Go.Proofs.YtnhaanjpcnnifaaDoor
open Go.RowKit Go.ChangeShapes Go.WideShapes

/-- The functions of a module. -/
def FnsAt (w : World) (FA : Option Addr) (fs : List FD) : Prop := ∀ (s : Nat) (d : FD), fs[s]? = some d → ∃ fb fo, FA = some ⟨fb, fo, none⟩ ∧ FnAt w fb (fo + s * 5) d
theorem FnsAt.below {w w' : World} {FA : Option Addr} {fs : List FD} (h : FnsAt w FA fs) (hb : Below w.heap.size w w') : FnsAt w' FA fs := fun s d hs => by
  obtain ⟨fb, fo, e, hd⟩ := h s d hs
  exact ⟨fb, fo, e, hd.below hb⟩
/-- Check's answer. -/
def checkA (op ty dst imm sym el : Int) (nw : Bool) (l rl : List Int) (gn : Nat) (fs : List FD) : Int :=
  if op = 30 then
    if 0 ≤ sym then
      match fs[sym.toNat]? with
      | some d => checkC ty dst imm el nw l rl sym.toNat gn fs.length d
      | none => if strayM 30 imm sym el nw then 3 else 8
    else if strayM 30 imm sym el nw then 3 else 8
  else checkM op ty dst imm sym el nw l rl gn fs.length
theorem check_any (op ty dst imm sym el : Int) (A RA GA FA : Option Addr) (c rc gn gc fc : Nat) (fs : List FD) (l rl : List Int) (hm : l.length ≤ 1000) (nw : Bool) (v0 v1 v4 : Value) (res : Int) (w : World) (hT : Tab w) (hO : OpTab w)
    (hl : Rd w .i64 (.slice A l.length c) l) (hr : Rd w .i64 (.slice RA rl.length rc) rl) (hF : FnsAt w FA fs) :
    Calls Tryd.prog 41 #[.agg #[.int .i64 op, .int .i64 ty, .int .i64 dst, .slice A l.length c, .int .i64 imm, .int .i64 sym, .int .i64 el, .bool nw], .agg #[v0, v1, .int .i64 res, .slice RA rl.length rc, v4], .agg #[.slice GA gn gc, .slice FA fs.length fc]] w fun e w' =>
      e = .returned (.int .i64 (checkA op ty dst imm sym el nw l rl gn fs)) ∧ Below w.heap.size w w' := by
  unfold checkA
  by_cases h30 : op = 30
  · subst h30
    rw [if_pos rfl]
    by_cases h0 : 0 ≤ sym
    · rw [if_pos h0]
      obtain ⟨s, rfl⟩ : ∃ s : Nat, sym = s := ⟨sym.toNat, by omega⟩
      rw [Int.toNat_natCast]
      cases hs : fs[s]? with
      | some d =>
        obtain ⟨fb, fo, rfl, hd⟩ := hF s d hs
        exact check_call ty dst imm el A RA GA c rc gn gc fb fo fs.length fc s d (List.getElem?_eq_some_iff.1 hs).1 l rl hm nw v0 v1 v4 res w hT hO hl hr hd
      | none =>
        exact check_nosym ty dst imm s el A RA GA FA c rc gn gc fs.length fc (fun h => by rw [List.getElem?_eq_none_iff] at hs; omega) l rl nw v0 v1 v4 res w hT hO hl hr
    · rw [if_neg h0]
      exact check_nosym ty dst imm sym el A RA GA FA c rc gn gc fs.length fc (fun h => h0 h.1) l rl nw v0 v1 v4 res w hT hO hl hr
  · rw [if_neg h30]
    exact check_row op ty dst imm sym el h30 A RA GA FA c rc gn gc fs.length fc l rl hm nw v0 v1 v4 res w hT hO hl hr

theorem opens_tys : Opens Tryd.prog 25 (fun W cs => ∃ v l, cs = [v] ∧ Rd W .i64 v l ∧ ∀ z ∈ l, (Lit.int .i64 z).wf = true) := opens_ints Tryd.underlying25 Tryd.underlying24 (by kernel_rfl)
theorem opens_args : Opens Tryd.prog 23 (fun W cs => ∃ v l, cs = [v] ∧ Rd W .i64 v l ∧ ∀ z ∈ l, (Lit.int .i64 z).wf = true) := opens_ints Tryd.underlying23 Tryd.underlying3 (by kernel_rfl)
set_option maxRecDepth 100000 in
theorem opens_fn : Opens Tryd.prog 28 (fun W cs => ∃ d : FD, cs = [d.u0, .slice d.PA d.pl.length d.pc, .int .i64 d.res, .slice d.CA d.cl.length d.cc, d.u4] ∧ Rd W .i64 (.slice d.PA d.pl.length d.pc) d.pl ∧ Rd W .i64 (.slice d.CA d.cl.length d.cc) d.cl) := by
  intro H enc W held fuel cs x h
  obtain ⟨xs, n, _, _, hl, hlen, hf⟩ := DataW.trod_struct Tryd.underlying28 h
  rw [show Tryd.prog.cellsOf 28 = 5 by kernel_rfl] at hl
  match xs, hlen with
  | [y0, y1, y2, y3, y4], _ =>
    have e1 : DataW.trod enc Tryd.prog W 0 (fun _ => true) held n 23 ((cs.drop 1).take (Tryd.prog.cellsOf 23)) = some y1 := hf 1 _ rfl
    have e2 : DataW.trod enc Tryd.prog W 0 (fun _ => true) held n 24 ((cs.drop 2).take (Tryd.prog.cellsOf 24)) = some y2 := hf 2 _ rfl
    have e3 : DataW.trod enc Tryd.prog W 0 (fun _ => true) held n 25 ((cs.drop 3).take (Tryd.prog.cellsOf 25)) = some y3 := hf 3 _ rfl
    simp only [show Tryd.prog.cellsOf 23 = 1 by kernel_rfl] at e1
    simp only [show Tryd.prog.cellsOf 24 = 1 by kernel_rfl] at e2
    simp only [show Tryd.prog.cellsOf 25 = 1 by kernel_rfl] at e3
    match cs, hl with
    | [c0, c1, c2, c3, c4], _ =>
      obtain ⟨v1, l1, h1, r1, _⟩ := opens_args H enc W held n _ _ e1
      obtain ⟨z2, h2, _, _⟩ := DataW.trod_int Tryd.underlying24 e2
      obtain ⟨v3, l3, h3, r3, _⟩ := opens_tys H enc W held n _ _ e3
      simp at h1 h2 h3
      obtain ⟨A1, k1, q1, _⟩ := id r1
      obtain ⟨A3, k3, q3, _⟩ := id r3
      subst h1 h2 h3 q1 q3
      exact ⟨⟨c0, A1, k1, l1, z2, A3, k3, l3, c4⟩, rfl, r1, r3⟩
set_option maxRecDepth 100000 in
theorem opens_in : Opens Tryd.prog 78 (fun W cs => ∃ op ty dst : Int, ∃ A c, ∃ l : List Int, ∃ imm sym el : Int, ∃ nw : Bool, cs = [.int .i64 op, .int .i64 ty, .int .i64 dst, .slice A l.length c, .int .i64 imm, .int .i64 sym, .int .i64 el, .bool nw] ∧ Rd W .i64 (.slice A l.length c) l ∧ (Lit.int .i64 op).wf = true ∧ (Lit.int .i64 dst).wf = true ∧ (Lit.int .i64 sym).wf = true) := by
  intro H enc W held fuel cs x h
  obtain ⟨xs, n, _, _, hl, hlen, hf⟩ := DataW.trod_struct Tryd.underlying78 h
  rw [show Tryd.prog.cellsOf 78 = 8 by kernel_rfl] at hl
  match xs, hlen with
  | [y0, y1, y2, y3, y4, y5, y6, y7], _ =>
    have e0 : DataW.trod enc Tryd.prog W 0 (fun _ => true) held n 3 ((cs.drop 0).take (Tryd.prog.cellsOf 3)) = some y0 := hf 0 _ rfl
    have e1 : DataW.trod enc Tryd.prog W 0 (fun _ => true) held n 24 ((cs.drop 1).take (Tryd.prog.cellsOf 24)) = some y1 := hf 1 _ rfl
    have e2 : DataW.trod enc Tryd.prog W 0 (fun _ => true) held n 3 ((cs.drop 2).take (Tryd.prog.cellsOf 3)) = some y2 := hf 2 _ rfl
    have e3 : DataW.trod enc Tryd.prog W 0 (fun _ => true) held n 23 ((cs.drop 3).take (Tryd.prog.cellsOf 23)) = some y3 := hf 3 _ rfl
    have e4 : DataW.trod enc Tryd.prog W 0 (fun _ => true) held n 2 ((cs.drop 4).take (Tryd.prog.cellsOf 2)) = some y4 := hf 4 _ rfl
    have e5 : DataW.trod enc Tryd.prog W 0 (fun _ => true) held n 3 ((cs.drop 5).take (Tryd.prog.cellsOf 3)) = some y5 := hf 5 _ rfl
    have e6 : DataW.trod enc Tryd.prog W 0 (fun _ => true) held n 24 ((cs.drop 6).take (Tryd.prog.cellsOf 24)) = some y6 := hf 6 _ rfl
    have e7 : DataW.trod enc Tryd.prog W 0 (fun _ => true) held n 4 ((cs.drop 7).take (Tryd.prog.cellsOf 4)) = some y7 := hf 7 _ rfl
    simp only [show Tryd.prog.cellsOf 23 = 1 by kernel_rfl] at e3
    simp only [show Tryd.prog.cellsOf 24 = 1 by kernel_rfl] at e1 e6
    simp only [show Tryd.prog.cellsOf 3 = 1 by kernel_rfl] at e0 e2 e5
    simp only [show Tryd.prog.cellsOf 2 = 1 by kernel_rfl] at e4
    simp only [show Tryd.prog.cellsOf 4 = 1 by kernel_rfl] at e7
    match cs, hl with
    | [c0, c1, c2, c3, c4, c5, c6, c7], _ =>
      obtain ⟨z0, h0, _, g0⟩ := DataW.trod_int Tryd.underlying3 e0
      obtain ⟨z1, h1, _, _⟩ := DataW.trod_int Tryd.underlying24 e1
      obtain ⟨z2, h2, _, g2⟩ := DataW.trod_int Tryd.underlying3 e2
      obtain ⟨v3, l3, h3, r3, _⟩ := opens_args H enc W held n _ _ e3
      obtain ⟨z4, h4, _, _⟩ := DataW.trod_int Tryd.underlying2 e4
      obtain ⟨z5, h5, _, g5⟩ := DataW.trod_int Tryd.underlying3 e5
      obtain ⟨z6, h6, _, _⟩ := DataW.trod_int Tryd.underlying24 e6
      obtain ⟨b7, h7, _⟩ := DataW.trod_bool Tryd.underlying4 e7
      simp at h0 h1 h2 h3 h4 h5 h6 h7
      obtain ⟨A3, k3, q3, _⟩ := id r3
      subst h0 h1 h2 h3 h4 h5 h6 h7 q3
      exact ⟨z0, z1, z2, A3, k3, l3, z4, z5, z6, b7, rfl, r3, g0, g2, g5⟩
set_option maxRecDepth 100000 in
theorem opens_mod : Opens Tryd.prog 32 (fun W cs => ∃ GA gn gc FA fc, ∃ fs : List FD, cs = [.slice GA gn gc, .slice FA fs.length fc] ∧ FnsAt W FA fs) := by
  intro H enc W held fuel cs x h
  obtain ⟨xs, n, _, _, hl, hlen, hf⟩ := DataW.trod_struct Tryd.underlying32 h
  rw [show Tryd.prog.cellsOf 32 = 2 by kernel_rfl] at hl
  match xs, hlen with
  | [y0, y1], _ =>
    have e0 : DataW.trod enc Tryd.prog W 0 (fun _ => true) held n 29 ((cs.drop 0).take (Tryd.prog.cellsOf 29)) = some y0 := hf 0 _ rfl
    have e1 : DataW.trod enc Tryd.prog W 0 (fun _ => true) held n 30 ((cs.drop 1).take (Tryd.prog.cellsOf 30)) = some y1 := hf 1 _ rfl
    simp only [show Tryd.prog.cellsOf 29 = 1 by kernel_rfl] at e0
    simp only [show Tryd.prog.cellsOf 30 = 1 by kernel_rfl] at e1
    match cs, hl with
    | [c0, c1], _ =>
      have h0 : ∃ GA gn gc, c0 = .slice GA gn gc := by
        rcases Deep.open_slice Tryd.underlying29 e0 with ⟨e, _⟩ | ⟨a, len, cap, k, n, D, Pl, e, _⟩
        · exact ⟨none, 0, 0, by simpa using e⟩
        · exact ⟨some a, len, cap, by simpa using e⟩
      obtain ⟨GA, gn, gc, rfl⟩ := h0
      obtain ⟨v, rows, h1, hN, hrow⟩ := opens_slice (m := 5) Tryd.underlying30 (by kernel_rfl) (by decide) opens_fn H enc W held n _ _ e1
      obtain ⟨fs, rfl, hfs⟩ := map_of_each (f := fun d : FD => [d.u0, .slice d.PA d.pl.length d.pc, .int .i64 d.res, .slice d.CA d.cl.length d.cc, d.u4]) (p := fun d => Rd W .i64 (.slice d.PA d.pl.length d.pc) d.pl ∧ Rd W .i64 (.slice d.CA d.cl.length d.cc) d.cl) rows (fun y hy => by
        obtain ⟨d, a, b, c⟩ := hrow y hy
        exact ⟨d, a, b, c⟩)
      obtain ⟨_, FA, fc, e, _, _, hc⟩ := hN
      rw [List.length_map] at e hc
      simp at h1
      subst h1 e
      refine ⟨GA, gn, gc, FA, fc, fs, rfl, fun s d hs => ?_⟩
      have hlt := (List.getElem?_eq_some_iff.1 hs).1
      obtain ⟨b, off, rfl, _, hcell⟩ := hc (by omega)
      have hg := fun (j : Nat) (z : Value) (hz : [d.u0, Value.slice d.PA d.pl.length d.pc, .int .i64 d.res, .slice d.CA d.cl.length d.cc, d.u4][j]? = some z) => hcell s j _ z (by rw [List.getElem?_map, hs]; rfl) hz
      obtain ⟨r1, r2⟩ := hfs d (List.mem_of_getElem? hs)
      exact ⟨b, off, rfl, hg 0 _ rfl, by rw [Nat.add_assoc]; exact hg 1 _ rfl, by rw [Nat.add_assoc]; exact hg 2 _ rfl, by rw [Nat.add_assoc]; exact hg 3 _ rfl, by rw [Nat.add_assoc]; exact hg 4 _ rfl, r1, r2⟩
end Go.Proofs.YtnhaanjpcnnifaaDoor

/-
  A function of the IR as data: what an argument of type api.Func, api.Block, api.Instr reads as.
-/
import Derived.Test.YthnehmfdadgklaaDeepK
import Derived.Test.YthnehmfdadgklaaChecked
namespace Go.Proofs.Ythnehmfdadgklaa
open Go.RowKit Go.ChangeShapes Go.WideShapes

/-- api.Instr, as it reads. -/
structure InD where
  op : Int
  ty : Int
  dst : Int
  argsA : Option Addr
  argsc : Nat
  args : List Int
  imm : Int
  sym : Int
  el : Int
  nw : Bool
def InD.cells (d : InD) : List Value := [.int .i64 d.op, .int .i64 d.ty, .int .i64 d.dst, .slice d.argsA d.args.length d.argsc, .int .i64 d.imm, .int .i64 d.sym, .int .i64 d.el, .bool d.nw]
structure InD.ok (w : World) (d : InD) : Prop where
  op : I6 d.op
  ty : I6 d.ty
  dst : I6 d.dst
  args : Rd w .i64 (.slice d.argsA d.args.length d.argsc) d.args
  argsB : Fits d.args.length
  argsI : ∀ z ∈ d.args, I6 z
  imm : I6 d.imm
  sym : I6 d.sym
  el : I6 d.el
theorem InD.len (d : InD) : d.cells.length = 8 := rfl
theorem InD.ok.below {w w' : World} {d : InD} (h : d.ok w) (hb : Below w.heap.size w w') : d.ok w' :=
  ⟨h.op, h.ty, h.dst, h.args.below' hb, h.argsB, h.argsI, h.imm, h.sym, h.el⟩
set_option maxRecDepth 100000 in
theorem opens_In : OpensW Try.prog 70 (fun W cs => ∃ d : InD, cs = d.cells ∧ d.ok W) := by
  intro H enc W held fuel cs x h hw
  obtain ⟨xs, n, _, rfl, hl, hlen, hf⟩ := DataW.trod_struct Try.underlying70 h
  rw [show Try.prog.cellsOf 70 = 8 by kernel_rfl] at hl
  match xs, hlen with
  | [y0, y1, y2, y3, y4, y5, y6, y7], _ =>
    have e0 := trod_field 0 (show Try.prog.cellsOf 3 = 1 by kernel_rfl) (hf 0 _ rfl)
    have e1 := trod_field 1 (show Try.prog.cellsOf 23 = 1 by kernel_rfl) (hf 1 _ rfl)
    have e2 := trod_field 2 (show Try.prog.cellsOf 3 = 1 by kernel_rfl) (hf 2 _ rfl)
    have e3 := trod_field 3 (show Try.prog.cellsOf 22 = 1 by kernel_rfl) (hf 3 _ rfl)
    have w3 := fun q hq => hw q (weights_field Try.underlying70 (i := 3) rfl rfl q hq)
    have e4 := trod_field 4 (show Try.prog.cellsOf 2 = 1 by kernel_rfl) (hf 4 _ rfl)
    have e5 := trod_field 5 (show Try.prog.cellsOf 3 = 1 by kernel_rfl) (hf 5 _ rfl)
    have e6 := trod_field 6 (show Try.prog.cellsOf 23 = 1 by kernel_rfl) (hf 6 _ rfl)
    have e7 := trod_field 7 (show Try.prog.cellsOf 4 = 1 by kernel_rfl) (hf 7 _ rfl)
    match cs, hl with
    | [c0, c1, c2, c3, c4, c5, c6, c7], _ =>
      obtain ⟨z0, h0, _, g0⟩ := DataW.trod_int Try.underlying3 e0
      obtain ⟨z1, h1, _, g1⟩ := DataW.trod_int Try.underlying23 e1
      obtain ⟨z2, h2, _, g2⟩ := DataW.trod_int Try.underlying3 e2
      obtain ⟨v3, z3, h3, r3, s3, g3⟩ := opensW_i6 Try.underlying22 Try.underlying3 (by kernel_rfl) (by kernel_rfl) H enc W held n _ _ e3 w3
      obtain ⟨z4, h4, _, g4⟩ := DataW.trod_int Try.underlying2 e4
      obtain ⟨z5, h5, _, g5⟩ := DataW.trod_int Try.underlying3 e5
      obtain ⟨z6, h6, _, g6⟩ := DataW.trod_int Try.underlying23 e6
      obtain ⟨z7, h7, _⟩ := DataW.trod_bool Try.underlying4 e7
      simp only [List.drop, List.take, List.cons.injEq, and_true] at h0 h1 h2 h3 h4 h5 h6 h7
      obtain ⟨A3, k3, q3, _⟩ := id r3
      subst q3
      subst h0 h1 h2 h3 h4 h5 h6 h7
      exact ⟨⟨z0, z1, z2, A3, k3, z3, z4, z5, z6, z7⟩, rfl, ⟨g0, g1, g2, r3, s3, g3, g4, g5, g6⟩⟩
theorem open_In {H : Type} {enc : TypeId × Value → H} {W : World} {r : Reach} {b0 : Nat} {v : Value} {x : DataW H} {ps : List MemPlace} (hval : Value.okWide Try.prog W r b0 70 v) (hd : DataW.Trod enc Try.prog W 0 (fun _ => true) true 70 v x ps) (hw : ∀ n ∈ x.weights Try.prog 70, n ≤ reachBytes) :
    ∃ d : InD, v = .agg d.cells.toArray ∧ d.ok W := by
  obtain ⟨cs, rfl, _⟩ := okWide_struct Try.underlying70 hval
  obtain ⟨fuel, hfu⟩ := hd
  have hf' : DataW.trod enc Try.prog W 0 (fun _ => true) true fuel 70 cs.toList = some (x, ps) := hfu
  obtain ⟨d, h1, h2⟩ := opens_In H enc W true fuel _ _ hf' hw
  exact ⟨d, by congr 1; rw [← h1], h2⟩

/-- api.Edge, as it reads. -/
structure EdD where
  blk : Int
  argsA : Option Addr
  argsc : Nat
  args : List Int
def EdD.cells (d : EdD) : List Value := [.int .i64 d.blk, .slice d.argsA d.args.length d.argsc]
structure EdD.ok (w : World) (d : EdD) : Prop where
  blk : I6 d.blk
  args : Rd w .i64 (.slice d.argsA d.args.length d.argsc) d.args
  argsB : Fits d.args.length
  argsI : ∀ z ∈ d.args, I6 z
theorem EdD.len (d : EdD) : d.cells.length = 2 := rfl
theorem EdD.ok.below {w w' : World} {d : EdD} (h : d.ok w) (hb : Below w.heap.size w w') : d.ok w' :=
  ⟨h.blk, h.args.below' hb, h.argsB, h.argsI⟩
set_option maxRecDepth 100000 in
theorem opens_Ed : OpensW Try.prog 56 (fun W cs => ∃ d : EdD, cs = d.cells ∧ d.ok W) := by
  intro H enc W held fuel cs x h hw
  obtain ⟨xs, n, _, rfl, hl, hlen, hf⟩ := DataW.trod_struct Try.underlying56 h
  rw [show Try.prog.cellsOf 56 = 2 by kernel_rfl] at hl
  match xs, hlen with
  | [y0, y1], _ =>
    have e0 := trod_field 0 (show Try.prog.cellsOf 3 = 1 by kernel_rfl) (hf 0 _ rfl)
    have e1 := trod_field 1 (show Try.prog.cellsOf 22 = 1 by kernel_rfl) (hf 1 _ rfl)
    have w1 := fun q hq => hw q (weights_field Try.underlying56 (i := 1) rfl rfl q hq)
    match cs, hl with
    | [c0, c1], _ =>
      obtain ⟨z0, h0, _, g0⟩ := DataW.trod_int Try.underlying3 e0
      obtain ⟨v1, z1, h1, r1, s1, g1⟩ := opensW_i6 Try.underlying22 Try.underlying3 (by kernel_rfl) (by kernel_rfl) H enc W held n _ _ e1 w1
      simp only [List.drop, List.take, List.cons.injEq, and_true] at h0 h1
      obtain ⟨A1, k1, q1, _⟩ := id r1
      subst q1
      subst h0 h1
      exact ⟨⟨z0, A1, k1, z1⟩, rfl, ⟨g0, r1, s1, g1⟩⟩
theorem open_Ed {H : Type} {enc : TypeId × Value → H} {W : World} {r : Reach} {b0 : Nat} {v : Value} {x : DataW H} {ps : List MemPlace} (hval : Value.okWide Try.prog W r b0 56 v) (hd : DataW.Trod enc Try.prog W 0 (fun _ => true) true 56 v x ps) (hw : ∀ n ∈ x.weights Try.prog 56, n ≤ reachBytes) :
    ∃ d : EdD, v = .agg d.cells.toArray ∧ d.ok W := by
  obtain ⟨cs, rfl, _⟩ := okWide_struct Try.underlying56 hval
  obtain ⟨fuel, hfu⟩ := hd
  have hf' : DataW.trod enc Try.prog W 0 (fun _ => true) true fuel 56 cs.toList = some (x, ps) := hfu
  obtain ⟨d, h1, h2⟩ := opens_Ed H enc W true fuel _ _ hf' hw
  exact ⟨d, by congr 1; rw [← h1], h2⟩

/-- api.Terminator, as it reads. -/
structure TmD where
  kind : Int
  argsA : Option Addr
  argsc : Nat
  args : List Int
  casesA : Option Addr
  casesc : Nat
  cases : List Int
  succsA : Option Addr
  succsc : Nat
  succs : List EdD
  sym : Int
def TmD.cells (d : TmD) : List Value := [.int .i64 d.kind, .slice d.argsA d.args.length d.argsc, .slice d.casesA d.cases.length d.casesc, .slice d.succsA d.succs.length d.succsc, .int .i64 d.sym]
structure TmD.ok (w : World) (d : TmD) : Prop where
  kind : I6 d.kind
  args : Rd w .i64 (.slice d.argsA d.args.length d.argsc) d.args
  argsB : Fits d.args.length
  argsI : ∀ z ∈ d.args, I6 z
  cases : Rd w .i64 (.slice d.casesA d.cases.length d.casesc) d.cases
  casesB : Fits d.cases.length
  casesI : ∀ z ∈ d.cases, I6 z
  succs : RdN w 2 (.slice d.succsA d.succs.length d.succsc) (d.succs.map EdD.cells)
  succsB : Fits d.succs.length
  succsO : ∀ e ∈ d.succs, e.ok w
  sym : I6 d.sym
theorem TmD.len (d : TmD) : d.cells.length = 5 := rfl
theorem TmD.ok.below {w w' : World} {d : TmD} (h : d.ok w) (hb : Below w.heap.size w w') : d.ok w' :=
  ⟨h.kind, h.args.below' hb, h.argsB, h.argsI, h.cases.below' hb, h.casesB, h.casesI, h.succs.below' hb, h.succsB, fun e he => (h.succsO e he).below hb, h.sym⟩
set_option maxRecDepth 100000 in
theorem opens_Tm : OpensW Try.prog 51 (fun W cs => ∃ d : TmD, cs = d.cells ∧ d.ok W) := by
  intro H enc W held fuel cs x h hw
  obtain ⟨xs, n, _, rfl, hl, hlen, hf⟩ := DataW.trod_struct Try.underlying51 h
  rw [show Try.prog.cellsOf 51 = 5 by kernel_rfl] at hl
  match xs, hlen with
  | [y0, y1, y2, y3, y4], _ =>
    have e0 := trod_field 0 (show Try.prog.cellsOf 3 = 1 by kernel_rfl) (hf 0 _ rfl)
    have e1 := trod_field 1 (show Try.prog.cellsOf 22 = 1 by kernel_rfl) (hf 1 _ rfl)
    have w1 := fun q hq => hw q (weights_field Try.underlying51 (i := 1) rfl rfl q hq)
    have e2 := trod_field 2 (show Try.prog.cellsOf 48 = 1 by kernel_rfl) (hf 2 _ rfl)
    have w2 := fun q hq => hw q (weights_field Try.underlying51 (i := 2) rfl rfl q hq)
    have e3 := trod_field 3 (show Try.prog.cellsOf 49 = 1 by kernel_rfl) (hf 3 _ rfl)
    have w3 := fun q hq => hw q (weights_field Try.underlying51 (i := 3) rfl rfl q hq)
    have e4 := trod_field 4 (show Try.prog.cellsOf 3 = 1 by kernel_rfl) (hf 4 _ rfl)
    match cs, hl with
    | [c0, c1, c2, c3, c4], _ =>
      obtain ⟨z0, h0, _, g0⟩ := DataW.trod_int Try.underlying3 e0
      obtain ⟨v1, z1, h1, r1, s1, g1⟩ := opensW_i6 Try.underlying22 Try.underlying3 (by kernel_rfl) (by kernel_rfl) H enc W held n _ _ e1 w1
      obtain ⟨v2, z2, h2, r2, s2, g2⟩ := opensW_i6 Try.underlying48 Try.underlying2 (by kernel_rfl) (by kernel_rfl) H enc W held n _ _ e2 w2
      obtain ⟨v3, rows3, h3, r3, s3, k3⟩ := opensW_slice (m := 2) Try.underlying49 (by kernel_rfl) (by decide) (by kernel_rfl) opens_Ed H enc W held n _ _ e3 w3
      obtain ⟨z3, rfl, g3⟩ := map_of_each (f := EdD.cells) (p := fun d => d.ok W) rows3 k3
      obtain ⟨z4, h4, _, g4⟩ := DataW.trod_int Try.underlying3 e4
      simp only [List.drop, List.take, List.cons.injEq, and_true] at h0 h1 h2 h3 h4
      obtain ⟨A1, k1, q1, _⟩ := id r1
      subst q1
      obtain ⟨A2, k2, q2, _⟩ := id r2
      subst q2
      obtain ⟨_, A3, k3, q3, _⟩ := id r3
      subst q3
      rw [List.length_map] at r3 h3 s3
      subst h0 h1 h2 h3 h4
      exact ⟨⟨z0, A1, k1, z1, A2, k2, z2, A3, k3, z3, z4⟩, rfl, ⟨g0, r1, s1, g1, r2, s2, g2, r3, s3, g3, g4⟩⟩
theorem open_Tm {H : Type} {enc : TypeId × Value → H} {W : World} {r : Reach} {b0 : Nat} {v : Value} {x : DataW H} {ps : List MemPlace} (hval : Value.okWide Try.prog W r b0 51 v) (hd : DataW.Trod enc Try.prog W 0 (fun _ => true) true 51 v x ps) (hw : ∀ n ∈ x.weights Try.prog 51, n ≤ reachBytes) :
    ∃ d : TmD, v = .agg d.cells.toArray ∧ d.ok W := by
  obtain ⟨cs, rfl, _⟩ := okWide_struct Try.underlying51 hval
  obtain ⟨fuel, hfu⟩ := hd
  have hf' : DataW.trod enc Try.prog W 0 (fun _ => true) true fuel 51 cs.toList = some (x, ps) := hfu
  obtain ⟨d, h1, h2⟩ := opens_Tm H enc W true fuel _ _ hf' hw
  exact ⟨d, by congr 1; rw [← h1], h2⟩

/-- api.Block, as it reads. -/
structure BkD where
  paramsA : Option Addr
  paramsc : Nat
  params : List Int
  insA : Option Addr
  insc : Nat
  ins : List InD
  term : TmD
def BkD.cells (d : BkD) : List Value := [.slice d.paramsA d.params.length d.paramsc, .slice d.insA d.ins.length d.insc] ++ d.term.cells
structure BkD.ok (w : World) (d : BkD) : Prop where
  params : Rd w .i64 (.slice d.paramsA d.params.length d.paramsc) d.params
  paramsB : Fits d.params.length
  paramsI : ∀ z ∈ d.params, I6 z
  ins : RdN w 8 (.slice d.insA d.ins.length d.insc) (d.ins.map InD.cells)
  insB : Fits d.ins.length
  insO : ∀ e ∈ d.ins, e.ok w
  term : d.term.ok w
theorem BkD.len (d : BkD) : d.cells.length = 7 := rfl
theorem BkD.ok.below {w w' : World} {d : BkD} (h : d.ok w) (hb : Below w.heap.size w w') : d.ok w' :=
  ⟨h.params.below' hb, h.paramsB, h.paramsI, h.ins.below' hb, h.insB, fun e he => (h.insO e he).below hb, h.term.below hb⟩
set_option maxRecDepth 100000 in
theorem opens_Bk : OpensW Try.prog 54 (fun W cs => ∃ d : BkD, cs = d.cells ∧ d.ok W) := by
  intro H enc W held fuel cs x h hw
  obtain ⟨xs, n, _, rfl, hl, hlen, hf⟩ := DataW.trod_struct Try.underlying54 h
  rw [show Try.prog.cellsOf 54 = 7 by kernel_rfl] at hl
  match xs, hlen with
  | [y0, y1, y2], _ =>
    have e0 := trod_field 0 (show Try.prog.cellsOf 22 = 1 by kernel_rfl) (hf 0 _ rfl)
    have w0 := fun q hq => hw q (weights_field Try.underlying54 (i := 0) rfl rfl q hq)
    have e1 := trod_field 1 (show Try.prog.cellsOf 52 = 1 by kernel_rfl) (hf 1 _ rfl)
    have w1 := fun q hq => hw q (weights_field Try.underlying54 (i := 1) rfl rfl q hq)
    have e2 := trod_field 2 (show Try.prog.cellsOf 51 = 5 by kernel_rfl) (hf 2 _ rfl)
    have w2 := fun q hq => hw q (weights_field Try.underlying54 (i := 2) rfl rfl q hq)
    match cs, hl with
    | [c0, c1, c2, c3, c4, c5, c6], _ =>
      obtain ⟨v0, z0, h0, r0, s0, g0⟩ := opensW_i6 Try.underlying22 Try.underlying3 (by kernel_rfl) (by kernel_rfl) H enc W held n _ _ e0 w0
      obtain ⟨v1, rows1, h1, r1, s1, k1⟩ := opensW_slice (m := 8) Try.underlying52 (by kernel_rfl) (by decide) (by kernel_rfl) opens_In H enc W held n _ _ e1 w1
      obtain ⟨z1, rfl, g1⟩ := map_of_each (f := InD.cells) (p := fun d => d.ok W) rows1 k1
      obtain ⟨z2, h2, g2⟩ := opens_Tm H enc W held n _ _ e2 w2
      simp only [List.drop, List.take, List.cons.injEq, and_true] at h0 h1 h2
      obtain ⟨A0, k0, q0, _⟩ := id r0
      subst q0
      obtain ⟨_, A1, k1, q1, _⟩ := id r1
      subst q1
      rw [List.length_map] at r1 h1 s1
      subst h0 h1
      exact ⟨⟨A0, k0, z0, A1, k1, z1, z2⟩, (by show _ = _ ++ z2.cells; rw [← h2]; rfl), ⟨r0, s0, g0, r1, s1, g1, g2⟩⟩
theorem open_Bk {H : Type} {enc : TypeId × Value → H} {W : World} {r : Reach} {b0 : Nat} {v : Value} {x : DataW H} {ps : List MemPlace} (hval : Value.okWide Try.prog W r b0 54 v) (hd : DataW.Trod enc Try.prog W 0 (fun _ => true) true 54 v x ps) (hw : ∀ n ∈ x.weights Try.prog 54, n ≤ reachBytes) :
    ∃ d : BkD, v = .agg d.cells.toArray ∧ d.ok W := by
  obtain ⟨cs, rfl, _⟩ := okWide_struct Try.underlying54 hval
  obtain ⟨fuel, hfu⟩ := hd
  have hf' : DataW.trod enc Try.prog W 0 (fun _ => true) true fuel 54 cs.toList = some (x, ps) := hfu
  obtain ⟨d, h1, h2⟩ := opens_Bk H enc W true fuel _ _ hf' hw
  exact ⟨d, by congr 1; rw [← h1], h2⟩

/-- api.Func, as it reads. -/
structure FnD where
  nm : ByteArray
  paramsA : Option Addr
  paramsc : Nat
  params : List Int
  res : Int
  regsA : Option Addr
  regsc : Nat
  regs : List Int
  blocksA : Option Addr
  blocksc : Nat
  blocks : List BkD
def FnD.cells (d : FnD) : List Value := [.string d.nm, .slice d.paramsA d.params.length d.paramsc, .int .i64 d.res, .slice d.regsA d.regs.length d.regsc, .slice d.blocksA d.blocks.length d.blocksc]
structure FnD.ok (w : World) (d : FnD) : Prop where
  nm : d.nm.size ≤ maxLen
  params : Rd w .i64 (.slice d.paramsA d.params.length d.paramsc) d.params
  paramsB : Fits d.params.length
  paramsI : ∀ z ∈ d.params, I6 z
  res : I6 d.res
  regs : Rd w .i64 (.slice d.regsA d.regs.length d.regsc) d.regs
  regsB : Fits d.regs.length
  regsI : ∀ z ∈ d.regs, I6 z
  blocks : RdN w 7 (.slice d.blocksA d.blocks.length d.blocksc) (d.blocks.map BkD.cells)
  blocksB : Fits d.blocks.length
  blocksO : ∀ e ∈ d.blocks, e.ok w
theorem FnD.len (d : FnD) : d.cells.length = 5 := rfl
theorem FnD.ok.below {w w' : World} {d : FnD} (h : d.ok w) (hb : Below w.heap.size w w') : d.ok w' :=
  ⟨h.nm, h.params.below' hb, h.paramsB, h.paramsI, h.res, h.regs.below' hb, h.regsB, h.regsI, h.blocks.below' hb, h.blocksB, fun e he => (h.blocksO e he).below hb⟩
set_option maxRecDepth 100000 in
theorem opens_Fn : OpensW Try.prog 27 (fun W cs => ∃ d : FnD, cs = d.cells ∧ d.ok W) := by
  intro H enc W held fuel cs x h hw
  obtain ⟨xs, n, _, rfl, hl, hlen, hf⟩ := DataW.trod_struct Try.underlying27 h
  rw [show Try.prog.cellsOf 27 = 5 by kernel_rfl] at hl
  match xs, hlen with
  | [y0, y1, y2, y3, y4], _ =>
    have e0 := trod_field 0 (show Try.prog.cellsOf 9 = 1 by kernel_rfl) (hf 0 _ rfl)
    have e1 := trod_field 1 (show Try.prog.cellsOf 22 = 1 by kernel_rfl) (hf 1 _ rfl)
    have w1 := fun q hq => hw q (weights_field Try.underlying27 (i := 1) rfl rfl q hq)
    have e2 := trod_field 2 (show Try.prog.cellsOf 23 = 1 by kernel_rfl) (hf 2 _ rfl)
    have e3 := trod_field 3 (show Try.prog.cellsOf 24 = 1 by kernel_rfl) (hf 3 _ rfl)
    have w3 := fun q hq => hw q (weights_field Try.underlying27 (i := 3) rfl rfl q hq)
    have e4 := trod_field 4 (show Try.prog.cellsOf 25 = 1 by kernel_rfl) (hf 4 _ rfl)
    have w4 := fun q hq => hw q (weights_field Try.underlying27 (i := 4) rfl rfl q hq)
    match cs, hl with
    | [c0, c1, c2, c3, c4], _ =>
      obtain ⟨z0, h0, _, g0⟩ := DataW.trod_string Try.underlying9 e0
      obtain ⟨v1, z1, h1, r1, s1, g1⟩ := opensW_i6 Try.underlying22 Try.underlying3 (by kernel_rfl) (by kernel_rfl) H enc W held n _ _ e1 w1
      obtain ⟨z2, h2, _, g2⟩ := DataW.trod_int Try.underlying23 e2
      obtain ⟨v3, z3, h3, r3, s3, g3⟩ := opensW_i6 Try.underlying24 Try.underlying23 (by kernel_rfl) (by kernel_rfl) H enc W held n _ _ e3 w3
      obtain ⟨v4, rows4, h4, r4, s4, k4⟩ := opensW_slice (m := 7) Try.underlying25 (by kernel_rfl) (by decide) (by kernel_rfl) opens_Bk H enc W held n _ _ e4 w4
      obtain ⟨z4, rfl, g4⟩ := map_of_each (f := BkD.cells) (p := fun d => d.ok W) rows4 k4
      simp only [List.drop, List.take, List.cons.injEq, and_true] at h0 h1 h2 h3 h4
      obtain ⟨A1, k1, q1, _⟩ := id r1
      subst q1
      obtain ⟨A3, k3, q3, _⟩ := id r3
      subst q3
      obtain ⟨_, A4, k4, q4, _⟩ := id r4
      subst q4
      rw [List.length_map] at r4 h4 s4
      subst h0 h1 h2 h3 h4
      exact ⟨⟨z0, A1, k1, z1, z2, A3, k3, z3, A4, k4, z4⟩, rfl, ⟨g0, r1, s1, g1, g2, r3, s3, g3, r4, s4, g4⟩⟩
theorem open_Fn {H : Type} {enc : TypeId × Value → H} {W : World} {r : Reach} {b0 : Nat} {v : Value} {x : DataW H} {ps : List MemPlace} (hval : Value.okWide Try.prog W r b0 27 v) (hd : DataW.Trod enc Try.prog W 0 (fun _ => true) true 27 v x ps) (hw : ∀ n ∈ x.weights Try.prog 27, n ≤ reachBytes) :
    ∃ d : FnD, v = .agg d.cells.toArray ∧ d.ok W := by
  obtain ⟨cs, rfl, _⟩ := okWide_struct Try.underlying27 hval
  obtain ⟨fuel, hfu⟩ := hd
  have hf' : DataW.trod enc Try.prog W 0 (fun _ => true) true fuel 27 cs.toList = some (x, ps) := hfu
  obtain ⟨d, h1, h2⟩ := opens_Fn H enc W true fuel _ _ hf' hw
  exact ⟨d, by congr 1; rw [← h1], h2⟩
end Go.Proofs.Ythnehmfdadgklaa

/-
  A module as data.
-/
import Derived.Test.YtojeaghljebbbaaDoorOpenN
import Derived.SizedLaws
import Derived.Test.YtojeaghljebbbaaDoorChecked
namespace Go.Proofs.YtojeaghljebbbaaDoor
open Go.RowKit Go.ChangeShapes Go.WideShapes

/-- A 64-bit integer. -/
def I6 (z : Int) : Prop := (Lit.int .i64 z).wf = true
theorem I6.range {z : Int} (h : I6 z) : -9223372036854775808 ≤ z ∧ z ≤ 9223372036854775807 := by
  simpa [I6, Lit.wf, IntKind.min, IntKind.max, IntKind.signed, IntKind.bits] using h
/-- The cells cs lie in block b from o on. -/
def CellsAt (w : World) (b o : Nat) (cs : List Value) : Prop := ∀ j z, cs[j]? = some z → w.cell? ⟨b, o + j, none⟩ = some z
theorem CellsAt.below {w w' : World} {b o : Nat} {cs : List Value} {B : Nat} (h : CellsAt w b o cs) (hb : Below B w w') (hB : b < B) : CellsAt w' b o cs :=
  fun j z hz => (hb.cell (p := ⟨b, o + j, none⟩) hB).trans (h j z hz)
section
variable {w w' : World} {m : Nat} {A : Option Addr} {n c : Nat} {rows : List (List Value)}
theorem RdN.len (h : RdN w m (.slice A n c) rows) : n = rows.length := by
  obtain ⟨_, A', c', e, _⟩ := h
  injection e
theorem RdN.room (h : RdN w m (.slice A n c) rows) : n ≤ c ∧ c ≤ maxLen := by
  obtain ⟨_, A', c', e, h1, h2, _⟩ := h
  injection e with _ e1 e2
  subst e1 e2
  exact ⟨h1, h2⟩
/-- Where an element of a row lies. -/
theorem RdN.row (h : RdN w m (.slice A n c) rows) {i : Nat} {r : List Value} (hi : rows[i]? = some r) : ∃ b off, A = some ⟨b, off, none⟩ ∧ b < w.heap.size ∧ CellsAt w b (off + i * m) r := by
  obtain ⟨_, A', c', e, _, _, hr⟩ := h
  injection e with e1 e2 e3
  subst e1
  have hlt := (List.getElem?_eq_some_iff.1 hi).1
  obtain ⟨b, off, rfl, hb, hc⟩ := hr (by omega)
  exact ⟨b, off, rfl, hb, fun j z hz => by rw [Nat.add_assoc]; exact hc i j r z hi hz⟩
theorem RdN.nil (m : Nat) : RdN w m (.slice none 0 0) [] := ⟨fun _ h => (by cases h), none, 0, rfl, Nat.le_refl _, Nat.zero_le _, fun h => absurd h (by simp)⟩
end
/-- A length that a process can hold, of elements of eight bytes or more. -/
def Fits (n : Nat) : Prop := n ≤ 17592186044416
theorem fits_of {n b : Nat} (h8 : 8 ≤ b) (h : n * b ≤ reachBytes) : Fits n := by
  have h3 : reachBytes ≤ 140737488355328 := by decide
  have h4 : n * 8 ≤ n * b := Nat.mul_le_mul_left n h8
  unfold Fits
  omega
/-- WHAT THE CELLS OF A TYPE READ AS, where all that is read fits a process's memory. -/
def OpensW (P : Program) (t : TypeId) (R : World → List Value → Prop) : Prop :=
  ∀ (H : Type) (enc : TypeId × Value → H) (W : World) (held : Bool) (fuel : Nat) (cs : List Value) (x : DataW H × List MemPlace), DataW.trod enc P W 0 (fun _ => true) held fuel t cs = some x → (∀ n ∈ x.1.weights P t, n ≤ reachBytes) → R W cs
section
variable {P : Program}
/-- A field of one cell or more. -/
theorem trod_field {H : Type} {enc : TypeId × Value → H} {W : World} {held : Bool} {n : Nat} {t : TypeId} {m : Nat} {cs : List Value} {y : DataW H × List MemPlace} (k : Nat)
    (hm : P.cellsOf t = m) (h : DataW.trod enc P W 0 (fun _ => true) held n t ((cs.drop k).take (P.cellsOf t)) = some y) : DataW.trod enc P W 0 (fun _ => true) held n t ((cs.drop k).take m) = some y := by rwa [hm] at h
theorem weights_all {H : Type} {e : TypeId} : ∀ {ds : List (DataW H)} {d : DataW H}, d ∈ ds → ∀ n ∈ d.weights P e, n ∈ DataW.weightsAll P e ds
  | a :: r, d, hd, n, hn => by
    simp only [DataW.weightsAll, List.mem_append]
    rcases List.mem_cons.1 hd with rfl | hd
    · exact .inl hn
    · exact .inr (weights_all hd n hn)
theorem weights_field {H : Type} {t : TypeId} {fs : Array Field} (ht : P.underlying t = some (.struct fs)) {xs : List (DataW H × List MemPlace)} {i : Nat} {f : Field} {y : DataW H × List MemPlace} (hf : fs.toList[i]? = some f) (hy : xs[i]? = some y) :
    ∀ n ∈ y.1.weights P f.type, n ∈ (DataW.agg (xs.map (·.1))).weights P t := by
  intro n hn
  simp only [DataW.weights, ht]
  exact DataW.weights_mem_each (j := i) (t := f.type) (d := y.1) (by rw [List.getElem?_map, hf]; rfl) (by rw [List.getElem?_map, hy]; rfl) n hn
theorem opensW_slice {t e : TypeId} {m : Nat} {R : World → List Value → Prop} (ht : P.underlying t = some (.slice e)) (hm : P.cellsOf e = m) (h0 : 0 < m) (h8 : decide (8 ≤ P.bytesOf e) = true) (he : OpensW P e R) :
    OpensW P t (fun W cs => ∃ v rows, cs = [v] ∧ RdN W m v rows ∧ Fits rows.length ∧ ∀ r ∈ rows, R W r) := by
  intro H enc W held fuel cs x h hw
  rcases Deep.open_slice ht h with ⟨rfl, _⟩ | ⟨a, len, cap, k, n, D, Pl, rfl, _, hl, hmx, hk, rfl, hx⟩
  · exact ⟨_, [], rfl, RdN.nil m, Nat.zero_le _, fun _ h => (by cases h)⟩
  · simp only [if_true] at hk
    obtain ⟨rows, hlen, hrows⟩ := list_of_each (p := fun i cs' => W.cells? 0 (a.add (i * m)) m = some cs' ∧ DataW.trod enc P W 0 (fun _ => true) held n e cs' = some (D i, Pl i)) len
      (fun i hi => by obtain ⟨cs', h1, h2⟩ := hx i (by omega); rw [hm] at h1; exact ⟨cs', h1, h2⟩)
    have hfit : Fits rows.length := by
      refine fits_of (b := P.bytesOf e) (of_decide_eq_true h8) ?_
      have h1 := hw _ (show (((List.range len).map D).length + ((List.range (k - len)).map fun j => D (len + j)).length) * P.bytesOf e ∈ _ by simp only [DataW.weights, ht]; exact List.mem_cons_self)
      rw [List.length_map, List.length_range, Nat.add_mul] at h1
      rw [hlen]
      omega
    refine ⟨_, rows, rfl, ⟨fun r hr => ?_, some a, cap, by rw [hlen], by omega, hmx, fun hn => ?_⟩, hfit, fun r hr => ?_⟩
    · obtain ⟨i, hi⟩ := List.getElem?_of_mem hr
      exact (World.cells?_some (hrows i r hi).1).2.1
    · obtain ⟨b, off, spot⟩ := a
      obtain ⟨r0, hr0⟩ : ∃ r, rows[0]? = some r := ⟨_, List.getElem?_eq_getElem hn⟩
      obtain ⟨_, h1, h2⟩ := World.cells?_some (hrows 0 _ hr0).1
      have hc0 := h2 0 h0
      obtain ⟨z0, hz0⟩ : ∃ z, r0[0]? = some z := ⟨_, List.getElem?_eq_getElem (by omega)⟩
      rw [hz0, Nat.zero_mul] at hc0
      have hspot : spot = none := by
        have := World.cell?_spot hc0
        simpa [Addr.add] using this
      subst hspot
      have add2 : ∀ i j, ((⟨b, off, none⟩ : Addr).add (i * m)).add j = ⟨b, off + (i * m + j), none⟩ := fun i j => by rw [add_plain, add_plain, Nat.add_assoc]
      refine ⟨b, off, rfl, ?_, fun i j r z hr hz => ?_⟩
      · have h0' := add2 0 0
        rw [Nat.zero_mul] at h0'
        rw [h0'] at hc0
        exact lt_of_cell hc0
      · obtain ⟨_, g1, g2⟩ := World.cells?_some (hrows i r hr).1
        have hj : j < m := by have := (List.getElem?_eq_some_iff.1 hz).1; omega
        have := g2 j hj
        rw [add2] at this
        rw [this, hz]
    · obtain ⟨i, hi⟩ := List.getElem?_of_mem hr
      refine he H enc W held n r _ (hrows i r hi).2 (fun q hq => hw q ?_)
      have hil : i < len := by have := (List.getElem?_eq_some_iff.1 hi).1; omega
      simp only [DataW.weights, ht]
      exact List.mem_cons_of_mem _ (List.mem_append.2 (.inl (weights_all (List.mem_map.2 ⟨i, List.mem_range.2 hil, rfl⟩) q hq)))
theorem opensW_of {t : TypeId} {R : World → List Value → Prop} (h : Opens P t R) : OpensW P t R := fun H enc W held fuel cs x hx _ => h H enc W held fuel cs x hx
/-- A slice of integers. -/
theorem opensW_i6 {t e : TypeId} {k : IntKind} (ht : P.underlying t = some (.slice e)) (he : P.underlying e = some (.int k)) (hm : P.cellsOf e = 1) (h8 : decide (8 ≤ P.bytesOf e) = true) :
    OpensW P t (fun W cs => ∃ v l, cs = [v] ∧ Rd W k v l ∧ Fits l.length ∧ ∀ z ∈ l, (Lit.int k z).wf = true) := by
  intro H enc W held fuel cs x h hw
  obtain ⟨v, rows, h1, h2, h4, h3⟩ := opensW_slice ht hm (by omega) h8 (opensW_of (opens_int he)) H enc W held fuel cs x h hw
  obtain ⟨l, rfl, hl⟩ := map_of_each (f := fun z => [Value.int k z]) (p := fun z => (Lit.int k z).wf = true) rows h3
  refine ⟨v, l, h1, RdV.toI (RdN.one ?_), by simpa using h4, hl⟩
  rw [List.map_map]
  exact h2
end
end Go.Proofs.YtojeaghljebbbaaDoor
namespace Go.Proofs.YtojeaghljebbbaaDoor
open Go.RowKit Go.ChangeShapes Go.WideShapes

/-- api.Instr, as it reads. -/
structure InD where
  op : Int
  ty : Int
  dst : Int
  argsA : Option Addr
  argsc : Nat
  args : List Int
  imm : Int
  sym : Int
  el : Int
  nw : Bool
def InD.cells (d : InD) : List Value := [.int .i64 d.op, .int .i64 d.ty, .int .i64 d.dst, .slice d.argsA d.args.length d.argsc, .int .i64 d.imm, .int .i64 d.sym, .int .i64 d.el, .bool d.nw]
structure InD.ok (w : World) (d : InD) : Prop where
  op : I6 d.op
  ty : I6 d.ty
  dst : I6 d.dst
  args : Rd w .i64 (.slice d.argsA d.args.length d.argsc) d.args
  argsB : Fits d.args.length
  argsI : ∀ z ∈ d.args, I6 z
  imm : I6 d.imm
  sym : I6 d.sym
  el : I6 d.el
theorem InD.len (d : InD) : d.cells.length = 8 := rfl
theorem InD.ok.below {w w' : World} {d : InD} (h : d.ok w) (hb : Below w.heap.size w w') : d.ok w' :=
  ⟨h.op, h.ty, h.dst, h.args.below' hb, h.argsB, h.argsI, h.imm, h.sym, h.el⟩
set_option maxRecDepth 100000 in
theorem opens_In : OpensW Tryd.prog 98 (fun W cs => ∃ d : InD, cs = d.cells ∧ d.ok W) := by
  intro H enc W held fuel cs x h hw
  obtain ⟨xs, n, _, rfl, hl, hlen, hf⟩ := DataW.trod_struct Tryd.underlying98 h
  rw [show Tryd.prog.cellsOf 98 = 8 by kernel_rfl] at hl
  match xs, hlen with
  | [y0, y1, y2, y3, y4, y5, y6, y7], _ =>
    have e0 := trod_field 0 (show Tryd.prog.cellsOf 3 = 1 by kernel_rfl) (hf 0 _ rfl)
    have e1 := trod_field 1 (show Tryd.prog.cellsOf 22 = 1 by kernel_rfl) (hf 1 _ rfl)
    have e2 := trod_field 2 (show Tryd.prog.cellsOf 3 = 1 by kernel_rfl) (hf 2 _ rfl)
    have e3 := trod_field 3 (show Tryd.prog.cellsOf 41 = 1 by kernel_rfl) (hf 3 _ rfl)
    have w3 := fun q hq => hw q (weights_field Tryd.underlying98 (i := 3) rfl rfl q hq)
    have e4 := trod_field 4 (show Tryd.prog.cellsOf 2 = 1 by kernel_rfl) (hf 4 _ rfl)
    have e5 := trod_field 5 (show Tryd.prog.cellsOf 3 = 1 by kernel_rfl) (hf 5 _ rfl)
    have e6 := trod_field 6 (show Tryd.prog.cellsOf 22 = 1 by kernel_rfl) (hf 6 _ rfl)
    have e7 := trod_field 7 (show Tryd.prog.cellsOf 4 = 1 by kernel_rfl) (hf 7 _ rfl)
    match cs, hl with
    | [c0, c1, c2, c3, c4, c5, c6, c7], _ =>
      obtain ⟨z0, h0, _, g0⟩ := DataW.trod_int Tryd.underlying3 e0
      obtain ⟨z1, h1, _, g1⟩ := DataW.trod_int Tryd.underlying22 e1
      obtain ⟨z2, h2, _, g2⟩ := DataW.trod_int Tryd.underlying3 e2
      obtain ⟨v3, z3, h3, r3, s3, g3⟩ := opensW_i6 Tryd.underlying41 Tryd.underlying3 (by kernel_rfl) (by kernel_rfl) H enc W held n _ _ e3 w3
      obtain ⟨z4, h4, _, g4⟩ := DataW.trod_int Tryd.underlying2 e4
      obtain ⟨z5, h5, _, g5⟩ := DataW.trod_int Tryd.underlying3 e5
      obtain ⟨z6, h6, _, g6⟩ := DataW.trod_int Tryd.underlying22 e6
      obtain ⟨z7, h7, _⟩ := DataW.trod_bool Tryd.underlying4 e7
      simp only [List.drop, List.take, List.cons.injEq, and_true] at h0 h1 h2 h3 h4 h5 h6 h7
      obtain ⟨A3, k3, q3, _⟩ := id r3
      subst q3
      subst h0 h1 h2 h3 h4 h5 h6 h7
      exact ⟨⟨z0, z1, z2, A3, k3, z3, z4, z5, z6, z7⟩, rfl, ⟨g0, g1, g2, r3, s3, g3, g4, g5, g6⟩⟩
theorem open_In {H : Type} {enc : TypeId × Value → H} {W : World} {r : Reach} {b0 : Nat} {v : Value} {x : DataW H} {ps : List MemPlace} (hval : Value.okWide Tryd.prog W r b0 98 v) (hd : DataW.Trod enc Tryd.prog W 0 (fun _ => true) true 98 v x ps) (hw : ∀ n ∈ x.weights Tryd.prog 98, n ≤ reachBytes) :
    ∃ d : InD, v = .agg d.cells.toArray ∧ d.ok W := by
  obtain ⟨cs, rfl, _⟩ := okWide_struct Tryd.underlying98 hval
  obtain ⟨fuel, hfu⟩ := hd
  have hf' : DataW.trod enc Tryd.prog W 0 (fun _ => true) true fuel 98 cs.toList = some (x, ps) := hfu
  obtain ⟨d, h1, h2⟩ := opens_In H enc W true fuel _ _ hf' hw
  exact ⟨d, by congr 1; rw [← h1], h2⟩

/-- api.Edge, as it reads. -/
structure EdD where
  blk : Int
  argsA : Option Addr
  argsc : Nat
  args : List Int
def EdD.cells (d : EdD) : List Value := [.int .i64 d.blk, .slice d.argsA d.args.length d.argsc]
structure EdD.ok (w : World) (d : EdD) : Prop where
  blk : I6 d.blk
  args : Rd w .i64 (.slice d.argsA d.args.length d.argsc) d.args
  argsB : Fits d.args.length
  argsI : ∀ z ∈ d.args, I6 z
theorem EdD.len (d : EdD) : d.cells.length = 2 := rfl
theorem EdD.ok.below {w w' : World} {d : EdD} (h : d.ok w) (hb : Below w.heap.size w w') : d.ok w' :=
  ⟨h.blk, h.args.below' hb, h.argsB, h.argsI⟩
set_option maxRecDepth 100000 in
theorem opens_Ed : OpensW Tryd.prog 100 (fun W cs => ∃ d : EdD, cs = d.cells ∧ d.ok W) := by
  intro H enc W held fuel cs x h hw
  obtain ⟨xs, n, _, rfl, hl, hlen, hf⟩ := DataW.trod_struct Tryd.underlying100 h
  rw [show Tryd.prog.cellsOf 100 = 2 by kernel_rfl] at hl
  match xs, hlen with
  | [y0, y1], _ =>
    have e0 := trod_field 0 (show Tryd.prog.cellsOf 3 = 1 by kernel_rfl) (hf 0 _ rfl)
    have e1 := trod_field 1 (show Tryd.prog.cellsOf 41 = 1 by kernel_rfl) (hf 1 _ rfl)
    have w1 := fun q hq => hw q (weights_field Tryd.underlying100 (i := 1) rfl rfl q hq)
    match cs, hl with
    | [c0, c1], _ =>
      obtain ⟨z0, h0, _, g0⟩ := DataW.trod_int Tryd.underlying3 e0
      obtain ⟨v1, z1, h1, r1, s1, g1⟩ := opensW_i6 Tryd.underlying41 Tryd.underlying3 (by kernel_rfl) (by kernel_rfl) H enc W held n _ _ e1 w1
      simp only [List.drop, List.take, List.cons.injEq, and_true] at h0 h1
      obtain ⟨A1, k1, q1, _⟩ := id r1
      subst q1
      subst h0 h1
      exact ⟨⟨z0, A1, k1, z1⟩, rfl, ⟨g0, r1, s1, g1⟩⟩
theorem open_Ed {H : Type} {enc : TypeId × Value → H} {W : World} {r : Reach} {b0 : Nat} {v : Value} {x : DataW H} {ps : List MemPlace} (hval : Value.okWide Tryd.prog W r b0 100 v) (hd : DataW.Trod enc Tryd.prog W 0 (fun _ => true) true 100 v x ps) (hw : ∀ n ∈ x.weights Tryd.prog 100, n ≤ reachBytes) :
    ∃ d : EdD, v = .agg d.cells.toArray ∧ d.ok W := by
  obtain ⟨cs, rfl, _⟩ := okWide_struct Tryd.underlying100 hval
  obtain ⟨fuel, hfu⟩ := hd
  have hf' : DataW.trod enc Tryd.prog W 0 (fun _ => true) true fuel 100 cs.toList = some (x, ps) := hfu
  obtain ⟨d, h1, h2⟩ := opens_Ed H enc W true fuel _ _ hf' hw
  exact ⟨d, by congr 1; rw [← h1], h2⟩

/-- api.Terminator, as it reads. -/
structure TmD where
  kind : Int
  argsA : Option Addr
  argsc : Nat
  args : List Int
  casesA : Option Addr
  casesc : Nat
  cases : List Int
  succsA : Option Addr
  succsc : Nat
  succs : List EdD
  sym : Int
def TmD.cells (d : TmD) : List Value := [.int .i64 d.kind, .slice d.argsA d.args.length d.argsc, .slice d.casesA d.cases.length d.casesc, .slice d.succsA d.succs.length d.succsc, .int .i64 d.sym]
structure TmD.ok (w : World) (d : TmD) : Prop where
  kind : I6 d.kind
  args : Rd w .i64 (.slice d.argsA d.args.length d.argsc) d.args
  argsB : Fits d.args.length
  argsI : ∀ z ∈ d.args, I6 z
  cases : Rd w .i64 (.slice d.casesA d.cases.length d.casesc) d.cases
  casesB : Fits d.cases.length
  casesI : ∀ z ∈ d.cases, I6 z
  succs : RdN w 2 (.slice d.succsA d.succs.length d.succsc) (d.succs.map EdD.cells)
  succsB : Fits d.succs.length
  succsO : ∀ e ∈ d.succs, e.ok w
  sym : I6 d.sym
theorem TmD.len (d : TmD) : d.cells.length = 5 := rfl
theorem TmD.ok.below {w w' : World} {d : TmD} (h : d.ok w) (hb : Below w.heap.size w w') : d.ok w' :=
  ⟨h.kind, h.args.below' hb, h.argsB, h.argsI, h.cases.below' hb, h.casesB, h.casesI, h.succs.below' hb, h.succsB, fun e he => (h.succsO e he).below hb, h.sym⟩
set_option maxRecDepth 100000 in
theorem opens_Tm : OpensW Tryd.prog 58 (fun W cs => ∃ d : TmD, cs = d.cells ∧ d.ok W) := by
  intro H enc W held fuel cs x h hw
  obtain ⟨xs, n, _, rfl, hl, hlen, hf⟩ := DataW.trod_struct Tryd.underlying58 h
  rw [show Tryd.prog.cellsOf 58 = 5 by kernel_rfl] at hl
  match xs, hlen with
  | [y0, y1, y2, y3, y4], _ =>
    have e0 := trod_field 0 (show Tryd.prog.cellsOf 3 = 1 by kernel_rfl) (hf 0 _ rfl)
    have e1 := trod_field 1 (show Tryd.prog.cellsOf 41 = 1 by kernel_rfl) (hf 1 _ rfl)
    have w1 := fun q hq => hw q (weights_field Tryd.underlying58 (i := 1) rfl rfl q hq)
    have e2 := trod_field 2 (show Tryd.prog.cellsOf 55 = 1 by kernel_rfl) (hf 2 _ rfl)
    have w2 := fun q hq => hw q (weights_field Tryd.underlying58 (i := 2) rfl rfl q hq)
    have e3 := trod_field 3 (show Tryd.prog.cellsOf 56 = 1 by kernel_rfl) (hf 3 _ rfl)
    have w3 := fun q hq => hw q (weights_field Tryd.underlying58 (i := 3) rfl rfl q hq)
    have e4 := trod_field 4 (show Tryd.prog.cellsOf 3 = 1 by kernel_rfl) (hf 4 _ rfl)
    match cs, hl with
    | [c0, c1, c2, c3, c4], _ =>
      obtain ⟨z0, h0, _, g0⟩ := DataW.trod_int Tryd.underlying3 e0
      obtain ⟨v1, z1, h1, r1, s1, g1⟩ := opensW_i6 Tryd.underlying41 Tryd.underlying3 (by kernel_rfl) (by kernel_rfl) H enc W held n _ _ e1 w1
      obtain ⟨v2, z2, h2, r2, s2, g2⟩ := opensW_i6 Tryd.underlying55 Tryd.underlying2 (by kernel_rfl) (by kernel_rfl) H enc W held n _ _ e2 w2
      obtain ⟨v3, rows3, h3, r3, s3, k3⟩ := opensW_slice (m := 2) Tryd.underlying56 (by kernel_rfl) (by decide) (by kernel_rfl) opens_Ed H enc W held n _ _ e3 w3
      obtain ⟨z3, rfl, g3⟩ := map_of_each (f := EdD.cells) (p := fun d => d.ok W) rows3 k3
      obtain ⟨z4, h4, _, g4⟩ := DataW.trod_int Tryd.underlying3 e4
      simp only [List.drop, List.take, List.cons.injEq, and_true] at h0 h1 h2 h3 h4
      obtain ⟨A1, k1, q1, _⟩ := id r1
      subst q1
      obtain ⟨A2, k2, q2, _⟩ := id r2
      subst q2
      obtain ⟨_, A3, k3, q3, _⟩ := id r3
      subst q3
      rw [List.length_map] at r3 h3 s3
      subst h0 h1 h2 h3 h4
      exact ⟨⟨z0, A1, k1, z1, A2, k2, z2, A3, k3, z3, z4⟩, rfl, ⟨g0, r1, s1, g1, r2, s2, g2, r3, s3, g3, g4⟩⟩
theorem open_Tm {H : Type} {enc : TypeId × Value → H} {W : World} {r : Reach} {b0 : Nat} {v : Value} {x : DataW H} {ps : List MemPlace} (hval : Value.okWide Tryd.prog W r b0 58 v) (hd : DataW.Trod enc Tryd.prog W 0 (fun _ => true) true 58 v x ps) (hw : ∀ n ∈ x.weights Tryd.prog 58, n ≤ reachBytes) :
    ∃ d : TmD, v = .agg d.cells.toArray ∧ d.ok W := by
  obtain ⟨cs, rfl, _⟩ := okWide_struct Tryd.underlying58 hval
  obtain ⟨fuel, hfu⟩ := hd
  have hf' : DataW.trod enc Tryd.prog W 0 (fun _ => true) true fuel 58 cs.toList = some (x, ps) := hfu
  obtain ⟨d, h1, h2⟩ := opens_Tm H enc W true fuel _ _ hf' hw
  exact ⟨d, by congr 1; rw [← h1], h2⟩

/-- api.Block, as it reads. -/
structure BkD where
  paramsA : Option Addr
  paramsc : Nat
  params : List Int
  insA : Option Addr
  insc : Nat
  ins : List InD
  term : TmD
def BkD.cells (d : BkD) : List Value := [.slice d.paramsA d.params.length d.paramsc, .slice d.insA d.ins.length d.insc] ++ d.term.cells
structure BkD.ok (w : World) (d : BkD) : Prop where
  params : Rd w .i64 (.slice d.paramsA d.params.length d.paramsc) d.params
  paramsB : Fits d.params.length
  paramsI : ∀ z ∈ d.params, I6 z
  ins : RdN w 8 (.slice d.insA d.ins.length d.insc) (d.ins.map InD.cells)
  insB : Fits d.ins.length
  insO : ∀ e ∈ d.ins, e.ok w
  term : d.term.ok w
theorem BkD.len (d : BkD) : d.cells.length = 7 := rfl
theorem BkD.ok.below {w w' : World} {d : BkD} (h : d.ok w) (hb : Below w.heap.size w w') : d.ok w' :=
  ⟨h.params.below' hb, h.paramsB, h.paramsI, h.ins.below' hb, h.insB, fun e he => (h.insO e he).below hb, h.term.below hb⟩
set_option maxRecDepth 100000 in
theorem opens_Bk : OpensW Tryd.prog 60 (fun W cs => ∃ d : BkD, cs = d.cells ∧ d.ok W) := by
  intro H enc W held fuel cs x h hw
  obtain ⟨xs, n, _, rfl, hl, hlen, hf⟩ := DataW.trod_struct Tryd.underlying60 h
  rw [show Tryd.prog.cellsOf 60 = 7 by kernel_rfl] at hl
  match xs, hlen with
  | [y0, y1, y2], _ =>
    have e0 := trod_field 0 (show Tryd.prog.cellsOf 41 = 1 by kernel_rfl) (hf 0 _ rfl)
    have w0 := fun q hq => hw q (weights_field Tryd.underlying60 (i := 0) rfl rfl q hq)
    have e1 := trod_field 1 (show Tryd.prog.cellsOf 54 = 1 by kernel_rfl) (hf 1 _ rfl)
    have w1 := fun q hq => hw q (weights_field Tryd.underlying60 (i := 1) rfl rfl q hq)
    have e2 := trod_field 2 (show Tryd.prog.cellsOf 58 = 5 by kernel_rfl) (hf 2 _ rfl)
    have w2 := fun q hq => hw q (weights_field Tryd.underlying60 (i := 2) rfl rfl q hq)
    match cs, hl with
    | [c0, c1, c2, c3, c4, c5, c6], _ =>
      obtain ⟨v0, z0, h0, r0, s0, g0⟩ := opensW_i6 Tryd.underlying41 Tryd.underlying3 (by kernel_rfl) (by kernel_rfl) H enc W held n _ _ e0 w0
      obtain ⟨v1, rows1, h1, r1, s1, k1⟩ := opensW_slice (m := 8) Tryd.underlying54 (by kernel_rfl) (by decide) (by kernel_rfl) opens_In H enc W held n _ _ e1 w1
      obtain ⟨z1, rfl, g1⟩ := map_of_each (f := InD.cells) (p := fun d => d.ok W) rows1 k1
      obtain ⟨z2, h2, g2⟩ := opens_Tm H enc W held n _ _ e2 w2
      simp only [List.drop, List.take, List.cons.injEq, and_true] at h0 h1 h2
      obtain ⟨A0, k0, q0, _⟩ := id r0
      subst q0
      obtain ⟨_, A1, k1, q1, _⟩ := id r1
      subst q1
      rw [List.length_map] at r1 h1 s1
      subst h0 h1
      exact ⟨⟨A0, k0, z0, A1, k1, z1, z2⟩, (by show _ = _ ++ z2.cells; rw [← h2]; rfl), ⟨r0, s0, g0, r1, s1, g1, g2⟩⟩
theorem open_Bk {H : Type} {enc : TypeId × Value → H} {W : World} {r : Reach} {b0 : Nat} {v : Value} {x : DataW H} {ps : List MemPlace} (hval : Value.okWide Tryd.prog W r b0 60 v) (hd : DataW.Trod enc Tryd.prog W 0 (fun _ => true) true 60 v x ps) (hw : ∀ n ∈ x.weights Tryd.prog 60, n ≤ reachBytes) :
    ∃ d : BkD, v = .agg d.cells.toArray ∧ d.ok W := by
  obtain ⟨cs, rfl, _⟩ := okWide_struct Tryd.underlying60 hval
  obtain ⟨fuel, hfu⟩ := hd
  have hf' : DataW.trod enc Tryd.prog W 0 (fun _ => true) true fuel 60 cs.toList = some (x, ps) := hfu
  obtain ⟨d, h1, h2⟩ := opens_Bk H enc W true fuel _ _ hf' hw
  exact ⟨d, by congr 1; rw [← h1], h2⟩

/-- api.Func, as it reads. -/
structure FnD where
  nm : ByteArray
  paramsA : Option Addr
  paramsc : Nat
  params : List Int
  res : Int
  regsA : Option Addr
  regsc : Nat
  regs : List Int
  blocksA : Option Addr
  blocksc : Nat
  blocks : List BkD
def FnD.cells (d : FnD) : List Value := [.string d.nm, .slice d.paramsA d.params.length d.paramsc, .int .i64 d.res, .slice d.regsA d.regs.length d.regsc, .slice d.blocksA d.blocks.length d.blocksc]
structure FnD.ok (w : World) (d : FnD) : Prop where
  nm : d.nm.size ≤ maxLen
  params : Rd w .i64 (.slice d.paramsA d.params.length d.paramsc) d.params
  paramsB : Fits d.params.length
  paramsI : ∀ z ∈ d.params, I6 z
  res : I6 d.res
  regs : Rd w .i64 (.slice d.regsA d.regs.length d.regsc) d.regs
  regsB : Fits d.regs.length
  regsI : ∀ z ∈ d.regs, I6 z
  blocks : RdN w 7 (.slice d.blocksA d.blocks.length d.blocksc) (d.blocks.map BkD.cells)
  blocksB : Fits d.blocks.length
  blocksO : ∀ e ∈ d.blocks, e.ok w
theorem FnD.len (d : FnD) : d.cells.length = 5 := rfl
theorem FnD.ok.below {w w' : World} {d : FnD} (h : d.ok w) (hb : Below w.heap.size w w') : d.ok w' :=
  ⟨h.nm, h.params.below' hb, h.paramsB, h.paramsI, h.res, h.regs.below' hb, h.regsB, h.regsI, h.blocks.below' hb, h.blocksB, fun e he => (h.blocksO e he).below hb⟩
set_option maxRecDepth 100000 in
theorem opens_Fn : OpensW Tryd.prog 45 (fun W cs => ∃ d : FnD, cs = d.cells ∧ d.ok W) := by
  intro H enc W held fuel cs x h hw
  obtain ⟨xs, n, _, rfl, hl, hlen, hf⟩ := DataW.trod_struct Tryd.underlying45 h
  rw [show Tryd.prog.cellsOf 45 = 5 by kernel_rfl] at hl
  match xs, hlen with
  | [y0, y1, y2, y3, y4], _ =>
    have e0 := trod_field 0 (show Tryd.prog.cellsOf 9 = 1 by kernel_rfl) (hf 0 _ rfl)
    have e1 := trod_field 1 (show Tryd.prog.cellsOf 41 = 1 by kernel_rfl) (hf 1 _ rfl)
    have w1 := fun q hq => hw q (weights_field Tryd.underlying45 (i := 1) rfl rfl q hq)
    have e2 := trod_field 2 (show Tryd.prog.cellsOf 22 = 1 by kernel_rfl) (hf 2 _ rfl)
    have e3 := trod_field 3 (show Tryd.prog.cellsOf 42 = 1 by kernel_rfl) (hf 3 _ rfl)
    have w3 := fun q hq => hw q (weights_field Tryd.underlying45 (i := 3) rfl rfl q hq)
    have e4 := trod_field 4 (show Tryd.prog.cellsOf 43 = 1 by kernel_rfl) (hf 4 _ rfl)
    have w4 := fun q hq => hw q (weights_field Tryd.underlying45 (i := 4) rfl rfl q hq)
    match cs, hl with
    | [c0, c1, c2, c3, c4], _ =>
      obtain ⟨z0, h0, _, g0⟩ := DataW.trod_string Tryd.underlying9 e0
      obtain ⟨v1, z1, h1, r1, s1, g1⟩ := opensW_i6 Tryd.underlying41 Tryd.underlying3 (by kernel_rfl) (by kernel_rfl) H enc W held n _ _ e1 w1
      obtain ⟨z2, h2, _, g2⟩ := DataW.trod_int Tryd.underlying22 e2
      obtain ⟨v3, z3, h3, r3, s3, g3⟩ := opensW_i6 Tryd.underlying42 Tryd.underlying22 (by kernel_rfl) (by kernel_rfl) H enc W held n _ _ e3 w3
      obtain ⟨v4, rows4, h4, r4, s4, k4⟩ := opensW_slice (m := 7) Tryd.underlying43 (by kernel_rfl) (by decide) (by kernel_rfl) opens_Bk H enc W held n _ _ e4 w4
      obtain ⟨z4, rfl, g4⟩ := map_of_each (f := BkD.cells) (p := fun d => d.ok W) rows4 k4
      simp only [List.drop, List.take, List.cons.injEq, and_true] at h0 h1 h2 h3 h4
      obtain ⟨A1, k1, q1, _⟩ := id r1
      subst q1
      obtain ⟨A3, k3, q3, _⟩ := id r3
      subst q3
      obtain ⟨_, A4, k4, q4, _⟩ := id r4
      subst q4
      rw [List.length_map] at r4 h4 s4
      subst h0 h1 h2 h3 h4
      exact ⟨⟨z0, A1, k1, z1, z2, A3, k3, z3, A4, k4, z4⟩, rfl, ⟨g0, r1, s1, g1, g2, r3, s3, g3, r4, s4, g4⟩⟩
theorem open_Fn {H : Type} {enc : TypeId × Value → H} {W : World} {r : Reach} {b0 : Nat} {v : Value} {x : DataW H} {ps : List MemPlace} (hval : Value.okWide Tryd.prog W r b0 45 v) (hd : DataW.Trod enc Tryd.prog W 0 (fun _ => true) true 45 v x ps) (hw : ∀ n ∈ x.weights Tryd.prog 45, n ≤ reachBytes) :
    ∃ d : FnD, v = .agg d.cells.toArray ∧ d.ok W := by
  obtain ⟨cs, rfl, _⟩ := okWide_struct Tryd.underlying45 hval
  obtain ⟨fuel, hfu⟩ := hd
  have hf' : DataW.trod enc Tryd.prog W 0 (fun _ => true) true fuel 45 cs.toList = some (x, ps) := hfu
  obtain ⟨d, h1, h2⟩ := opens_Fn H enc W true fuel _ _ hf' hw
  exact ⟨d, by congr 1; rw [← h1], h2⟩
end Go.Proofs.YtojeaghljebbbaaDoor
namespace Go.Proofs.YtojeaghljebbbaaDoor
open Go.RowKit Go.ChangeShapes Go.WideShapes

/-- api.Global, as it reads. -/
structure GlD where
  nm : ByteArray
  el : Int
  ln : Int
  initA : Option Addr
  initc : Nat
  init : List Int
  ro : Bool
def GlD.cells (d : GlD) : List Value := [.string d.nm, .int .i64 d.el, .int .i64 d.ln, .slice d.initA d.init.length d.initc, .bool d.ro]
structure GlD.ok (w : World) (d : GlD) : Prop where
  nm : d.nm.size ≤ maxLen
  el : I6 d.el
  ln : I6 d.ln
  init : Rd w .i64 (.slice d.initA d.init.length d.initc) d.init
  initB : Fits d.init.length
  initI : ∀ z ∈ d.init, I6 z
theorem GlD.len (d : GlD) : d.cells.length = 5 := rfl
theorem GlD.ok.below {w w' : World} {d : GlD} (h : d.ok w) (hb : Below w.heap.size w w') : d.ok w' :=
  ⟨h.nm, h.el, h.ln, h.init.below' hb, h.initB, h.initI⟩
set_option maxRecDepth 100000 in
theorem opens_Gl : OpensW Tryd.prog 96 (fun W cs => ∃ d : GlD, cs = d.cells ∧ d.ok W) := by
  intro H enc W held fuel cs x h hw
  obtain ⟨xs, n, _, rfl, hl, hlen, hf⟩ := DataW.trod_struct Tryd.underlying96 h
  rw [show Tryd.prog.cellsOf 96 = 5 by kernel_rfl] at hl
  match xs, hlen with
  | [y0, y1, y2, y3, y4], _ =>
    have e0 := trod_field 0 (show Tryd.prog.cellsOf 9 = 1 by kernel_rfl) (hf 0 _ rfl)
    have e1 := trod_field 1 (show Tryd.prog.cellsOf 22 = 1 by kernel_rfl) (hf 1 _ rfl)
    have e2 := trod_field 2 (show Tryd.prog.cellsOf 3 = 1 by kernel_rfl) (hf 2 _ rfl)
    have e3 := trod_field 3 (show Tryd.prog.cellsOf 55 = 1 by kernel_rfl) (hf 3 _ rfl)
    have w3 := fun q hq => hw q (weights_field Tryd.underlying96 (i := 3) rfl rfl q hq)
    have e4 := trod_field 4 (show Tryd.prog.cellsOf 4 = 1 by kernel_rfl) (hf 4 _ rfl)
    match cs, hl with
    | [c0, c1, c2, c3, c4], _ =>
      obtain ⟨z0, h0, _, g0⟩ := DataW.trod_string Tryd.underlying9 e0
      obtain ⟨z1, h1, _, g1⟩ := DataW.trod_int Tryd.underlying22 e1
      obtain ⟨z2, h2, _, g2⟩ := DataW.trod_int Tryd.underlying3 e2
      obtain ⟨v3, z3, h3, r3, s3, g3⟩ := opensW_i6 Tryd.underlying55 Tryd.underlying2 (by kernel_rfl) (by kernel_rfl) H enc W held n _ _ e3 w3
      obtain ⟨z4, h4, _⟩ := DataW.trod_bool Tryd.underlying4 e4
      simp only [List.drop, List.take, List.cons.injEq, and_true] at h0 h1 h2 h3 h4
      obtain ⟨A3, k3, q3, _⟩ := id r3
      subst q3
      subst h0 h1 h2 h3 h4
      exact ⟨⟨z0, z1, z2, A3, k3, z3, z4⟩, rfl, ⟨g0, g1, g2, r3, s3, g3⟩⟩
theorem open_Gl {H : Type} {enc : TypeId × Value → H} {W : World} {r : Reach} {b0 : Nat} {v : Value} {x : DataW H} {ps : List MemPlace} (hval : Value.okWide Tryd.prog W r b0 96 v) (hd : DataW.Trod enc Tryd.prog W 0 (fun _ => true) true 96 v x ps) (hw : ∀ n ∈ x.weights Tryd.prog 96, n ≤ reachBytes) :
    ∃ d : GlD, v = .agg d.cells.toArray ∧ d.ok W := by
  obtain ⟨cs, rfl, _⟩ := okWide_struct Tryd.underlying96 hval
  obtain ⟨fuel, hfu⟩ := hd
  have hf' : DataW.trod enc Tryd.prog W 0 (fun _ => true) true fuel 96 cs.toList = some (x, ps) := hfu
  obtain ⟨d, h1, h2⟩ := opens_Gl H enc W true fuel _ _ hf' hw
  exact ⟨d, by congr 1; rw [← h1], h2⟩

/-- api.Module, as it reads. -/
structure MdD where
  glsA : Option Addr
  glsc : Nat
  gls : List GlD
  fnsA : Option Addr
  fnsc : Nat
  fns : List FnD
def MdD.cells (d : MdD) : List Value := [.slice d.glsA d.gls.length d.glsc, .slice d.fnsA d.fns.length d.fnsc]
structure MdD.ok (w : World) (d : MdD) : Prop where
  gls : RdN w 5 (.slice d.glsA d.gls.length d.glsc) (d.gls.map GlD.cells)
  glsB : Fits d.gls.length
  glsO : ∀ e ∈ d.gls, e.ok w
  fns : RdN w 5 (.slice d.fnsA d.fns.length d.fnsc) (d.fns.map FnD.cells)
  fnsB : Fits d.fns.length
  fnsO : ∀ e ∈ d.fns, e.ok w
theorem MdD.len (d : MdD) : d.cells.length = 2 := rfl
theorem MdD.ok.below {w w' : World} {d : MdD} (h : d.ok w) (hb : Below w.heap.size w w') : d.ok w' :=
  ⟨h.gls.below' hb, h.glsB, fun e he => (h.glsO e he).below hb, h.fns.below' hb, h.fnsB, fun e he => (h.fnsO e he).below hb⟩
set_option maxRecDepth 100000 in
theorem opens_Md : OpensW Tryd.prog 40 (fun W cs => ∃ d : MdD, cs = d.cells ∧ d.ok W) := by
  intro H enc W held fuel cs x h hw
  obtain ⟨xs, n, _, rfl, hl, hlen, hf⟩ := DataW.trod_struct Tryd.underlying40 h
  rw [show Tryd.prog.cellsOf 40 = 2 by kernel_rfl] at hl
  match xs, hlen with
  | [y0, y1], _ =>
    have e0 := trod_field 0 (show Tryd.prog.cellsOf 37 = 1 by kernel_rfl) (hf 0 _ rfl)
    have w0 := fun q hq => hw q (weights_field Tryd.underlying40 (i := 0) rfl rfl q hq)
    have e1 := trod_field 1 (show Tryd.prog.cellsOf 38 = 1 by kernel_rfl) (hf 1 _ rfl)
    have w1 := fun q hq => hw q (weights_field Tryd.underlying40 (i := 1) rfl rfl q hq)
    match cs, hl with
    | [c0, c1], _ =>
      obtain ⟨v0, rows0, h0, r0, s0, k0⟩ := opensW_slice (m := 5) Tryd.underlying37 (by kernel_rfl) (by decide) (by kernel_rfl) opens_Gl H enc W held n _ _ e0 w0
      obtain ⟨z0, rfl, g0⟩ := map_of_each (f := GlD.cells) (p := fun d => d.ok W) rows0 k0
      obtain ⟨v1, rows1, h1, r1, s1, k1⟩ := opensW_slice (m := 5) Tryd.underlying38 (by kernel_rfl) (by decide) (by kernel_rfl) opens_Fn H enc W held n _ _ e1 w1
      obtain ⟨z1, rfl, g1⟩ := map_of_each (f := FnD.cells) (p := fun d => d.ok W) rows1 k1
      simp only [List.drop, List.take, List.cons.injEq, and_true] at h0 h1
      obtain ⟨_, A0, k0, q0, _⟩ := id r0
      subst q0
      rw [List.length_map] at r0 h0 s0
      obtain ⟨_, A1, k1, q1, _⟩ := id r1
      subst q1
      rw [List.length_map] at r1 h1 s1
      subst h0 h1
      exact ⟨⟨A0, k0, z0, A1, k1, z1⟩, rfl, ⟨r0, s0, g0, r1, s1, g1⟩⟩
theorem open_Md {H : Type} {enc : TypeId × Value → H} {W : World} {r : Reach} {b0 : Nat} {v : Value} {x : DataW H} {ps : List MemPlace} (hval : Value.okWide Tryd.prog W r b0 40 v) (hd : DataW.Trod enc Tryd.prog W 0 (fun _ => true) true 40 v x ps) (hw : ∀ n ∈ x.weights Tryd.prog 40, n ≤ reachBytes) :
    ∃ d : MdD, v = .agg d.cells.toArray ∧ d.ok W := by
  obtain ⟨cs, rfl, _⟩ := okWide_struct Tryd.underlying40 hval
  obtain ⟨fuel, hfu⟩ := hd
  have hf' : DataW.trod enc Tryd.prog W 0 (fun _ => true) true fuel 40 cs.toList = some (x, ps) := hfu
  obtain ⟨d, h1, h2⟩ := opens_Md H enc W true fuel _ _ hf' hw
  exact ⟨d, by congr 1; rw [← h1], h2⟩
end Go.Proofs.YtojeaghljebbbaaDoor

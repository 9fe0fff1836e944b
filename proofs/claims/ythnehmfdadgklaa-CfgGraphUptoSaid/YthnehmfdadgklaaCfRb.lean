/-
  A function of the IR as data, where the bulk of what is read is bounded: its lists of registers are short.
-/
import Derived.Test.YthnehmfdadgklaaRows
import Derived.Test.YthnehmfdadgklaaDeepF
namespace Go.Proofs.Ythnehmfdadgklaa
open Go.RowKit Go.ChangeShapes Go.WideShapes

theorem bulk_one {H : Type} (d : DataW H) : 1 ≤ Rows.uptoBulk d := by
  cases d with
  | lit l => cases l <;> simp [Rows.uptoBulk]
  | nil => simp [Rows.uptoBulk]
  | ptr d => simp [Rows.uptoBulk]
  | slice elems spare => simp [Rows.uptoBulk]
  | agg parts => simp [Rows.uptoBulk]
  | iface t d => simp [Rows.uptoBulk]
  | map entries => simp [Rows.uptoBulk]
  | held h => simp [Rows.uptoBulk]
theorem bulk_part {H : Type} {d : DataW H} {l : List (DataW H)} (h : d ∈ l) : Rows.uptoBulk d ≤ Rows.uptoBulkAll l := by
  induction l with
  | nil => cases h
  | cons x r ih =>
    simp only [Rows.uptoBulkAll]
    cases List.mem_cons.1 h with
    | inl e => subst e; omega
    | inr e => have := ih e; omega
theorem bulk_len {H : Type} (l : List (DataW H)) : l.length ≤ Rows.uptoBulkAll l := by
  induction l with
  | nil => simp [Rows.uptoBulkAll]
  | cons x r ih => have := bulk_one x; simp only [Rows.uptoBulkAll, List.length_cons]; omega
theorem bulk_slice {H : Type} (a b : List (DataW H)) : Rows.uptoBulkAll a ≤ Rows.uptoBulk (.slice a b) := by
  simp only [Rows.uptoBulk]; omega
theorem bulk_field {H : Type} {xs : List (DataW H × List MemPlace)} {M i : Nat} {y : DataW H × List MemPlace} (h : Rows.uptoBulk (DataW.agg (xs.map (·.1))) ≤ M) (hy : xs[i]? = some y) : Rows.uptoBulk y.1 ≤ M := by
  have h1 := bulk_part (List.mem_map.2 ⟨y, List.mem_of_getElem? hy, rfl⟩ : y.1 ∈ xs.map (·.1))
  simp only [Rows.uptoBulk] at h
  omega
/-- OpensW, where the bulk is bounded too. -/
def OpensB (P : Program) (t : TypeId) (M : Nat) (R : World → List Value → Prop) : Prop :=
  ∀ (H : Type) (enc : TypeId × Value → H) (W : World) (held : Bool) (fuel : Nat) (cs : List Value) (x : DataW H × List MemPlace), DataW.trod enc P W 0 (fun _ => true) held fuel t cs = some x → (∀ n ∈ x.1.weights P t, n ≤ reachBytes) → Rows.uptoBulk x.1 ≤ M → R W cs
section
variable {P : Program} {M : Nat}
theorem opensB_slice {t e : TypeId} {m : Nat} {R : World → List Value → Prop} (ht : P.underlying t = some (.slice e)) (hm : P.cellsOf e = m) (h0 : 0 < m) (h8 : decide (8 ≤ P.bytesOf e) = true) (he : OpensB P e M R) :
    OpensB P t M (fun W cs => ∃ v rows, cs = [v] ∧ RdN W m v rows ∧ Fits rows.length ∧ rows.length ≤ M ∧ ∀ r ∈ rows, R W r) := by
  intro H enc W held fuel cs x h hw hbk
  rcases Deep.open_slice ht h with ⟨rfl, _⟩ | ⟨a, len, cap, k, n, D, Pl, rfl, _, hl, hmx, hk, rfl, hx⟩
  · exact ⟨_, [], rfl, RdN.nil m, Nat.zero_le _, Nat.zero_le _, fun _ h => (by cases h)⟩
  · simp only [if_true] at hk
    obtain ⟨rows, hlen, hrows⟩ := list_of_each (p := fun i cs' => W.cells? 0 (a.add (i * m)) m = some cs' ∧ DataW.trod enc P W 0 (fun _ => true) held n e cs' = some (D i, Pl i)) len
      (fun i hi => by obtain ⟨cs', h1, h2⟩ := hx i (by omega); rw [hm] at h1; exact ⟨cs', h1, h2⟩)
    have hfit : Fits rows.length := by
      refine fits_of (b := P.bytesOf e) (of_decide_eq_true h8) ?_
      have h1 := hw _ (show (((List.range len).map D).length + ((List.range (k - len)).map fun j => D (len + j)).length) * P.bytesOf e ∈ _ by simp only [DataW.weights, ht]; exact List.mem_cons_self)
      rw [List.length_map, List.length_range, Nat.add_mul] at h1
      rw [hlen]
      omega
    refine ⟨_, rows, rfl, ⟨fun r hr => ?_, some a, cap, by rw [hlen], by omega, hmx, fun hn => ?_⟩, hfit, ?_, fun r hr => ?_⟩
    · obtain ⟨i, hi⟩ := List.getElem?_of_mem hr
      exact (World.cells?_some (hrows i r hi).1).2.1
    · obtain ⟨b, off, spot⟩ := a
      obtain ⟨r0, hr0⟩ : ∃ r, rows[0]? = some r := ⟨_, List.getElem?_eq_getElem hn⟩
      obtain ⟨_, h1, h2⟩ := World.cells?_some (hrows 0 _ hr0).1
      have hc0 := h2 0 h0
      obtain ⟨z0, hz0⟩ : ∃ z, r0[0]? = some z := ⟨_, List.getElem?_eq_getElem (by omega)⟩
      rw [hz0, Nat.zero_mul] at hc0
      have hspot : spot = none := by
        have := World.cell?_spot hc0
        simpa [Addr.add] using this
      subst hspot
      have add2 : ∀ i j, ((⟨b, off, none⟩ : Addr).add (i * m)).add j = ⟨b, off + (i * m + j), none⟩ := fun i j => by rw [add_plain, add_plain, Nat.add_assoc]
      refine ⟨b, off, rfl, ?_, fun i j r z hr hz => ?_⟩
      · have h0' := add2 0 0
        rw [Nat.zero_mul] at h0'
        rw [h0'] at hc0
        exact lt_of_cell hc0
      · obtain ⟨_, g1, g2⟩ := World.cells?_some (hrows i r hr).1
        have hj : j < m := by have := (List.getElem?_eq_some_iff.1 hz).1; omega
        have := g2 j hj
        rw [add2] at this
        rw [this, hz]
    · have h1 := bulk_len ((List.range len).map D)
      have h2 := Nat.le_trans (bulk_slice _ _) hbk
      rw [List.length_map, List.length_range] at h1
      rw [hlen]
      omega
    · obtain ⟨i, hi⟩ := List.getElem?_of_mem hr
      have hil : i < len := by have := (List.getElem?_eq_some_iff.1 hi).1; omega
      refine he H enc W held n r _ (hrows i r hi).2 (fun q hq => hw q ?_) (Nat.le_trans (bulk_part (List.mem_map.2 ⟨i, List.mem_range.2 hil, rfl⟩)) (Nat.le_trans (bulk_slice _ _) hbk))
      simp only [DataW.weights, ht]
      exact List.mem_cons_of_mem _ (List.mem_append.2 (.inl (weights_all (List.mem_map.2 ⟨i, List.mem_range.2 hil, rfl⟩) q hq)))
theorem opensB_of {t : TypeId} {R : World → List Value → Prop} (h : Opens P t R) : OpensB P t M R := fun H enc W held fuel cs x hx _ _ => h H enc W held fuel cs x hx
/-- A slice of integers. -/
theorem opensB_i6 {t e : TypeId} {k : IntKind} (ht : P.underlying t = some (.slice e)) (he : P.underlying e = some (.int k)) (hm : P.cellsOf e = 1) (h8 : decide (8 ≤ P.bytesOf e) = true) :
    OpensB P t M (fun W cs => ∃ v l, cs = [v] ∧ Rd W k v l ∧ Fits l.length ∧ l.length ≤ M ∧ ∀ z ∈ l, (Lit.int k z).wf = true) := by
  intro H enc W held fuel cs x h hw hbk
  obtain ⟨v, rows, h1, h2, h4, h5, h3⟩ := opensB_slice ht hm (by omega) h8 (opensB_of (opens_int he)) H enc W held fuel cs x h hw hbk
  obtain ⟨l, rfl, hl⟩ := map_of_each (f := fun z => [Value.int k z]) (p := fun z => (Lit.int k z).wf = true) rows h3
  refine ⟨v, l, h1, RdV.toI (RdN.one ?_), by simpa using h4, by simpa using h5, hl⟩
  rw [List.map_map]
  exact h2
end
/-- Its lists of registers are short. -/
def EdD.few (d : EdD) : Prop := d.args.length ≤ 1048576
def TmD.few (d : TmD) : Prop := d.args.length ≤ 1048576 ∧ ∀ e ∈ d.succs, e.few
def BkD.few (d : BkD) : Prop := d.term.few
def FnD.few (d : FnD) : Prop := ∀ b ∈ d.blocks, b.few
set_option maxRecDepth 100000 in
theorem bopens_Ed : OpensB Try.prog 56 1048576 (fun W cs => ∃ d : EdD, cs = d.cells ∧ d.ok W ∧ d.few) := by
  intro H enc W held fuel cs x h hw hbk
  obtain ⟨xs, n, _, rfl, hl, hlen, hf⟩ := DataW.trod_struct Try.underlying56 h
  rw [show Try.prog.cellsOf 56 = 2 by kernel_rfl] at hl
  match xs, hlen with
  | [y0, y1], _ =>
    have e0 := trod_field 0 (show Try.prog.cellsOf 3 = 1 by kernel_rfl) (hf 0 _ rfl)
    have e1 := trod_field 1 (show Try.prog.cellsOf 22 = 1 by kernel_rfl) (hf 1 _ rfl)
    have b10 := bulk_field (i := 1) hbk rfl
    have w1 := fun q hq => hw q (weights_field Try.underlying56 (i := 1) rfl rfl q hq)
    match cs, hl with
    | [c0, c1], _ =>
      obtain ⟨z0, h0, _, g0⟩ := DataW.trod_int Try.underlying3 e0
      obtain ⟨v1, z1, h1, r1, s1, b1, g1⟩ := opensB_i6 (M := 1048576) Try.underlying22 Try.underlying3 (by kernel_rfl) (by kernel_rfl) H enc W held n _ _ e1 w1 b10
      simp only [List.drop, List.take, List.cons.injEq, and_true] at h0 h1
      obtain ⟨A1, k1, q1, _⟩ := id r1
      subst q1
      subst h0 h1
      exact ⟨⟨z0, A1, k1, z1⟩, rfl, ⟨g0, r1, s1, g1⟩, b1⟩
set_option maxRecDepth 100000 in
theorem bopens_Tm : OpensB Try.prog 51 1048576 (fun W cs => ∃ d : TmD, cs = d.cells ∧ d.ok W ∧ d.few) := by
  intro H enc W held fuel cs x h hw hbk
  obtain ⟨xs, n, _, rfl, hl, hlen, hf⟩ := DataW.trod_struct Try.underlying51 h
  rw [show Try.prog.cellsOf 51 = 5 by kernel_rfl] at hl
  match xs, hlen with
  | [y0, y1, y2, y3, y4], _ =>
    have e0 := trod_field 0 (show Try.prog.cellsOf 3 = 1 by kernel_rfl) (hf 0 _ rfl)
    have e1 := trod_field 1 (show Try.prog.cellsOf 22 = 1 by kernel_rfl) (hf 1 _ rfl)
    have b10 := bulk_field (i := 1) hbk rfl
    have w1 := fun q hq => hw q (weights_field Try.underlying51 (i := 1) rfl rfl q hq)
    have e2 := trod_field 2 (show Try.prog.cellsOf 48 = 1 by kernel_rfl) (hf 2 _ rfl)
    have w2 := fun q hq => hw q (weights_field Try.underlying51 (i := 2) rfl rfl q hq)
    have e3 := trod_field 3 (show Try.prog.cellsOf 49 = 1 by kernel_rfl) (hf 3 _ rfl)
    have b30 := bulk_field (i := 3) hbk rfl
    have w3 := fun q hq => hw q (weights_field Try.underlying51 (i := 3) rfl rfl q hq)
    have e4 := trod_field 4 (show Try.prog.cellsOf 3 = 1 by kernel_rfl) (hf 4 _ rfl)
    match cs, hl with
    | [c0, c1, c2, c3, c4], _ =>
      obtain ⟨z0, h0, _, g0⟩ := DataW.trod_int Try.underlying3 e0
      obtain ⟨v1, z1, h1, r1, s1, b1, g1⟩ := opensB_i6 (M := 1048576) Try.underlying22 Try.underlying3 (by kernel_rfl) (by kernel_rfl) H enc W held n _ _ e1 w1 b10
      obtain ⟨v2, z2, h2, r2, s2, g2⟩ := opensW_i6 Try.underlying48 Try.underlying2 (by kernel_rfl) (by kernel_rfl) H enc W held n _ _ e2 w2
      obtain ⟨v3, rows3, h3, r3, s3, _, k3⟩ := opensB_slice (M := 1048576) (m := 2) Try.underlying49 (by kernel_rfl) (by decide) (by kernel_rfl) bopens_Ed H enc W held n _ _ e3 w3 b30
      obtain ⟨z3, rfl, g3⟩ := map_of_each (f := EdD.cells) (p := fun d => d.ok W ∧ d.few) rows3 k3
      obtain ⟨z4, h4, _, g4⟩ := DataW.trod_int Try.underlying3 e4
      simp only [List.drop, List.take, List.cons.injEq, and_true] at h0 h1 h2 h3 h4
      obtain ⟨A1, k1, q1, _⟩ := id r1
      subst q1
      obtain ⟨A2, k2, q2, _⟩ := id r2
      subst q2
      obtain ⟨_, A3, k3, q3, _⟩ := id r3
      subst q3
      rw [List.length_map] at r3 h3 s3
      subst h0 h1 h2 h3 h4
      exact ⟨⟨z0, A1, k1, z1, A2, k2, z2, A3, k3, z3, z4⟩, rfl, ⟨g0, r1, s1, g1, r2, s2, g2, r3, s3, fun e he => (g3 e he).1, g4⟩, ⟨b1, fun e he => (g3 e he).2⟩⟩
set_option maxRecDepth 100000 in
theorem bopens_Bk : OpensB Try.prog 54 1048576 (fun W cs => ∃ d : BkD, cs = d.cells ∧ d.ok W ∧ d.few) := by
  intro H enc W held fuel cs x h hw hbk
  obtain ⟨xs, n, _, rfl, hl, hlen, hf⟩ := DataW.trod_struct Try.underlying54 h
  rw [show Try.prog.cellsOf 54 = 7 by kernel_rfl] at hl
  match xs, hlen with
  | [y0, y1, y2], _ =>
    have e0 := trod_field 0 (show Try.prog.cellsOf 22 = 1 by kernel_rfl) (hf 0 _ rfl)
    have w0 := fun q hq => hw q (weights_field Try.underlying54 (i := 0) rfl rfl q hq)
    have e1 := trod_field 1 (show Try.prog.cellsOf 52 = 1 by kernel_rfl) (hf 1 _ rfl)
    have w1 := fun q hq => hw q (weights_field Try.underlying54 (i := 1) rfl rfl q hq)
    have e2 := trod_field 2 (show Try.prog.cellsOf 51 = 5 by kernel_rfl) (hf 2 _ rfl)
    have b20 := bulk_field (i := 2) hbk rfl
    have w2 := fun q hq => hw q (weights_field Try.underlying54 (i := 2) rfl rfl q hq)
    match cs, hl with
    | [c0, c1, c2, c3, c4, c5, c6], _ =>
      obtain ⟨v0, z0, h0, r0, s0, g0⟩ := opensW_i6 Try.underlying22 Try.underlying3 (by kernel_rfl) (by kernel_rfl) H enc W held n _ _ e0 w0
      obtain ⟨v1, rows1, h1, r1, s1, k1⟩ := opensW_slice (m := 8) Try.underlying52 (by kernel_rfl) (by decide) (by kernel_rfl) opens_In H enc W held n _ _ e1 w1
      obtain ⟨z1, rfl, g1⟩ := map_of_each (f := InD.cells) (p := fun d => d.ok W) rows1 k1
      obtain ⟨z2, h2, g2⟩ := bopens_Tm H enc W held n _ _ e2 w2 b20
      simp only [List.drop, List.take, List.cons.injEq, and_true] at h0 h1 h2
      obtain ⟨A0, k0, q0, _⟩ := id r0
      subst q0
      obtain ⟨_, A1, k1, q1, _⟩ := id r1
      subst q1
      rw [List.length_map] at r1 h1 s1
      subst h0 h1
      exact ⟨⟨A0, k0, z0, A1, k1, z1, z2⟩, (by show _ = _ ++ z2.cells; rw [← h2]; rfl), ⟨r0, s0, g0, r1, s1, g1, g2.1⟩, g2.2⟩
set_option maxRecDepth 100000 in
theorem bopens_Fn : OpensB Try.prog 27 1048576 (fun W cs => ∃ d : FnD, cs = d.cells ∧ d.ok W ∧ d.few) := by
  intro H enc W held fuel cs x h hw hbk
  obtain ⟨xs, n, _, rfl, hl, hlen, hf⟩ := DataW.trod_struct Try.underlying27 h
  rw [show Try.prog.cellsOf 27 = 5 by kernel_rfl] at hl
  match xs, hlen with
  | [y0, y1, y2, y3, y4], _ =>
    have e0 := trod_field 0 (show Try.prog.cellsOf 9 = 1 by kernel_rfl) (hf 0 _ rfl)
    have e1 := trod_field 1 (show Try.prog.cellsOf 22 = 1 by kernel_rfl) (hf 1 _ rfl)
    have w1 := fun q hq => hw q (weights_field Try.underlying27 (i := 1) rfl rfl q hq)
    have e2 := trod_field 2 (show Try.prog.cellsOf 23 = 1 by kernel_rfl) (hf 2 _ rfl)
    have e3 := trod_field 3 (show Try.prog.cellsOf 24 = 1 by kernel_rfl) (hf 3 _ rfl)
    have w3 := fun q hq => hw q (weights_field Try.underlying27 (i := 3) rfl rfl q hq)
    have e4 := trod_field 4 (show Try.prog.cellsOf 25 = 1 by kernel_rfl) (hf 4 _ rfl)
    have b40 := bulk_field (i := 4) hbk rfl
    have w4 := fun q hq => hw q (weights_field Try.underlying27 (i := 4) rfl rfl q hq)
    match cs, hl with
    | [c0, c1, c2, c3, c4], _ =>
      obtain ⟨z0, h0, _, g0⟩ := DataW.trod_string Try.underlying9 e0
      obtain ⟨v1, z1, h1, r1, s1, g1⟩ := opensW_i6 Try.underlying22 Try.underlying3 (by kernel_rfl) (by kernel_rfl) H enc W held n _ _ e1 w1
      obtain ⟨z2, h2, _, g2⟩ := DataW.trod_int Try.underlying23 e2
      obtain ⟨v3, z3, h3, r3, s3, g3⟩ := opensW_i6 Try.underlying24 Try.underlying23 (by kernel_rfl) (by kernel_rfl) H enc W held n _ _ e3 w3
      obtain ⟨v4, rows4, h4, r4, s4, _, k4⟩ := opensB_slice (M := 1048576) (m := 7) Try.underlying25 (by kernel_rfl) (by decide) (by kernel_rfl) bopens_Bk H enc W held n _ _ e4 w4 b40
      obtain ⟨z4, rfl, g4⟩ := map_of_each (f := BkD.cells) (p := fun d => d.ok W ∧ d.few) rows4 k4
      simp only [List.drop, List.take, List.cons.injEq, and_true] at h0 h1 h2 h3 h4
      obtain ⟨A1, k1, q1, _⟩ := id r1
      subst q1
      obtain ⟨A3, k3, q3, _⟩ := id r3
      subst q3
      obtain ⟨_, A4, k4, q4, _⟩ := id r4
      subst q4
      rw [List.length_map] at r4 h4 s4
      subst h0 h1 h2 h3 h4
      exact ⟨⟨z0, A1, k1, z1, z2, A3, k3, z3, A4, k4, z4⟩, rfl, ⟨g0, r1, s1, g1, g2, r3, s3, g3, r4, s4, fun e he => (g4 e he).1⟩, fun e he => (g4 e he).2⟩
theorem bopen_Fn {H : Type} {enc : TypeId × Value → H} {W : World} {r : Reach} {b0 : Nat} {v : Value} {x : DataW H} {ps : List MemPlace} (hval : Value.okWide Try.prog W r b0 27 v) (hd : DataW.Trod enc Try.prog W 0 (fun _ => true) true 27 v x ps) (hw : ∀ n ∈ x.weights Try.prog 27, n ≤ reachBytes) (hbk : Rows.uptoBulk x ≤ 1048576) :
    ∃ d : FnD, v = .agg d.cells.toArray ∧ d.ok W ∧ d.few := by
  obtain ⟨cs, rfl, _⟩ := okWide_struct Try.underlying27 hval
  obtain ⟨fuel, hfu⟩ := hd
  have hf' : DataW.trod enc Try.prog W 0 (fun _ => true) true fuel 27 cs.toList = some (x, ps) := hfu
  obtain ⟨d, h1, h2⟩ := bopens_Fn H enc W true fuel _ _ hf' hw hbk
  exact ⟨d, by congr 1; rw [← h1], h2⟩
end Go.Proofs.Ythnehmfdadgklaa

/-
  What the rows' list gives: the tables of layer 12, and a world for the witnesses.
-/
import Derived.Test.YtnhaanjpcnnifaaDoorOpA
import Derived.Test.YtnhaanjpcnnifaaDoorLaid
import Derived.Deep.Strs
namespace Go.Proofs.YtnhaanjpcnnifaaDoor
open Go.ChangeShapes Go.WideShapes Go.ChangeAt Go.RowKit

/-- A row of the table as the list lays it. -/
def rowD {H : Type} (r : Nat × (Nat × Nat × Nat × Nat) × Nat) : DataW H := .agg [.lit (.int .u8 (r.1 : Int)), Lib.tabData .u8 [(r.2.1.1 : Int), (r.2.1.2.1 : Int), (r.2.1.2.2.1 : Int), (r.2.1.2.2.2 : Int)], .lit (.int .i64 (r.2.2 : Int))]
theorem rules_laid {H : Type} : (Rows.laid_burnish_opcode_rules : DataW H) = .agg ((List.range 34).map fun i => rowD (ruleM i)) := by rfl
theorem names_laid {H : Type} : (Rows.laid_burnish_opcode_names : DataW H) = .agg (opNames.map fun s => .lit (.string s)) := by rfl
theorem tnames_laid {H : Type} : (Rows.laid_burnish_opcode_typeNames : DataW H) = .agg (tyNames.map fun s => .lit (.string s)) := by rfl

set_option maxRecDepth 100000 in
theorem row_cells6 {H : Type} {enc : TypeId × Value → H} {w : World} {base : Nat} {sp : Nat → Bool} {held : Bool} {fuel : Nat} {cs : List Value} {r : Nat × (Nat × Nat × Nat × Nat) × Nat} {p : List MemPlace}
    (h : DataW.trod enc Tryd.prog w base sp held fuel 120 cs = some (rowD r, p)) :
    cs = [.int .u8 (r.1 : Int), .int .u8 (r.2.1.1 : Int), .int .u8 (r.2.1.2.1 : Int), .int .u8 (r.2.1.2.2.1 : Int), .int .u8 (r.2.1.2.2.2 : Int), .int .i64 (r.2.2 : Int)] := by
  obtain ⟨y0, y1, y2, n, hx, hl, e0, e1, e2⟩ := Deep.trod_struct3 Tryd.underlying120 h
  rw [show Tryd.prog.cellsOf 120 = 6 by kernel_rfl] at hl
  simp only [show Tryd.prog.cellsOf 94 = 1 by kernel_rfl] at e0
  simp only [show Tryd.prog.cellsOf 118 = 4 by kernel_rfl] at e1
  simp only [show Tryd.prog.cellsOf 3 = 1 by kernel_rfl] at e2
  simp only [rowD, Prod.mk.injEq, DataW.agg.injEq, List.cons.injEq, and_true] at hx
  obtain ⟨⟨x0, x1, x2⟩, _⟩ := hx
  match cs, hl with
  | [c0, c1, c2, c3, c4, c5], _ =>
    obtain ⟨z0, h0, d0, _⟩ := DataW.trod_int Tryd.underlying94 e0
    obtain ⟨z5, h5, d5, _⟩ := DataW.trod_int Tryd.underlying3 e2
    have h1 : [c1, c2, c3, c4] = _ := Lib.cells_of_tab (zs := [(r.2.1.1 : Int), (r.2.1.2.1 : Int), (r.2.1.2.2.1 : Int), (r.2.1.2.2.2 : Int)]) (p := y1.2) Tryd.underlying118 Tryd.underlying94 (by kernel_rfl) (by kernel_rfl) (e1.trans (by rw [x1]))
    rw [d0] at x0
    rw [d5] at x2
    simp at x0 x2 h0 h5 h1
    obtain ⟨rfl, rfl, rfl, rfl⟩ := h1
    subst x0 x2 h0 h5
    rfl
set_option maxRecDepth 100000 in
theorem rules_cells {H : Type} {enc : TypeId × Value → H} {w : World} {base : Nat} {sp : Nat → Bool} {held : Bool} {fuel : Nat} {cs : List Value} {p : List MemPlace}
    (h : DataW.trod enc Tryd.prog w base sp held fuel 121 cs = some (.agg ((List.range 34).map fun i => rowD (ruleM i)), p)) (i : Nat) (hi : i < 34) :
    (cs.drop (i * 6)).take 6 = [.int .u8 ((ruleM i).1 : Int), .int .u8 ((ruleM i).2.1.1 : Int), .int .u8 ((ruleM i).2.1.2.1 : Int), .int .u8 ((ruleM i).2.1.2.2.1 : Int), .int .u8 ((ruleM i).2.1.2.2.2 : Int), .int .i64 ((ruleM i).2.2 : Int)] := by
  cases fuel with
  | zero => simp [DataW.trod] at h
  | succ fuel =>
    simp only [DataW.trod, Tryd.underlying121, show Tryd.prog.cellsOf 120 = 6 by kernel_rfl] at h
    split at h
    · obtain ⟨xs, hm, hx⟩ := Option.map_eq_some_iff.1 h
      have hxs : xs.map (·.1) = (List.range 34).map fun i => (rowD (ruleM i) : DataW H) := by
        have := congrArg Prod.fst hx
        simpa using this
      obtain ⟨b, hb, hf⟩ := Lib.mapM_at hm i i (by simp [hi])
      have h2 : (xs.map (·.1))[i]? = some (rowD (ruleM i)) := by rw [hxs]; simp [hi]
      rw [List.getElem?_map, hb] at h2
      have h3 : b.1 = rowD (ruleM i) := by simpa using h2
      exact row_cells6 (p := b.2) (by rw [hf, ← h3])
    · cases h
theorem gNm : Tryd.prog.globalNamed "burnish/opcode.names" = some 0 := by kernel_rfl
theorem gNmT : (Tryd.prog.globals[0]?).map (·.type) = some 116 := by kernel_rfl
theorem gTn : Tryd.prog.globalNamed "burnish/opcode.typeNames" = some 1 := by kernel_rfl
theorem gTnT : (Tryd.prog.globals[1]?).map (·.type) = some 117 := by kernel_rfl
theorem gRu : Tryd.prog.globalNamed "burnish/opcode.rules" = some 2 := by kernel_rfl
theorem gRuT : (Tryd.prog.globals[2]?).map (·.type) = some 121 := by kernel_rfl
theorem cells34 : Tryd.prog.cellsOf 116 = 34 := by kernel_rfl
theorem names_met {W : World} (h : laidMet Tryd.prog [("burnish/opcode.names", Rows.laid_burnish_opcode_names)] W) (i : Nat) (s : List UInt8) (hs : opNames[i]? = some s) : W.cell? ⟨0, i, none⟩ = some (.string ⟨s.toArray⟩) := by
  obtain ⟨ps, ⟨g', t', cs, fuel, p, q, hg', ht', hvar, hd, _, _⟩, _⟩ := h
  obtain rfl := Option.some.inj (gNm.symm.trans hg')
  obtain rfl := Option.some.inj (gNmT.symm.trans ht')
  rw [names_laid] at hd
  have h1 := str_cells (l := opNames) Tryd.underlying116 Tryd.underlying9 cellsStr cells34 hd i s hs
  rw [Array.getElem?_toList] at h1
  exact (World.var?_cell gNm hvar i).trans h1
theorem types_met {W : World} (h : laidMet Tryd.prog [("burnish/opcode.typeNames", Rows.laid_burnish_opcode_typeNames)] W) (i : Nat) (s : List UInt8) (hs : tyNames[i]? = some s) : W.cell? ⟨1, i, none⟩ = some (.string ⟨s.toArray⟩) := by
  obtain ⟨ps, ⟨g', t', cs, fuel, p, q, hg', ht', hvar, hd, _, _⟩, _⟩ := h
  obtain rfl := Option.some.inj (gTn.symm.trans hg')
  obtain rfl := Option.some.inj (gTnT.symm.trans ht')
  rw [tnames_laid] at hd
  have h1 := str_cells (l := tyNames) Tryd.underlying117 Tryd.underlying9 cellsStr cellsNam hd i s hs
  rw [Array.getElem?_toList] at h1
  exact (World.var?_cell gTn hvar i).trans h1
theorem rules_met {W : World} (h : laidMet Tryd.prog [("burnish/opcode.rules", Rows.laid_burnish_opcode_rules)] W) (i j : Nat) (hi : i < 34) (v : Value) (hv : [Value.int .u8 ((ruleM i).1 : Int), .int .u8 ((ruleM i).2.1.1 : Int), .int .u8 ((ruleM i).2.1.2.1 : Int), .int .u8 ((ruleM i).2.1.2.2.1 : Int), .int .u8 ((ruleM i).2.1.2.2.2 : Int), .int .i64 ((ruleM i).2.2 : Int)][j]? = some v) : W.cell? ⟨2, i * 6 + j, none⟩ = some v := by
  obtain ⟨ps, ⟨g', t', cs, fuel, p, q, hg', ht', hvar, hd, _, _⟩, _⟩ := h
  obtain rfl := Option.some.inj (gRu.symm.trans hg')
  obtain rfl := Option.some.inj (gRuT.symm.trans ht')
  rw [rules_laid] at hd
  have h1 := rules_cells hd i hi
  have h2 := congrArg (·[j]?) h1
  simp only [hv, List.getElem?_take, List.getElem?_drop] at h2
  have hj : j < 6 := by have := (List.getElem?_eq_some_iff.1 hv).1; simpa using this
  rw [if_pos hj, Array.getElem?_toList] at h2
  exact (World.var?_cell gRu hvar (i * 6 + j)).trans h2
theorem optab_of_laid {W : World} (h : laidMetH Tryd.prog Rows.exprBuildsRow.laid W) : OpTab W :=
  have hn : laidMet Tryd.prog [("burnish/opcode.names", Rows.laid_burnish_opcode_names)] W := laidMetH.filter (fun x => x.1 == "burnish/opcode.names") h
  have ht : laidMet Tryd.prog [("burnish/opcode.typeNames", Rows.laid_burnish_opcode_typeNames)] W := laidMetH.filter (fun x => x.1 == "burnish/opcode.typeNames") h
  have hr : laidMet Tryd.prog [("burnish/opcode.rules", Rows.laid_burnish_opcode_rules)] W := laidMetH.filter (fun x => x.1 == "burnish/opcode.rules") h
  ⟨names_met hn, types_met ht, fun i hi => rules_met hr i 0 hi _ rfl, fun i hi => rules_met hr i 1 hi _ rfl, fun i hi => rules_met hr i 2 hi _ rfl, fun i hi => rules_met hr i 3 hi _ rfl, fun i hi => rules_met hr i 4 hi _ rfl, fun i hi => rules_met hr i 5 hi _ rfl⟩
theorem optabw_of_laid {W : World} (h : laidMetH Tryd.prog Rows.exprBuildsRow.laid W) : Tab W := by
  have h1 : laidMet Tryd.prog [("burnish/intn.widths", Rows.laid_burnish_intn_widths)] W := laidMetH.filter (fun x => x.1 == "burnish/intn.widths") h
  have ht : Lib.TabIs Tryd.prog W "burnish/intn.widths" .i64 [0, 1, 8, 32, 64] := Lib.tabIs_of_head (rest := []) gTab gTabType Tryd.underlying146 Tryd.underlying3 cellsInt cellsTab h1
  exact ⟨ht.cell gTab 0 (by decide), ht.cell gTab 1 (by decide), ht.cell gTab 2 (by decide), ht.cell gTab 3 (by decide), ht.cell gTab 4 (by decide)⟩

/-- The cells that a value of the list lays, whatever its depth. -/
def cellsOfD : Nat → DataW Unit → List Value
  | 0, _ => []
  | _ + 1, .lit (.int k n) => [.int k n]
  | _ + 1, .lit (.string s) => [.string ⟨s.toArray⟩]
  | m + 1, .agg l => l.flatMap (cellsOfD m)
  | _ + 1, _ => []
def putD (g : Nat) (d : DataW Unit) (hp : Array Obj) : Array Obj := hp.modify g fun
  | .cells _ t frozen => .cells (cellsOfD 4 d).toArray t frozen
  | o => o
noncomputable def opHeap (hp : Array Obj) : Array Obj :=
  putD 4 Rows.laid_burnish_intn_widths (putD 0 Rows.laid_burnish_opcode_names (putD 2 Rows.laid_burnish_opcode_rules (putD 1 Rows.laid_burnish_opcode_typeNames (putD 5 Rows.laid_math_bits_deBruijn32tab (putD 6 Rows.laid_math_bits_deBruijn64tab (putD 3 Rows.laid_internal_strconv_uint64pow10 hp))))))
/-- A WORLD FOR THE WITNESS: the settled one, the tables holding what their initialisers lay. -/
noncomputable def opWorld (os : Os) : World :=
  { World.holding Tryd.prog os ⟨#[], #[], []⟩ with heap := opHeap (World.holding Tryd.prog os ⟨#[], #[], []⟩).heap }
end Go.Proofs.YtnhaanjpcnnifaaDoor

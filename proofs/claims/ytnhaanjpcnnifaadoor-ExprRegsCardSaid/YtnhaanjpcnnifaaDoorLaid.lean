/-
  What the rows' list gives: the table of widths, the names of the types, and a world for the witnesses.
-/
import Derived.Test.YtnhaanjpcnnifaaDoorLeaf
import Derived.Test.YtnhaanjpcnnifaaDoorOpen
import Derived.Test.YtnhaanjpcnnifaaDoorCards
import Derived.Test.YtnhaanjpcnnifaaDoorTie
import Derived.Deep.DeepHandedRow
import Derived.Lib.LaidTab
namespace Go.Proofs.YtnhaanjpcnnifaaDoor
open Go.ChangeShapes Go.WideShapes Go.ChangeAt Go.RowKit

theorem str_cells {H : Type} {enc : TypeId × Value → H} {P : Program} {w : World} {base : Nat} {sp : Nat → Bool} {held : Bool} {fuel : Nat} {t e : TypeId} {n : Nat} {cs : List Value} {l : List (List UInt8)} {p : List MemPlace}
    (ht : P.underlying t = some (.array n e)) (he : P.underlying e = some .string) (hce : P.cellsOf e = 1) (hct : P.cellsOf t = n)
    (h : DataW.trod enc P w base sp held fuel t cs = some (.agg (l.map fun s => .lit (.string s)), p)) (i : Nat) (s : List UInt8) (hi : l[i]? = some s) : cs[i]? = some (.string ⟨s.toArray⟩) := by
  cases fuel with
  | zero => simp [DataW.trod] at h
  | succ fuel =>
    simp only [DataW.trod, ht, hce, hct, Nat.mul_one] at h
    split at h
    · obtain ⟨xs, hm, hx⟩ := Option.map_eq_some_iff.1 h
      have hxs : xs.map (·.1) = l.map fun s => (DataW.lit (.string s) : DataW H) := by
        have := congrArg Prod.fst hx
        simpa using this
      have hxi : (xs.map (·.1))[i]? = some (DataW.lit (.string s) : DataW H) := by rw [hxs]; simp [hi]
      rw [List.getElem?_map] at hxi
      obtain ⟨y, hy, hy1⟩ := Option.map_eq_some_iff.1 hxi
      have hl := Lib.mapM_length hm
      have hin : i < n := by
        have h1 : i < xs.length := (List.getElem?_eq_some_iff.1 hy).1
        simp at hl
        omega
      obtain ⟨b, hb, hf⟩ := Lib.mapM_at hm i i (by simp [hin])
      obtain rfl : b = y := Option.some.inj (hb.symm.trans hy)
      obtain ⟨s', hc, rfl, _⟩ := DataW.trod_string he hf
      have h1 : cs[i]? = some (.string s') := by
        have := congrArg (·[0]?) hc
        simpa [List.getElem?_take, List.getElem?_drop] using this
      have h2 : s'.data.toList = s := by simpa using hy1
      subst h2
      rw [h1]
    · cases h

theorem own : ownKnob Tryd.prog.godebug = none := by kernel_rfl
theorem gTab : Tryd.prog.globalNamed "burnish/intn.widths" = some 4 := by kernel_rfl
theorem gTabType : (Tryd.prog.globals[4]?).map (·.type) = some 146 := by kernel_rfl
theorem cellsTab : Tryd.prog.cellsOf 146 = 5 := by kernel_rfl
theorem cellsInt : Tryd.prog.cellsOf 3 = 1 := by kernel_rfl
theorem cellsNam : Tryd.prog.cellsOf 117 = 8 := by kernel_rfl
theorem cellsStr : Tryd.prog.cellsOf 9 = 1 := by kernel_rfl
def namesL : List (List UInt8) := [[], [98, 111, 111, 108], [105, 56], [105, 51, 50], [105, 54, 52], [112, 116, 114], [118, 50], [118, 52]]
theorem tab_of_laid {W : World} (h : laidMetH Tryd.prog Rows.exprBuildsRow.laid W) : Tab W := by
  have h1 : laidMet Tryd.prog [("burnish/intn.widths", Rows.laid_burnish_intn_widths)] W := laidMetH.filter (fun x => x.1 == "burnish/intn.widths") h
  have ht : Lib.TabIs Tryd.prog W "burnish/intn.widths" .i64 [0, 1, 8, 32, 64] := Lib.tabIs_of_head (rest := []) gTab gTabType Tryd.underlying146 Tryd.underlying3 cellsInt cellsTab h1
  exact ⟨ht.cell gTab 0 (by decide), ht.cell gTab 1 (by decide), ht.cell gTab 2 (by decide), ht.cell gTab 3 (by decide), ht.cell gTab 4 (by decide)⟩

/-- The values that a listed table lays. -/
def laidVals : DataW Unit → Array Value
  | .agg l => (l.map fun
      | .lit (.int k n) => Value.int k n
      | .lit (.string s) => Value.string ⟨s.toArray⟩
      | _ => default).toArray
  | _ => #[]
def putVals (g : Nat) (d : DataW Unit) (hp : Array Obj) : Array Obj := hp.modify g fun
  | .cells _ t frozen => .cells (laidVals d) t frozen
  | o => o
end Go.Proofs.YtnhaanjpcnnifaaDoor

/-
  Layer 23 (expr): expressions as arguments, with the range of their numbers; the library's table of the powers of ten, off the row's list.
-/
import Derived.Test.YtnhaanjpcnnifaaDoorExO
import Derived.Test.YtnhaanjpcnnifaaDoorExT
import Derived.Test.YtnhaanjpcnnifaaDoorOpLaid
namespace Go.Proofs.YtnhaanjpcnnifaaDoor
open Go.RowKit Go.ChangeShapes Go.WideShapes

theorem in64_of {z : Int} (h : (Lit.int .i64 z).wf = true) : In64 z := by
  unfold In64
  simpa [Lit.wf, IntKind.min, IntKind.max, IntKind.signed, IntKind.bits] using h
set_option maxRecDepth 100000 in
theorem opens_ei : Opens Tryd.prog 22 (fun W cs => ∃ A c, ∃ e : List NdD, cs = [.slice A e.length c] ∧ RdN W 3 (.slice A e.length c) (e.map NdD.cells) ∧ ∀ x ∈ e, x.In) := by
  intro H enc W held fuel cs x h
  have hs := opens_slice Tryd.underlying22 (show Tryd.prog.cellsOf 40 = 3 by kernel_rfl) (by omega)
    (opens_struct3 Tryd.underlying40 (by kernel_rfl) ⟨rfl, rfl, rfl⟩ (by kernel_rfl) (by kernel_rfl) (by kernel_rfl) (opens_int Tryd.underlying3) (opens_int Tryd.underlying24) (opens_int Tryd.underlying2))
  obtain ⟨v, rows, rfl, hr, hall⟩ := hs H enc W held fuel cs x h
  obtain ⟨e, rfl, hin⟩ := map_of_each (f := NdD.cells) (p := fun x => x.In) rows (fun r hm => by
    obtain ⟨a, b, c, rfl, ⟨z0, h0, g0⟩, ⟨z1, h1, g1⟩, ⟨z2, h2, g2⟩⟩ := hall r hm
    injection h0 with h0 _
    injection h1 with h1 _
    injection h2 with h2 _
    subst h0 h1 h2
    exact ⟨⟨z0, z1, z2⟩, rfl, in64_of g0, in64_of g1, in64_of g2⟩)
  obtain ⟨_, A, c, e1, -⟩ := id hr
  rw [List.length_map] at e1
  subst e1
  exact ⟨A, c, e, rfl, hr, hin⟩
section
variable {H : Type} {enc : TypeId × Value → H} {W : World} {r : Reach} {b0 : Nat} {v : Value} {d : DataW H} {ps : List MemPlace}
set_option maxRecDepth 100000 in
theorem open_ei (hd : DataW.Trod enc Tryd.prog W 0 (fun _ => true) true 22 v d ps) (hv : Value.okWide Tryd.prog W r b0 22 v) :
    ∃ A c, ∃ e : List NdD, v = .slice A e.length c ∧ RdN W 3 (.slice A e.length c) (e.map NdD.cells) ∧ ∀ x ∈ e, x.In := by
  have hc : v.cells.toList = [v] := by
    obtain ⟨a, len, cap, rfl⟩ := okWide_slice Tryd.underlying22 hv
    rfl
  obtain ⟨A, c, e, h1, h2, h3⟩ := open_cell opens_ei hc hd
  injection h1 with h1 _
  exact ⟨A, c, e, h1, h2, h3⟩
end
theorem pow_laid {H : Type} : (Rows.laid_internal_strconv_uint64pow10 : DataW H) = Lib.tabData .u64 Lib.pow10Tab := by rfl
theorem gPowT : (Tryd.prog.globals[3]?).map (·.type) = some 143 := by kernel_rfl
theorem pow_of_laid {W : World} (h : laidMetH Tryd.prog Rows.exprBuildsRow.laid W) : Pow W := by
  have h1 : laidMet Tryd.prog [("internal/strconv.uint64pow10", Rows.laid_internal_strconv_uint64pow10)] W := laidMetH.filter (fun x => x.1 == "internal/strconv.uint64pow10") h
  rw [pow_laid] at h1
  exact Lib.tabIs_of_head (rest := []) gPow gPowT Tryd.underlying143 Tryd.underlying113 (by kernel_rfl) (by kernel_rfl) h1
end Go.Proofs.YtnhaanjpcnnifaaDoor

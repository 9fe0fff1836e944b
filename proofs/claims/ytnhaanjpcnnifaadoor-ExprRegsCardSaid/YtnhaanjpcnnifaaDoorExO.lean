/-
  Layer 23 (expr): expressions as arguments.
-/
import Derived.Test.YtnhaanjpcnnifaaDoorExM
import Derived.Test.YtnhaanjpcnnifaaDoorOpenN
import Derived.Test.YtnhaanjpcnnifaaDoorOpen
namespace Go.Proofs.YtnhaanjpcnnifaaDoor
open Go.RowKit Go.ChangeShapes Go.WideShapes

set_option maxRecDepth 100000 in
theorem opens_es : Opens Tryd.prog 22 (fun W cs => ∃ A c, ∃ e : List NdD, cs = [.slice A e.length c] ∧ RdN W 3 (.slice A e.length c) (e.map NdD.cells)) := by
  intro H enc W held fuel cs x h
  have hs := opens_slice Tryd.underlying22 (show Tryd.prog.cellsOf 40 = 3 by kernel_rfl) (by omega)
    (opens_struct3 Tryd.underlying40 (by kernel_rfl) ⟨rfl, rfl, rfl⟩ (by kernel_rfl) (by kernel_rfl) (by kernel_rfl) (opens_int Tryd.underlying3) (opens_int Tryd.underlying24) (opens_int Tryd.underlying2))
  obtain ⟨v, rows, rfl, hr, hall⟩ := hs H enc W held fuel cs x h
  obtain ⟨e, rfl, -⟩ := map_of_each (f := NdD.cells) (p := fun _ => True) rows (fun r hm => by
    obtain ⟨a, b, c, rfl, ⟨z0, h0, -⟩, ⟨z1, h1, -⟩, ⟨z2, h2, -⟩⟩ := hall r hm
    injection h0 with h0 _
    injection h1 with h1 _
    injection h2 with h2 _
    subst h0 h1 h2
    exact ⟨⟨z0, z1, z2⟩, rfl, trivial⟩)
  obtain ⟨_, A, c, e1, -⟩ := id hr
  rw [List.length_map] at e1
  subst e1
  exact ⟨A, c, e, rfl, hr⟩
section
variable {H : Type} {enc : TypeId × Value → H} {W : World} {r : Reach} {b0 : Nat} {v : Value} {d : DataW H} {ps : List MemPlace}
set_option maxRecDepth 100000 in
theorem open_es (hd : DataW.Trod enc Tryd.prog W 0 (fun _ => true) true 22 v d ps) (hv : Value.okWide Tryd.prog W r b0 22 v) :
    ∃ A c, ∃ e : List NdD, v = .slice A e.length c ∧ RdN W 3 (.slice A e.length c) (e.map NdD.cells) := by
  have hc : v.cells.toList = [v] := by
    obtain ⟨a, len, cap, rfl⟩ := okWide_slice Tryd.underlying22 hv
    rfl
  obtain ⟨A, c, e, h1, h2⟩ := open_cell opens_es hc hd
  injection h1 with h1 _
  exact ⟨A, c, e, h1, h2⟩
end
end Go.Proofs.YtnhaanjpcnnifaaDoor

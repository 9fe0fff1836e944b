/-
  ValueMakes, layer 11 (value), given what works answers.
-/
import Derived.Deep.Cut
import Derived.Deep.RegionHeld3
import Derived.Test.YtjeinmccahbpgaaDoorVEq
namespace Go.Proofs.YtjeinmccahbpgaaDoor
open Go.RowKit
attribute [-go_sem] run_eql_struct run_equalIn_agg

set_option maxRecDepth 100000 in
set_option maxHeartbeats 8000000 in
theorem makes_law (t o n : Int) (w : World) (hT : Tab w) (hW : ∀ W, Below w.heap.size w W → Calls Tryd.prog 21 #[] W fun e W' => e = .returned (.bool true) ∧ Below W.heap.size W W') :
    Calls Tryd.prog 3 #[.int .i64 t, .int .i64 o, .int .i64 n] w fun e w' => e = .returned (.bool true) ∧ Below w.heap.size w w' := by
  have HT := hide hT
  have HW := hide hW
  have eI : EqSelf (mkInt t n) := self_vc (mkInt_vc t n)
  have eP : EqSelf (mkPoison t) := self_vc (mkLanes_vc t _)
  have eQ : EqSelf (mkPointer o n) := self_vc (mkPointer_vc o n)
  unfold EqSelf at eI eP eQ
  clear hT hW
  go_enter Tryd.func3, Tryd.ntmps3
  have HB : Hid (Below w.heap.size w w) := hide (Below.refl _ _)
  go_wp2_with fail
  refine (int_any t n _ (by exact HT.out.below HB.out)).mono ?_
  rintro en w0 ⟨rfl, hb⟩
  replace HB := hide (HB.out.trans (hb.mono HB.out.size))
  clear hb
  go_wp2_with fail
  refine (rint_any t n _).mono ?_
  rintro en w1 ⟨rfl, hb⟩
  replace HB := hide (HB.out.trans (hb.mono HB.out.size))
  clear hb
  go_wp2_with fail
  refine (poison_any t _).mono ?_
  rintro en w2 ⟨rfl, hb⟩
  replace HB := hide (HB.out.trans (hb.mono HB.out.size))
  clear hb
  go_wp2_with fail
  refine (rpoison_any t _).mono ?_
  rintro en w3 ⟨rfl, hb⟩
  replace HB := hide (HB.out.trans (hb.mono HB.out.size))
  clear hb
  go_wp2_with fail
  refine (pointer_any o n _).mono ?_
  rintro en w4 ⟨rfl, hb⟩
  replace HB := hide (HB.out.trans (hb.mono HB.out.size))
  clear hb
  go_wp2_with fail
  refine (rpointer_any o n _).mono ?_
  rintro en w5 ⟨rfl, hb⟩
  replace HB := hide (HB.out.trans (hb.mono HB.out.size))
  clear hb
  go_wp2_with fail
  refine (lanes_any t _).mono ?_
  rintro en w6 ⟨rfl, rfl⟩
  go_wp2_with fail
  refine (rlanes_any t _).mono ?_
  rintro en w7 ⟨rfl, rfl⟩
  go_wp2_with fail
  refine (HW.out _ (by exact HB.out)).mono ?_
  rintro en w8 ⟨rfl, hb⟩
  replace HB := hide (HB.out.trans (hb.mono HB.out.size))
  clear hb
  go_wp2_with fail
  go_ret
  exact ⟨rfl, HB.out⟩
end Go.Proofs.YtjeinmccahbpgaaDoor

/-
  ValueValid, layer 11 (value), given what works answers.
-/
import Derived.Deep.Cut
import Derived.Deep.RegionHeld3
import Derived.Test.YtjeinmccahbpgaaDoorVEq
import Derived.Test.YtjeinmccahbpgaaDoorVG
namespace Go.Proofs.YtjeinmccahbpgaaDoor
open Go.RowKit

set_option maxRecDepth 100000 in
set_option maxHeartbeats 16000000 in
theorem valid_law (t o : Int) (a b c d : LaneD) (t' o' : Int) (a' b' c' d' : LaneD) (w : World) (hT : Tab w) (hW : ∀ W, Below w.heap.size w W → Calls Tryd.prog 21 #[] W fun e W' => e = .returned (.bool true) ∧ Below W.heap.size W W') :
    Calls Tryd.prog 4 #[.agg #[.int .i64 t, .int .i64 o, .int .i64 a.n, .bool a.p, .bool a.u, .int .i64 b.n, .bool b.p, .bool b.u, .int .i64 c.n, .bool c.p, .bool c.u, .int .i64 d.n, .bool d.p, .bool d.u], .agg #[.int .i64 t', .int .i64 o', .int .i64 a'.n, .bool a'.p, .bool a'.u, .int .i64 b'.n, .bool b'.p, .bool b'.u, .int .i64 c'.n, .bool c'.p, .bool c'.u, .int .i64 d'.n, .bool d'.p, .bool d'.u]] w fun e w' => e = .returned (.bool true) ∧ Below w.heap.size w w' := by
  obtain ⟨q, hq⟩ : ∃ q, w.heap.size = q := ⟨_, rfl⟩
  obtain ⟨w1, hw1⟩ : ∃ W, w.alloc (.cells #[.int .i64 t, .int .i64 o, .int .i64 a.n, .bool a.p, .bool a.u, .int .i64 b.n, .bool b.p, .bool b.u, .int .i64 c.n, .bool c.p, .bool c.u, .int .i64 d.n, .bool d.p, .bool d.u] 27) = W := ⟨_, rfl⟩
  have hs1 : w1.heap.size = q + 1 := by rw [← hw1, World.size_alloc, hq]
  have hR1 : Whole w1 q 27 (vc t o a b c d) := by rw [← hw1, ← hq]; exact Whole.new w _ _
  have hb1 : Below w.heap.size w w1 := by rw [← hw1]; exact (Below.refl _ _).alloc (Nat.le_refl _) _
  obtain ⟨w2, hw2⟩ : ∃ W, w1.alloc (.cells #[.int .i64 t', .int .i64 o', .int .i64 a'.n, .bool a'.p, .bool a'.u, .int .i64 b'.n, .bool b'.p, .bool b'.u, .int .i64 c'.n, .bool c'.p, .bool c'.u, .int .i64 d'.n, .bool d'.p, .bool d'.u] 27) = W := ⟨_, rfl⟩
  have hR2 : Whole w2 (q + 1) 27 (vc t' o' a' b' c' d') := by rw [← hw2, ← hs1]; exact Whole.new w1 _ _
  have hb12 : Below w1.heap.size w1 w2 := by rw [← hw2]; exact (Below.refl _ _).alloc (Nat.le_refl _) _
  have HB : Hid (Below w.heap.size w w2) := hide (hb1.trans (hb12.mono hb1.size))
  have HA := hide (hR1.below' hb12)
  have HV := hide hR2
  have HT := hide hT
  have HW := hide hW
  clear hT hW hR1 hR2 hb1 hb12
  go_enter Tryd.func4, Tryd.ntmps4
  go_upto_region 1 with fail
  clear hw1 hw2 hs1
  replace HB : Hid (Below w.heap.size w w2.drew) := hide HB.out.drew
  replace HA : Hid (Whole w2.drew q 27 (vc t o a b c d)) := hide (HA.out.drewN 1)
  replace HV : Hid (Whole w2.drew (q + 1) 27 (vc t' o' a' b' c' d')) := hide (HV.out.drewN 1)
  go_region_held3 (fun w' => (w'.cell? ⟨q, 0, none⟩ = some (.int .i64 t) ∧ w'.cell? ⟨q, 1, none⟩ = some (.int .i64 o) ∧ w'.cell? ⟨q, 2, none⟩ = some (.int .i64 a.n) ∧ w'.cell? ⟨q, 3, none⟩ = some (.bool a.p) ∧ w'.cell? ⟨q, 4, none⟩ = some (.bool a.u) ∧ w'.cell? ⟨q, 5, none⟩ = some (.int .i64 b.n) ∧ w'.cell? ⟨q, 6, none⟩ = some (.bool b.p) ∧ w'.cell? ⟨q, 7, none⟩ = some (.bool b.u) ∧ w'.cell? ⟨q, 8, none⟩ = some (.int .i64 c.n) ∧ w'.cell? ⟨q, 9, none⟩ = some (.bool c.p) ∧ w'.cell? ⟨q, 10, none⟩ = some (.bool c.u) ∧ w'.cell? ⟨q, 11, none⟩ = some (.int .i64 d.n) ∧ w'.cell? ⟨q, 12, none⟩ = some (.bool d.p) ∧ w'.cell? ⟨q, 13, none⟩ = some (.bool d.u)) ∧ (w'.cell? ⟨q + 1, 0, none⟩ = some (.int .i64 t') ∧ w'.cell? ⟨q + 1, 1, none⟩ = some (.int .i64 o') ∧ w'.cell? ⟨q + 1, 2, none⟩ = some (.int .i64 a'.n) ∧ w'.cell? ⟨q + 1, 3, none⟩ = some (.bool a'.p) ∧ w'.cell? ⟨q + 1, 4, none⟩ = some (.bool a'.u) ∧ w'.cell? ⟨q + 1, 5, none⟩ = some (.int .i64 b'.n) ∧ w'.cell? ⟨q + 1, 6, none⟩ = some (.bool b'.p) ∧ w'.cell? ⟨q + 1, 7, none⟩ = some (.bool b'.u) ∧ w'.cell? ⟨q + 1, 8, none⟩ = some (.int .i64 c'.n) ∧ w'.cell? ⟨q + 1, 9, none⟩ = some (.bool c'.p) ∧ w'.cell? ⟨q + 1, 10, none⟩ = some (.bool c'.u) ∧ w'.cell? ⟨q + 1, 11, none⟩ = some (.int .i64 d'.n) ∧ w'.cell? ⟨q + 1, 12, none⟩ = some (.bool d'.p) ∧ w'.cell? ⟨q + 1, 13, none⟩ = some (.bool d'.u))) (exact ⟨vc_cells HA.out, vc_cells HV.out⟩) (first | (go_at_call 22; refine (valid_any t o a b c d _ (by exact HT.out.below HB.out)).mono ?_; rintro en wn ⟨rfl, hb⟩; replace HA := hide (HA.out.below' hb); replace HV := hide (HV.out.below' hb); replace HB := hide (HB.out.trans (hb.mono HB.out.size)); clear hb) | (go_at_call 23; refine (rvalid_any t o a b c d _).mono ?_; rintro en wn ⟨rfl, hb⟩; replace HA := hide (HA.out.below' hb); replace HV := hide (HV.out.below' hb); replace HB := hide (HB.out.trans (hb.mono HB.out.size)); clear hb) | (go_at_call 24; refine (haspoison_any t o a b c d _ (by exact HT.out.below HB.out)).mono ?_; rintro en wn ⟨rfl, hb⟩; replace HA := hide (HA.out.below' hb); replace HV := hide (HV.out.below' hb); replace HB := hide (HB.out.trans (hb.mono HB.out.size)); clear hb) | (go_at_call 25; refine (rhaspoison_any t o a b c d _).mono ?_; rintro en wn ⟨rfl, hb⟩; replace HA := hide (HA.out.below' hb); replace HV := hide (HV.out.below' hb); replace HB := hide (HB.out.trans (hb.mono HB.out.size)); clear hb) | (go_at_call 26; refine (refines_any t o a b c d t' o' a' b' c' d' _ (by exact HT.out.below HB.out)).mono ?_; rintro en wn ⟨rfl, hb⟩; replace HA := hide (HA.out.below' hb); replace HV := hide (HV.out.below' hb); replace HB := hide (HB.out.trans (hb.mono HB.out.size)); clear hb) | (go_at_call 27; refine (rrefines_any t o a b c d t' o' a' b' c' d' _).mono ?_; rintro en wn ⟨rfl, hb⟩; replace HA := hide (HA.out.below' hb); replace HV := hide (HV.out.below' hb); replace HB := hide (HB.out.trans (hb.mono HB.out.size)); clear hb) | (go_at_call 21; refine (HW.out _ (by exact HB.out)).mono ?_; rintro en wn ⟨rfl, hb⟩; replace HA := hide (HA.out.below' hb); replace HV := hide (HV.out.below' hb); replace HB := hide (HB.out.trans (hb.mono HB.out.size)); clear hb))
  all_goals
    go_wp2_with fail
    go_ret
    exact ⟨rfl, HB.out⟩
end Go.Proofs.YtjeinmccahbpgaaDoor

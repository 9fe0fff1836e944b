/-
  Layer 11 (value): the chapter's examples.
-/
import Derived.Test.YtjeinmccahbpgaaDoorEvA
import Derived.Deep.Cut
import Derived.Deep.RegionHeld3
import Derived.Test.YtjeinmccahbpgaaDoorEvI5
import Derived.Test.YtjeinmccahbpgaaDoorEvI14
import Derived.Test.YtjeinmccahbpgaaDoorEvK
import Derived.Test.YtjeinmccahbpgaaDoorVEq
namespace Go.Proofs.YtjeinmccahbpgaaDoor
open Go.RowKit

theorem Whole.idle {w : World} {g : Nat} {T : TypeId} {cs : Array Value} (h : Whole w g T cs) (i : Nat) {v : Value} (hi : cs[i]? = some v) : w.setCell ⟨g, i, none⟩ v = w := by
  have h' : w.heap[g]? = some (.cells cs T (0, 0)) := h
  obtain ⟨hg, hgv⟩ := Array.getElem?_eq_some_iff.1 h'
  obtain ⟨hk, hkv⟩ := Array.getElem?_eq_some_iff.1 hi
  have e : cs.setIfInBounds i v = cs := by
    apply Array.ext (by simp)
    intro j h1 h2
    rw [Array.getElem_setIfInBounds]
    split
    · rename_i hij; subst hij; exact hkv.symm
    · rfl
  have e2 : w.heap.modify g (fun
      | .cells c elem frozen => .cells (if (none : Option Nat).isSome then c else c.setIfInBounds i v) elem frozen
      | o => o) = w.heap := by
    apply Array.ext (by simp)
    intro j h1 h2
    rw [Array.getElem_modify]
    split
    · rename_i hij; subst hij; rw [hgv]; simp [e]
    · rfl
  cases w
  exact congrArg (fun hp => World.mk hp _ _ _ _) e2

theorem Whole.new0 (w : World) (T : TypeId) (cs : Array Value) : Whole (w.alloc (.cells cs T)).drew w.heap.size T cs := Whole.new w T cs
theorem Whole.new1 (w : World) (o : Obj) (T : TypeId) (cs : Array Value) : Whole ((w.alloc o).alloc (.cells cs T)) (w.heap.size + 1) T cs := by
  have h := Whole.new (w.alloc o) T cs
  rwa [World.size_alloc] at h

theorem idle14 {W : World} {k : Nat} {T : TypeId} (h : Whole W k T #[.int .i64 0, .int .i64 0, .int .i64 0, .bool false, .bool false, .int .i64 0, .bool false, .bool false, .int .i64 0, .bool false, .bool false, .int .i64 0, .bool false, .bool false]) : (((((((((((((W.setCell ⟨k, 0, none⟩ (.int .i64 0)).setCell ⟨k, 1, none⟩ (.int .i64 0)).setCell ⟨k, 2, none⟩ (.int .i64 0)).setCell ⟨k, 3, none⟩ (.bool false)).setCell ⟨k, 4, none⟩ (.bool false)).setCell ⟨k, 5, none⟩ (.int .i64 0)).setCell ⟨k, 6, none⟩ (.bool false)).setCell ⟨k, 7, none⟩ (.bool false)).setCell ⟨k, 8, none⟩ (.int .i64 0)).setCell ⟨k, 9, none⟩ (.bool false)).setCell ⟨k, 10, none⟩ (.bool false)).setCell ⟨k, 11, none⟩ (.int .i64 0)).setCell ⟨k, 12, none⟩ (.bool false)).setCell ⟨k, 13, none⟩ (.bool false) = W := by
  rw [h.idle 0 (by rfl), h.idle 1 (by rfl), h.idle 2 (by rfl), h.idle 3 (by rfl), h.idle 4 (by rfl), h.idle 5 (by rfl), h.idle 6 (by rfl), h.idle 7 (by rfl), h.idle 8 (by rfl), h.idle 9 (by rfl), h.idle 10 (by rfl), h.idle 11 (by rfl), h.idle 12 (by rfl), h.idle 13 (by rfl)]

/-- What region six of the examples keeps: the row of two values, the values v and w. -/
structure Wk (w : World) (B q1 q2 q3 : Nat) (T : TypeId) (r v x : Array Value) (W : World) : Prop where
  below : Below B w W
  size : B ≤ W.heap.size
  row : Whole W q1 T r
  fst : Whole W q2 T v
  snd : Whole W q3 T x
theorem Wk.alloc {w : World} {B q1 q2 q3 : Nat} {T : TypeId} {r v x : Array Value} {W : World} (K : Wk w B q1 q2 q3 T r v x W) (o : Obj) : Wk w B q1 q2 q3 T r v x (W.alloc o) :=
  ⟨K.below.alloc K.size o, by have := K.size; simp [World.size_alloc]; omega, K.row.alloc _, K.fst.alloc _, K.snd.alloc _⟩
theorem Wk.next {w : World} {B q1 q2 q3 : Nat} {T : TypeId} {r v x : Array Value} {W W' : World} (K : Wk w B q1 q2 q3 T r v x W) (hb : Below W.heap.size W W') : Wk w B q1 q2 q3 T r v x W' :=
  ⟨K.below.trans (hb.mono K.size), Nat.le_trans K.size hb.size, K.row.below' hb, K.fst.below' hb, K.snd.below' hb⟩
theorem Wk.drew {w : World} {B q1 q2 q3 : Nat} {T : TypeId} {r v x : Array Value} {W : World} (K : Wk w B q1 q2 q3 T r v x W) : Wk w B q1 q2 q3 T r v x W.drew :=
  ⟨K.below.drew, K.size, K.row.drewN 1, K.fst.drewN 1, K.snd.drewN 1⟩
end Go.Proofs.YtjeinmccahbpgaaDoor
namespace Go.Proofs.YtjeinmccahbpgaaDoor
open Go.RowKit
attribute [-go_sem] run_eql_struct run_equalIn_agg

theorem names_below {w w' : World} (h : w.cell? ⟨0, 5, none⟩ = some (.string ⟨#[112, 116, 114]⟩)) (hb : Below w.heap.size w w') : w'.cell? ⟨0, 5, none⟩ = some (.string ⟨#[112, 116, 114]⟩) :=
  (hb.cell (p := ⟨0, 5, none⟩) (by exact World.block_lt_of_cell? _ _ h)).trans h
theorem ex_int (n : Int) (l : Array Value) (h : mkInt 2 n = l) (W : World) (hT : Tab W) : Calls Tryd.prog 13 #[.int .i64 2, .int .i64 n] W fun e w' => e = .returned (.agg l) ∧ Below W.heap.size W w' := h ▸ int_any 2 n W hT
theorem ex_poison (t : Int) (l : Array Value) (h : mkPoison t = l) (W : World) : Calls Tryd.prog 15 #[.int .i64 t] W fun e w' => e = .returned (.agg l) ∧ Below W.heap.size W w' := h ▸ poison_any t W
theorem ex_pointer (W : World) : Calls Tryd.prog 17 #[.int .i64 1, .int .i64 5] W fun e w' => e = .returned (.agg #[.int .i64 5, .int .i64 1, .int .i64 5, .bool false, .bool false, .int .i64 0, .bool false, .bool false, .int .i64 0, .bool false, .bool false, .int .i64 0, .bool false, .bool false]) ∧ Below W.heap.size W w' := pointer_any 1 5 W
theorem ex_add1 (gs : Nat) (W : World) (hT : Tab W) (hV : ∃ T, Whole W gs T #[.int .i64 2, .int .i64 0, .int .i64 127, .bool false, .bool false, .int .i64 0, .bool false, .bool false, .int .i64 0, .bool false, .bool false, .int .i64 0, .bool false, .bool false, .int .i64 2, .int .i64 0, .int .i64 1, .bool false, .bool false, .int .i64 0, .bool false, .bool false, .int .i64 0, .bool false, .bool false, .int .i64 0, .bool false, .bool false]) : Calls Tryd.prog 28 #[.agg #[.int .i64 5, .int .i64 2, .int .i64 0, .slice none 0 0, .int .i64 0, .int .i64 0, .int .i64 0, .bool true], .slice (some ⟨gs, 0, none⟩) 2 2] W fun e w' => e = .returned (.tuple #[.agg #[.int .i64 2, .int .i64 0, .int .i64 0, .bool true, .bool false, .int .i64 0, .bool false, .bool false, .int .i64 0, .bool false, .bool false, .int .i64 0, .bool false, .bool false], .int .i64 0, .int .i64 0]) ∧ Below W.heap.size W w' := by
  have := eval_5 2 0 0 0 0 127 1 none 0 0 gs true W hT rfl (by rfl) (by rfl) hV
  have e1 : combN true (addO (laneT 2) 127 1) (addS (laneT 2) 127 1) = 0 := by rfl
  have e2 : (true && addO (laneT 2) 127 1) = true := by rfl
  rw [e1, e2] at this; exact this
theorem ex_add2 (gs : Nat) (W : World) (hT : Tab W) (hV : ∃ T, Whole W gs T #[.int .i64 2, .int .i64 0, .int .i64 127, .bool false, .bool false, .int .i64 0, .bool false, .bool false, .int .i64 0, .bool false, .bool false, .int .i64 0, .bool false, .bool false, .int .i64 2, .int .i64 0, .int .i64 1, .bool false, .bool false, .int .i64 0, .bool false, .bool false, .int .i64 0, .bool false, .bool false, .int .i64 0, .bool false, .bool false]) : Calls Tryd.prog 28 #[.agg #[.int .i64 5, .int .i64 2, .int .i64 0, .slice none 0 0, .int .i64 0, .int .i64 0, .int .i64 0, .bool false], .slice (some ⟨gs, 0, none⟩) 2 2] W fun e w' => e = .returned (.tuple #[.agg #[.int .i64 2, .int .i64 0, .int .i64 (-128), .bool false, .bool false, .int .i64 0, .bool false, .bool false, .int .i64 0, .bool false, .bool false, .int .i64 0, .bool false, .bool false], .int .i64 0, .int .i64 0]) ∧ Below W.heap.size W w' := by
  have := eval_5 2 0 0 0 0 127 1 none 0 0 gs false W hT rfl (by rfl) (by rfl) hV
  have e1 : combN false (addO (laneT 2) 127 1) (addS (laneT 2) 127 1) = -128 := by rfl
  have e2 : (false && addO (laneT 2) 127 1) = false := by rfl
  rw [e1, e2] at this; exact this
theorem ex_div (gs : Nat) (W : World) (hT : Tab W) (hV : ∃ T, Whole W gs T #[.int .i64 2, .int .i64 0, .int .i64 127, .bool false, .bool false, .int .i64 0, .bool false, .bool false, .int .i64 0, .bool false, .bool false, .int .i64 0, .bool false, .bool false, .int .i64 2, .int .i64 0, .int .i64 0, .bool true, .bool false, .int .i64 0, .bool false, .bool false, .int .i64 0, .bool false, .bool false, .int .i64 0, .bool false, .bool false]) : Calls Tryd.prog 28 #[.agg #[.int .i64 14, .int .i64 2, .int .i64 0, .slice none 0 0, .int .i64 0, .int .i64 0, .int .i64 0, .bool false], .slice (some ⟨gs, 0, none⟩) 2 2] W fun e w' => e = .returned (.tuple #[.agg #[.int .i64 0, .int .i64 0, .int .i64 0, .bool false, .bool false, .int .i64 0, .bool false, .bool false, .int .i64 0, .bool false, .bool false, .int .i64 0, .bool false, .bool false], .int .i64 0, .int .i64 1]) ∧ Below W.heap.size W w' :=
  eval_14 2 0 0 0 0 127 0 none 0 0 gs false W hT rfl (by rfl) (by rfl) hV
theorem ex_valid (W : World) (hT : Tab W) : Calls Tryd.prog 22 #[.agg #[.int .i64 2, .int .i64 0, .int .i64 (-128), .bool false, .bool false, .int .i64 0, .bool false, .bool false, .int .i64 0, .bool false, .bool false, .int .i64 0, .bool false, .bool false]] W fun e w' => e = .returned (.bool true) ∧ Below W.heap.size W w' := by
  have := valid_any 2 0 ⟨-128, false, false⟩ zL zL zL W hT
  have e : validB 2 0 ⟨-128, false, false⟩ zL zL zL = true := by rfl
  rw [e] at this; exact this

theorem cells_p {W : World} {q : Nat} (h : Whole W q 27 #[.int .i64 2, .int .i64 0, .int .i64 0, .bool true, .bool false, .int .i64 0, .bool false, .bool false, .int .i64 0, .bool false, .bool false, .int .i64 0, .bool false, .bool false]) : (W.cell? ⟨q, 0, none⟩ = some (.int .i64 2) ∧ W.cell? ⟨q, 1, none⟩ = some (.int .i64 0) ∧ W.cell? ⟨q, 2, none⟩ = some (.int .i64 0) ∧ W.cell? ⟨q, 3, none⟩ = some (.bool true) ∧ W.cell? ⟨q, 4, none⟩ = some (.bool false) ∧ W.cell? ⟨q, 5, none⟩ = some (.int .i64 0) ∧ W.cell? ⟨q, 6, none⟩ = some (.bool false) ∧ W.cell? ⟨q, 7, none⟩ = some (.bool false) ∧ W.cell? ⟨q, 8, none⟩ = some (.int .i64 0) ∧ W.cell? ⟨q, 9, none⟩ = some (.bool false) ∧ W.cell? ⟨q, 10, none⟩ = some (.bool false) ∧ W.cell? ⟨q, 11, none⟩ = some (.int .i64 0) ∧ W.cell? ⟨q, 12, none⟩ = some (.bool false) ∧ W.cell? ⟨q, 13, none⟩ = some (.bool false)) := ⟨h.cell 0, h.cell 1, h.cell 2, h.cell 3, h.cell 4, h.cell 5, h.cell 6, h.cell 7, h.cell 8, h.cell 9, h.cell 10, h.cell 11, h.cell 12, h.cell 13⟩
theorem cells_m {W : World} {q : Nat} (h : Whole W q 27 #[.int .i64 2, .int .i64 0, .int .i64 (-128), .bool false, .bool false, .int .i64 0, .bool false, .bool false, .int .i64 0, .bool false, .bool false, .int .i64 0, .bool false, .bool false]) : (W.cell? ⟨q, 0, none⟩ = some (.int .i64 2) ∧ W.cell? ⟨q, 1, none⟩ = some (.int .i64 0) ∧ W.cell? ⟨q, 2, none⟩ = some (.int .i64 (-128)) ∧ W.cell? ⟨q, 3, none⟩ = some (.bool false) ∧ W.cell? ⟨q, 4, none⟩ = some (.bool false) ∧ W.cell? ⟨q, 5, none⟩ = some (.int .i64 0) ∧ W.cell? ⟨q, 6, none⟩ = some (.bool false) ∧ W.cell? ⟨q, 7, none⟩ = some (.bool false) ∧ W.cell? ⟨q, 8, none⟩ = some (.int .i64 0) ∧ W.cell? ⟨q, 9, none⟩ = some (.bool false) ∧ W.cell? ⟨q, 10, none⟩ = some (.bool false) ∧ W.cell? ⟨q, 11, none⟩ = some (.int .i64 0) ∧ W.cell? ⟨q, 12, none⟩ = some (.bool false) ∧ W.cell? ⟨q, 13, none⟩ = some (.bool false)) := ⟨h.cell 0, h.cell 1, h.cell 2, h.cell 3, h.cell 4, h.cell 5, h.cell 6, h.cell 7, h.cell 8, h.cell 9, h.cell 10, h.cell 11, h.cell 12, h.cell 13⟩
theorem row_cells {W : World} {q : Nat} (h : Whole W q 27 #[.int .i64 2, .int .i64 0, .int .i64 127, .bool false, .bool false, .int .i64 0, .bool false, .bool false, .int .i64 0, .bool false, .bool false, .int .i64 0, .bool false, .bool false, .int .i64 2, .int .i64 0, .int .i64 1, .bool false, .bool false, .int .i64 0, .bool false, .bool false, .int .i64 0, .bool false, .bool false, .int .i64 0, .bool false, .bool false]) : (W.cell? ⟨q, 0, none⟩ = some (.int .i64 2) ∧ W.cell? ⟨q, 1, none⟩ = some (.int .i64 0) ∧ W.cell? ⟨q, 2, none⟩ = some (.int .i64 127) ∧ W.cell? ⟨q, 3, none⟩ = some (.bool false) ∧ W.cell? ⟨q, 4, none⟩ = some (.bool false) ∧ W.cell? ⟨q, 5, none⟩ = some (.int .i64 0) ∧ W.cell? ⟨q, 6, none⟩ = some (.bool false) ∧ W.cell? ⟨q, 7, none⟩ = some (.bool false) ∧ W.cell? ⟨q, 8, none⟩ = some (.int .i64 0) ∧ W.cell? ⟨q, 9, none⟩ = some (.bool false) ∧ W.cell? ⟨q, 10, none⟩ = some (.bool false) ∧ W.cell? ⟨q, 11, none⟩ = some (.int .i64 0) ∧ W.cell? ⟨q, 12, none⟩ = some (.bool false) ∧ W.cell? ⟨q, 13, none⟩ = some (.bool false)) := ⟨h.cell 0, h.cell 1, h.cell 2, h.cell 3, h.cell 4, h.cell 5, h.cell 6, h.cell 7, h.cell 8, h.cell 9, h.cell 10, h.cell 11, h.cell 12, h.cell 13⟩
set_option maxRecDepth 100000 in
set_option maxHeartbeats 4000000 in
theorem works_any (w : World) (hT : Tab w) (hN : w.cell? ⟨0, 5, none⟩ = some (.string ⟨#[112, 116, 114]⟩)) : Calls Tryd.prog 21 #[] w fun e w' => e = .returned (.bool true) ∧ Below w.heap.size w w' := by
  have HT := hide hT
  have HN := hide hN
  have q1 : ∀ W, Sem.run Tryd.prog (binOp .eql 27 (.agg #[.int .i64 2, .int .i64 0, .int .i64 0, .bool true, .bool false, .int .i64 0, .bool false, .bool false, .int .i64 0, .bool false, .bool false, .int .i64 0, .bool false, .bool false]) (.agg #[.int .i64 2, .int .i64 0, .int .i64 0, .bool true, .bool false, .int .i64 0, .bool false, .bool false, .int .i64 0, .bool false, .bool false, .int .i64 0, .bool false, .bool false])) W = .ok (.bool true) W := fun W => eqv 2 0 ⟨0, true, false⟩ zL zL zL W
  have q2 : ∀ W, Sem.run Tryd.prog (binOp .eql 27 (.agg #[.int .i64 2, .int .i64 0, .int .i64 (-128), .bool false, .bool false, .int .i64 0, .bool false, .bool false, .int .i64 0, .bool false, .bool false, .int .i64 0, .bool false, .bool false]) (.agg #[.int .i64 2, .int .i64 0, .int .i64 (-128), .bool false, .bool false, .int .i64 0, .bool false, .bool false, .int .i64 0, .bool false, .bool false, .int .i64 0, .bool false, .bool false])) W = .ok (.bool true) W := fun W => eqv 2 0 ⟨-128, false, false⟩ zL zL zL W
  clear hT hN
  obtain ⟨q, hq⟩ : ∃ q, w.heap.size = q := ⟨_, rfl⟩
  go_enter Tryd.func21, Tryd.ntmps21
  go_wp2_with fail
  obtain ⟨wa, hwa⟩ : ∃ z, w.alloc (.cells #[.int .i64 5, .int .i64 2, .int .i64 0, .slice none 0 0, .int .i64 0, .int .i64 0, .int .i64 0, .bool true] 38) = z := ⟨_, rfl⟩
  rw [hwa]
  have HI : Hid (Whole wa q 38 #[.int .i64 5, .int .i64 2, .int .i64 0, .slice none 0 0, .int .i64 0, .int .i64 0, .int .i64 0, .bool true]) := by show Whole _ _ _ _; rw [← hwa, ← hq]; exact Whole.new w _ _
  have HB : Hid (Below w.heap.size w wa) := by show Below _ _ _; rw [← hwa]; exact (Below.refl _ _).alloc (Nat.le_refl _) _
  have HQ := hide hq
  clear hwa hq
  refine (ex_int 127 #[.int .i64 2, .int .i64 0, .int .i64 127, .bool false, .bool false, .int .i64 0, .bool false, .bool false, .int .i64 0, .bool false, .bool false, .int .i64 0, .bool false, .bool false] (by rfl) _ (by exact HT.out.below HB.out)).mono ?_
  rintro en wb ⟨rfl, hb⟩
  replace HB : Hid (Below w.heap.size w wb) := HB.out.trans (hb.mono HB.out.size); replace HI := hide (HI.out.below' hb)
  clear hb
  go_wp2_with fail
  refine (ex_int 1 #[.int .i64 2, .int .i64 0, .int .i64 1, .bool false, .bool false, .int .i64 0, .bool false, .bool false, .int .i64 0, .bool false, .bool false, .int .i64 0, .bool false, .bool false] (by rfl) _ (by exact HT.out.below HB.out)).mono ?_
  rintro en wc ⟨rfl, hb⟩
  replace HB : Hid (Below w.heap.size w wc) := HB.out.trans (hb.mono HB.out.size); replace HI := hide (HI.out.below' hb)
  clear hb
  obtain ⟨wd, hwd⟩ : ∃ z, wc.alloc (.cells #[.int .i64 2, .int .i64 0, .int .i64 127, .bool false, .bool false, .int .i64 0, .bool false, .bool false, .int .i64 0, .bool false, .bool false, .int .i64 0, .bool false, .bool false, .int .i64 2, .int .i64 0, .int .i64 1, .bool false, .bool false, .int .i64 0, .bool false, .bool false, .int .i64 0, .bool false, .bool false, .int .i64 0, .bool false, .bool false] 27) = z := ⟨_, rfl⟩
  have HV : Hid (Whole wd wc.heap.size 27 #[.int .i64 2, .int .i64 0, .int .i64 127, .bool false, .bool false, .int .i64 0, .bool false, .bool false, .int .i64 0, .bool false, .bool false, .int .i64 0, .bool false, .bool false, .int .i64 2, .int .i64 0, .int .i64 1, .bool false, .bool false, .int .i64 0, .bool false, .bool false, .int .i64 0, .bool false, .bool false, .int .i64 0, .bool false, .bool false]) := by show Whole _ _ _ _; rw [← hwd]; exact Whole.new wc _ _
  have hqc : q < wc.heap.size := HI.out.lt
  have hbd : Below wc.heap.size wc wd := by rw [← hwd]; exact (Below.refl _ _).alloc (Nat.le_refl _) _
  replace HB : Hid (Below w.heap.size w wd) := HB.out.trans (hbd.mono HB.out.size); replace HI := hide (HI.out.below' hbd)
  have i0 : wd.cell? ⟨q, 0, none⟩ = some (.int .i64 5) := HI.out.cell 0
  have i1 : wd.cell? ⟨q, 1, none⟩ = some (.int .i64 2) := HI.out.cell 1
  have i2 : wd.cell? ⟨q, 2, none⟩ = some (.int .i64 0) := HI.out.cell 2
  have i3 : wd.cell? ⟨q, 3, none⟩ = some (.slice none 0 0) := HI.out.cell 3
  have i4 : wd.cell? ⟨q, 4, none⟩ = some (.int .i64 0) := HI.out.cell 4
  have i5 : wd.cell? ⟨q, 5, none⟩ = some (.int .i64 0) := HI.out.cell 5
  have i6 : wd.cell? ⟨q, 6, none⟩ = some (.int .i64 0) := HI.out.cell 6
  have i7 : wd.cell? ⟨q, 7, none⟩ = some (.bool true) := HI.out.cell 7
  go_wp2_with fail
  refine (ex_add1 _ _ (by exact HT.out.below HB.out) ⟨_, HV.out⟩).mono ?_
  rintro en we ⟨rfl, hb⟩
  replace HB : Hid (Below w.heap.size w we) := HB.out.trans (hb.mono HB.out.size); replace HI := hide (HI.out.below' hb); replace HV := hide (HV.out.below' hb)
  have NQ3' : Hid (q < wc.heap.size ∧ q < we.heap.size) := ⟨hqc, HI.out.lt⟩
  clear hb hbd hwd hqc i0 i1 i2 i3 i4 i5 i6 i7
  obtain ⟨wf, hwf⟩ : ∃ z, we.alloc (.cells #[.int .i64 2, .int .i64 0, .int .i64 0, .bool true, .bool false, .int .i64 0, .bool false, .bool false, .int .i64 0, .bool false, .bool false, .int .i64 0, .bool false, .bool false] 27) = z := ⟨_, rfl⟩
  have HP0 : Whole wf we.heap.size 27 #[.int .i64 2, .int .i64 0, .int .i64 0, .bool true, .bool false, .int .i64 0, .bool false, .bool false, .int .i64 0, .bool false, .bool false, .int .i64 0, .bool false, .bool false] := by rw [← hwf]; exact Whole.new we _ _
  have HP := hide HP0
  have cHP0 : wf.cell? ⟨we.heap.size, 0, none⟩ = some (.int .i64 2) := HP.out.cell 0
  have cHP1 : wf.cell? ⟨we.heap.size, 1, none⟩ = some (.int .i64 0) := HP.out.cell 1
  have cHP2 : wf.cell? ⟨we.heap.size, 2, none⟩ = some (.int .i64 0) := HP.out.cell 2
  have cHP3 : wf.cell? ⟨we.heap.size, 3, none⟩ = some (.bool true) := HP.out.cell 3
  have cHP4 : wf.cell? ⟨we.heap.size, 4, none⟩ = some (.bool false) := HP.out.cell 4
  have cHP5 : wf.cell? ⟨we.heap.size, 5, none⟩ = some (.int .i64 0) := HP.out.cell 5
  have cHP6 : wf.cell? ⟨we.heap.size, 6, none⟩ = some (.bool false) := HP.out.cell 6
  have cHP7 : wf.cell? ⟨we.heap.size, 7, none⟩ = some (.bool false) := HP.out.cell 7
  have cHP8 : wf.cell? ⟨we.heap.size, 8, none⟩ = some (.int .i64 0) := HP.out.cell 8
  have cHP9 : wf.cell? ⟨we.heap.size, 9, none⟩ = some (.bool false) := HP.out.cell 9
  have cHP10 : wf.cell? ⟨we.heap.size, 10, none⟩ = some (.bool false) := HP.out.cell 10
  have cHP11 : wf.cell? ⟨we.heap.size, 11, none⟩ = some (.int .i64 0) := HP.out.cell 11
  have cHP12 : wf.cell? ⟨we.heap.size, 12, none⟩ = some (.bool false) := HP.out.cell 12
  have cHP13 : wf.cell? ⟨we.heap.size, 13, none⟩ = some (.bool false) := HP.out.cell 13
  have fHP0 : wf.frozen? ⟨we.heap.size, 0, none⟩ = false := HP.out.free 0
  have fHP1 : wf.frozen? ⟨we.heap.size, 1, none⟩ = false := HP.out.free 1
  have fHP2 : wf.frozen? ⟨we.heap.size, 2, none⟩ = false := HP.out.free 2
  have fHP3 : wf.frozen? ⟨we.heap.size, 3, none⟩ = false := HP.out.free 3
  have fHP4 : wf.frozen? ⟨we.heap.size, 4, none⟩ = false := HP.out.free 4
  have fHP5 : wf.frozen? ⟨we.heap.size, 5, none⟩ = false := HP.out.free 5
  have fHP6 : wf.frozen? ⟨we.heap.size, 6, none⟩ = false := HP.out.free 6
  have fHP7 : wf.frozen? ⟨we.heap.size, 7, none⟩ = false := HP.out.free 7
  have fHP8 : wf.frozen? ⟨we.heap.size, 8, none⟩ = false := HP.out.free 8
  have fHP9 : wf.frozen? ⟨we.heap.size, 9, none⟩ = false := HP.out.free 9
  have fHP10 : wf.frozen? ⟨we.heap.size, 10, none⟩ = false := HP.out.free 10
  have fHP11 : wf.frozen? ⟨we.heap.size, 11, none⟩ = false := HP.out.free 11
  have fHP12 : wf.frozen? ⟨we.heap.size, 12, none⟩ = false := HP.out.free 12
  have fHP13 : wf.frozen? ⟨we.heap.size, 13, none⟩ = false := HP.out.free 13
  have eHP0 : wf.setCell ⟨we.heap.size, 0, none⟩ (.int .i64 2) = wf := by rw [← hwf]; simp [go_sem]
  have eHP1 : wf.setCell ⟨we.heap.size, 1, none⟩ (.int .i64 0) = wf := by rw [← hwf]; simp [go_sem]
  have eHP2 : wf.setCell ⟨we.heap.size, 2, none⟩ (.int .i64 0) = wf := by rw [← hwf]; simp [go_sem]
  have eHP3 : wf.setCell ⟨we.heap.size, 3, none⟩ (.bool true) = wf := by rw [← hwf]; simp [go_sem]
  have eHP4 : wf.setCell ⟨we.heap.size, 4, none⟩ (.bool false) = wf := by rw [← hwf]; simp [go_sem]
  have eHP5 : wf.setCell ⟨we.heap.size, 5, none⟩ (.int .i64 0) = wf := by rw [← hwf]; simp [go_sem]
  have eHP6 : wf.setCell ⟨we.heap.size, 6, none⟩ (.bool false) = wf := by rw [← hwf]; simp [go_sem]
  have eHP7 : wf.setCell ⟨we.heap.size, 7, none⟩ (.bool false) = wf := by rw [← hwf]; simp [go_sem]
  have eHP8 : wf.setCell ⟨we.heap.size, 8, none⟩ (.int .i64 0) = wf := by rw [← hwf]; simp [go_sem]
  have eHP9 : wf.setCell ⟨we.heap.size, 9, none⟩ (.bool false) = wf := by rw [← hwf]; simp [go_sem]
  have eHP10 : wf.setCell ⟨we.heap.size, 10, none⟩ (.bool false) = wf := by rw [← hwf]; simp [go_sem]
  have eHP11 : wf.setCell ⟨we.heap.size, 11, none⟩ (.int .i64 0) = wf := by rw [← hwf]; simp [go_sem]
  have eHP12 : wf.setCell ⟨we.heap.size, 12, none⟩ (.bool false) = wf := by rw [← hwf]; simp [go_sem]
  have eHP13 : wf.setCell ⟨we.heap.size, 13, none⟩ (.bool false) = wf := by rw [← hwf]; simp [go_sem]
  have hbwf : Below we.heap.size we wf := by rw [← hwf]; exact (Below.refl _ _).alloc (Nat.le_refl _) _
  replace HB : Hid (Below w.heap.size w wf) := HB.out.trans (hbwf.mono HB.out.size); replace HI := hide (HI.out.below' hbwf); replace HV := hide (HV.out.below' hbwf)
  have i7 : wf.cell? ⟨q, 7, none⟩ = some (.bool true) := HI.out.cell 7
  have j7 : wf.frozen? ⟨q, 7, none⟩ = false := HI.out.free 7
  obtain ⟨wg, hwg⟩ : ∃ z, wf.setCell ⟨q, 7, none⟩ (.bool false) = z := ⟨_, rfl⟩
  have NP : wc.heap.size ≠ q ∧ we.heap.size ≠ q := ⟨by have := NQ3'.out.1; omega, by have := NQ3'.out.2; omega⟩
  replace HI : Hid (Whole wg q 38 #[.int .i64 5, .int .i64 2, .int .i64 0, .slice none 0 0, .int .i64 0, .int .i64 0, .int .i64 0, .bool false]) := by show Whole _ _ _ _; rw [← hwg]; exact HI.out.set 7 _
  replace HV := hide (show Whole wg _ _ _ by rw [← hwg]; exact HV.out.far (p := ⟨q, 7, none⟩) NP.1 _)
  have HP2 := hide (show Whole wg _ _ _ by rw [← hwg]; exact HP.out.far (p := ⟨q, 7, none⟩) NP.2 _)
  have HBf := HB.out
  replace HB : Hid (Below w.heap.size w wg) := by show Below _ _ _; rw [← hwg]; exact HB.out.setCell (p := ⟨q, 7, none⟩) (by rw [HQ.out]; exact Nat.le_refl _) _
  have n0 : wg.cell? ⟨q, 0, none⟩ = some (.int .i64 5) := HI.out.cell 0
  have n1 : wg.cell? ⟨q, 1, none⟩ = some (.int .i64 2) := HI.out.cell 1
  have n2 : wg.cell? ⟨q, 2, none⟩ = some (.int .i64 0) := HI.out.cell 2
  have n3 : wg.cell? ⟨q, 3, none⟩ = some (.slice none 0 0) := HI.out.cell 3
  have n4 : wg.cell? ⟨q, 4, none⟩ = some (.int .i64 0) := HI.out.cell 4
  have n5 : wg.cell? ⟨q, 5, none⟩ = some (.int .i64 0) := HI.out.cell 5
  have n6 : wg.cell? ⟨q, 6, none⟩ = some (.int .i64 0) := HI.out.cell 6
  have n7 : wg.cell? ⟨q, 7, none⟩ = some (.bool false) := HI.out.cell 7
  clear HBf
  go_wp2_with fail
  refine (ex_add2 _ _ (by exact HT.out.below HB.out) ⟨_, HV.out⟩).mono ?_
  rintro en wh ⟨rfl, hb⟩
  replace HB : Hid (Below w.heap.size w wh) := HB.out.trans (hb.mono HB.out.size); replace HI := hide (HI.out.below' hb); replace HV := hide (HV.out.below' hb); replace HP2 := hide (HP2.out.below' hb)
  clear hb hwg hwf hbwf i7 j7 n0 n1 n2 n3 n4 n5 n6 n7 cHP0 fHP0 eHP0 cHP1 fHP1 eHP1 cHP2 fHP2 eHP2 cHP3 fHP3 eHP3 cHP4 fHP4 eHP4 cHP5 fHP5 eHP5 cHP6 fHP6 eHP6 cHP7 fHP7 eHP7 cHP8 fHP8 eHP8 cHP9 fHP9 eHP9 cHP10 fHP10 eHP10 cHP11 fHP11 eHP11 cHP12 fHP12 eHP12 cHP13 fHP13 eHP13 HP HP0
  obtain ⟨wi, hwi⟩ : ∃ z, wh.alloc (.cells #[.int .i64 2, .int .i64 0, .int .i64 (-128), .bool false, .bool false, .int .i64 0, .bool false, .bool false, .int .i64 0, .bool false, .bool false, .int .i64 0, .bool false, .bool false] 27) = z := ⟨_, rfl⟩
  have HM0 : Whole wi wh.heap.size 27 #[.int .i64 2, .int .i64 0, .int .i64 (-128), .bool false, .bool false, .int .i64 0, .bool false, .bool false, .int .i64 0, .bool false, .bool false, .int .i64 0, .bool false, .bool false] := by rw [← hwi]; exact Whole.new wh _ _
  have HM := hide HM0
  have cHM0 : wi.cell? ⟨wh.heap.size, 0, none⟩ = some (.int .i64 2) := HM.out.cell 0
  have cHM1 : wi.cell? ⟨wh.heap.size, 1, none⟩ = some (.int .i64 0) := HM.out.cell 1
  have cHM2 : wi.cell? ⟨wh.heap.size, 2, none⟩ = some (.int .i64 (-128)) := HM.out.cell 2
  have cHM3 : wi.cell? ⟨wh.heap.size, 3, none⟩ = some (.bool false) := HM.out.cell 3
  have cHM4 : wi.cell? ⟨wh.heap.size, 4, none⟩ = some (.bool false) := HM.out.cell 4
  have cHM5 : wi.cell? ⟨wh.heap.size, 5, none⟩ = some (.int .i64 0) := HM.out.cell 5
  have cHM6 : wi.cell? ⟨wh.heap.size, 6, none⟩ = some (.bool false) := HM.out.cell 6
  have cHM7 : wi.cell? ⟨wh.heap.size, 7, none⟩ = some (.bool false) := HM.out.cell 7
  have cHM8 : wi.cell? ⟨wh.heap.size, 8, none⟩ = some (.int .i64 0) := HM.out.cell 8
  have cHM9 : wi.cell? ⟨wh.heap.size, 9, none⟩ = some (.bool false) := HM.out.cell 9
  have cHM10 : wi.cell? ⟨wh.heap.size, 10, none⟩ = some (.bool false) := HM.out.cell 10
  have cHM11 : wi.cell? ⟨wh.heap.size, 11, none⟩ = some (.int .i64 0) := HM.out.cell 11
  have cHM12 : wi.cell? ⟨wh.heap.size, 12, none⟩ = some (.bool false) := HM.out.cell 12
  have cHM13 : wi.cell? ⟨wh.heap.size, 13, none⟩ = some (.bool false) := HM.out.cell 13
  have fHM0 : wi.frozen? ⟨wh.heap.size, 0, none⟩ = false := HM.out.free 0
  have fHM1 : wi.frozen? ⟨wh.heap.size, 1, none⟩ = false := HM.out.free 1
  have fHM2 : wi.frozen? ⟨wh.heap.size, 2, none⟩ = false := HM.out.free 2
  have fHM3 : wi.frozen? ⟨wh.heap.size, 3, none⟩ = false := HM.out.free 3
  have fHM4 : wi.frozen? ⟨wh.heap.size, 4, none⟩ = false := HM.out.free 4
  have fHM5 : wi.frozen? ⟨wh.heap.size, 5, none⟩ = false := HM.out.free 5
  have fHM6 : wi.frozen? ⟨wh.heap.size, 6, none⟩ = false := HM.out.free 6
  have fHM7 : wi.frozen? ⟨wh.heap.size, 7, none⟩ = false := HM.out.free 7
  have fHM8 : wi.frozen? ⟨wh.heap.size, 8, none⟩ = false := HM.out.free 8
  have fHM9 : wi.frozen? ⟨wh.heap.size, 9, none⟩ = false := HM.out.free 9
  have fHM10 : wi.frozen? ⟨wh.heap.size, 10, none⟩ = false := HM.out.free 10
  have fHM11 : wi.frozen? ⟨wh.heap.size, 11, none⟩ = false := HM.out.free 11
  have fHM12 : wi.frozen? ⟨wh.heap.size, 12, none⟩ = false := HM.out.free 12
  have fHM13 : wi.frozen? ⟨wh.heap.size, 13, none⟩ = false := HM.out.free 13
  have eHM0 : wi.setCell ⟨wh.heap.size, 0, none⟩ (.int .i64 2) = wi := by rw [← hwi]; simp [go_sem]
  have eHM1 : wi.setCell ⟨wh.heap.size, 1, none⟩ (.int .i64 0) = wi := by rw [← hwi]; simp [go_sem]
  have eHM2 : wi.setCell ⟨wh.heap.size, 2, none⟩ (.int .i64 (-128)) = wi := by rw [← hwi]; simp [go_sem]
  have eHM3 : wi.setCell ⟨wh.heap.size, 3, none⟩ (.bool false) = wi := by rw [← hwi]; simp [go_sem]
  have eHM4 : wi.setCell ⟨wh.heap.size, 4, none⟩ (.bool false) = wi := by rw [← hwi]; simp [go_sem]
  have eHM5 : wi.setCell ⟨wh.heap.size, 5, none⟩ (.int .i64 0) = wi := by rw [← hwi]; simp [go_sem]
  have eHM6 : wi.setCell ⟨wh.heap.size, 6, none⟩ (.bool false) = wi := by rw [← hwi]; simp [go_sem]
  have eHM7 : wi.setCell ⟨wh.heap.size, 7, none⟩ (.bool false) = wi := by rw [← hwi]; simp [go_sem]
  have eHM8 : wi.setCell ⟨wh.heap.size, 8, none⟩ (.int .i64 0) = wi := by rw [← hwi]; simp [go_sem]
  have eHM9 : wi.setCell ⟨wh.heap.size, 9, none⟩ (.bool false) = wi := by rw [← hwi]; simp [go_sem]
  have eHM10 : wi.setCell ⟨wh.heap.size, 10, none⟩ (.bool false) = wi := by rw [← hwi]; simp [go_sem]
  have eHM11 : wi.setCell ⟨wh.heap.size, 11, none⟩ (.int .i64 0) = wi := by rw [← hwi]; simp [go_sem]
  have eHM12 : wi.setCell ⟨wh.heap.size, 12, none⟩ (.bool false) = wi := by rw [← hwi]; simp [go_sem]
  have eHM13 : wi.setCell ⟨wh.heap.size, 13, none⟩ (.bool false) = wi := by rw [← hwi]; simp [go_sem]
  have hbwi : Below wh.heap.size wh wi := by rw [← hwi]; exact (Below.refl _ _).alloc (Nat.le_refl _) _
  replace HB : Hid (Below w.heap.size w wi) := HB.out.trans (hbwi.mono HB.out.size); replace HV := hide (HV.out.below' hbwi); replace HP2 := hide (HP2.out.below' hbwi)
  go_upto_region 6 with fail
  have K : Hid (Wk w w.heap.size wc.heap.size we.heap.size wh.heap.size 27 #[.int .i64 2, .int .i64 0, .int .i64 127, .bool false, .bool false, .int .i64 0, .bool false, .bool false, .int .i64 0, .bool false, .bool false, .int .i64 0, .bool false, .bool false, .int .i64 2, .int .i64 0, .int .i64 1, .bool false, .bool false, .int .i64 0, .bool false, .bool false, .int .i64 0, .bool false, .bool false, .int .i64 0, .bool false, .bool false] #[.int .i64 2, .int .i64 0, .int .i64 0, .bool true, .bool false, .int .i64 0, .bool false, .bool false, .int .i64 0, .bool false, .bool false, .int .i64 0, .bool false, .bool false] #[.int .i64 2, .int .i64 0, .int .i64 (-128), .bool false, .bool false, .int .i64 0, .bool false, .bool false, .int .i64 0, .bool false, .bool false, .int .i64 0, .bool false, .bool false] wi) := hide ⟨HB.out, HB.out.size, HV.out, HP2.out, HM.out⟩
  clear hwi hbwi cHM0 fHM0 eHM0 cHM1 fHM1 eHM1 cHM2 fHM2 eHM2 cHM3 fHM3 eHM3 cHM4 fHM4 eHM4 cHM5 fHM5 eHM5 cHM6 fHM6 eHM6 cHM7 fHM7 eHM7 cHM8 fHM8 eHM8 cHM9 fHM9 eHM9 cHM10 fHM10 eHM10 cHM11 fHM11 eHM11 cHM12 fHM12 eHM12 cHM13 fHM13 eHM13 HM HM0 HB HV HP2
  go_cut [11] from 12 (fun e wx => e = .int .i64 1 ∧ Wk w w.heap.size wc.heap.size we.heap.size wh.heap.size 27 #[.int .i64 2, .int .i64 0, .int .i64 127, .bool false, .bool false, .int .i64 0, .bool false, .bool false, .int .i64 0, .bool false, .bool false, .int .i64 0, .bool false, .bool false, .int .i64 2, .int .i64 0, .int .i64 1, .bool false, .bool false, .int .i64 0, .bool false, .bool false, .int .i64 0, .bool false, .bool false, .int .i64 0, .bool false, .bool false] #[.int .i64 2, .int .i64 0, .int .i64 0, .bool true, .bool false, .int .i64 0, .bool false, .bool false, .int .i64 0, .bool false, .bool false, .int .i64 0, .bool false, .bool false] #[.int .i64 2, .int .i64 0, .int .i64 (-128), .bool false, .bool false, .int .i64 0, .bool false, .bool false, .int .i64 0, .bool false, .bool false, .int .i64 0, .bool false, .bool false] wx)
  case first =>
    go_region_held3 (fun w' => (w'.cell? ⟨wc.heap.size, 0, none⟩ = some (.int .i64 2) ∧ w'.cell? ⟨wc.heap.size, 1, none⟩ = some (.int .i64 0) ∧ w'.cell? ⟨wc.heap.size, 2, none⟩ = some (.int .i64 127) ∧ w'.cell? ⟨wc.heap.size, 3, none⟩ = some (.bool false) ∧ w'.cell? ⟨wc.heap.size, 4, none⟩ = some (.bool false) ∧ w'.cell? ⟨wc.heap.size, 5, none⟩ = some (.int .i64 0) ∧ w'.cell? ⟨wc.heap.size, 6, none⟩ = some (.bool false) ∧ w'.cell? ⟨wc.heap.size, 7, none⟩ = some (.bool false) ∧ w'.cell? ⟨wc.heap.size, 8, none⟩ = some (.int .i64 0) ∧ w'.cell? ⟨wc.heap.size, 9, none⟩ = some (.bool false) ∧ w'.cell? ⟨wc.heap.size, 10, none⟩ = some (.bool false) ∧ w'.cell? ⟨wc.heap.size, 11, none⟩ = some (.int .i64 0) ∧ w'.cell? ⟨wc.heap.size, 12, none⟩ = some (.bool false) ∧ w'.cell? ⟨wc.heap.size, 13, none⟩ = some (.bool false))) (first | with_reducible exact row_cells K.out.row | with_reducible exact row_cells K.out.drew.row | with_reducible exact row_cells (K.out.alloc _).drew.row | with_reducible exact row_cells (K.out.alloc _).row | with_reducible exact row_cells ((K.out.alloc _).alloc _).row | with_reducible exact row_cells (((K.out.alloc _).alloc _).alloc _).row | (rw [idle14 HZ.out]; exact row_cells K.out.row) | (fail "keep")) (first | (go_at_call 15; refine (ex_poison 2 #[.int .i64 2, .int .i64 0, .int .i64 0, .bool true, .bool false, .int .i64 0, .bool false, .bool false, .int .i64 0, .bool false, .bool false, .int .i64 0, .bool false, .bool false] (by rfl) _).mono ?_; rintro en wn ⟨rfl, hb⟩; (first | (replace K : Hid (Wk w w.heap.size wc.heap.size we.heap.size wh.heap.size 27 #[.int .i64 2, .int .i64 0, .int .i64 127, .bool false, .bool false, .int .i64 0, .bool false, .bool false, .int .i64 0, .bool false, .bool false, .int .i64 0, .bool false, .bool false, .int .i64 2, .int .i64 0, .int .i64 1, .bool false, .bool false, .int .i64 0, .bool false, .bool false, .int .i64 0, .bool false, .bool false, .int .i64 0, .bool false, .bool false] #[.int .i64 2, .int .i64 0, .int .i64 0, .bool true, .bool false, .int .i64 0, .bool false, .bool false, .int .i64 0, .bool false, .bool false, .int .i64 0, .bool false, .bool false] #[.int .i64 2, .int .i64 0, .int .i64 (-128), .bool false, .bool false, .int .i64 0, .bool false, .bool false, .int .i64 0, .bool false, .bool false, .int .i64 0, .bool false, .bool false] wn) := (by with_reducible exact hide ((K.out.drew).next hb))) | (replace K : Hid (Wk w w.heap.size wc.heap.size we.heap.size wh.heap.size 27 #[.int .i64 2, .int .i64 0, .int .i64 127, .bool false, .bool false, .int .i64 0, .bool false, .bool false, .int .i64 0, .bool false, .bool false, .int .i64 0, .bool false, .bool false, .int .i64 2, .int .i64 0, .int .i64 1, .bool false, .bool false, .int .i64 0, .bool false, .bool false, .int .i64 0, .bool false, .bool false, .int .i64 0, .bool false, .bool false] #[.int .i64 2, .int .i64 0, .int .i64 0, .bool true, .bool false, .int .i64 0, .bool false, .bool false, .int .i64 0, .bool false, .bool false, .int .i64 0, .bool false, .bool false] #[.int .i64 2, .int .i64 0, .int .i64 (-128), .bool false, .bool false, .int .i64 0, .bool false, .bool false, .int .i64 0, .bool false, .bool false, .int .i64 0, .bool false, .bool false] wn) := (by with_reducible exact hide (((K.out.alloc _).drew).next hb)); have HZ : Hid (Whole wn _ 27 #[.int .i64 0, .int .i64 0, .int .i64 0, .bool false, .bool false, .int .i64 0, .bool false, .bool false, .int .i64 0, .bool false, .bool false, .int .i64 0, .bool false, .bool false]) := hide ((Whole.new0 _ _ _).below' hb))); clear hb) | (go_at_call 28; refine (ex_div _ _ (HT.out.below (by first | with_reducible exact (K.out.alloc _).below | with_reducible exact ((K.out.alloc _).alloc _).below)) ⟨27, by first | with_reducible exact Whole.new _ _ _ | with_reducible exact Whole.new1 _ _ _ _ | with_reducible exact (Whole.new _ _ _).alloc _⟩).mono ?_; rintro en wn ⟨rfl, hb⟩; (first | (replace K : Hid (Wk w w.heap.size wc.heap.size we.heap.size wh.heap.size 27 #[.int .i64 2, .int .i64 0, .int .i64 127, .bool false, .bool false, .int .i64 0, .bool false, .bool false, .int .i64 0, .bool false, .bool false, .int .i64 0, .bool false, .bool false, .int .i64 2, .int .i64 0, .int .i64 1, .bool false, .bool false, .int .i64 0, .bool false, .bool false, .int .i64 0, .bool false, .bool false, .int .i64 0, .bool false, .bool false] #[.int .i64 2, .int .i64 0, .int .i64 0, .bool true, .bool false, .int .i64 0, .bool false, .bool false, .int .i64 0, .bool false, .bool false, .int .i64 0, .bool false, .bool false] #[.int .i64 2, .int .i64 0, .int .i64 (-128), .bool false, .bool false, .int .i64 0, .bool false, .bool false, .int .i64 0, .bool false, .bool false, .int .i64 0, .bool false, .bool false] wn) := (by with_reducible exact hide ((K.out.alloc _).next hb)); (try (replace HZ : Hid (Whole wn _ 27 #[.int .i64 0, .int .i64 0, .int .i64 0, .bool false, .bool false, .int .i64 0, .bool false, .bool false, .int .i64 0, .bool false, .bool false, .int .i64 0, .bool false, .bool false]) := hide ((HZ.out.alloc _).below' hb); have z0 : _ = some _ := HZ.out.cell 0; have y0 := HZ.out.free 0; have z1 : _ = some _ := HZ.out.cell 1; have y1 := HZ.out.free 1; have z2 : _ = some _ := HZ.out.cell 2; have y2 := HZ.out.free 2; have z3 : _ = some _ := HZ.out.cell 3; have y3 := HZ.out.free 3; have z4 : _ = some _ := HZ.out.cell 4; have y4 := HZ.out.free 4; have z5 : _ = some _ := HZ.out.cell 5; have y5 := HZ.out.free 5; have z6 : _ = some _ := HZ.out.cell 6; have y6 := HZ.out.free 6; have z7 : _ = some _ := HZ.out.cell 7; have y7 := HZ.out.free 7; have z8 : _ = some _ := HZ.out.cell 8; have y8 := HZ.out.free 8; have z9 : _ = some _ := HZ.out.cell 9; have y9 := HZ.out.free 9; have z10 : _ = some _ := HZ.out.cell 10; have y10 := HZ.out.free 10; have z11 : _ = some _ := HZ.out.cell 11; have y11 := HZ.out.free 11; have z12 : _ = some _ := HZ.out.cell 12; have y12 := HZ.out.free 12; have z13 : _ = some _ := HZ.out.cell 13; have y13 := HZ.out.free 13))) | (replace K : Hid (Wk w w.heap.size wc.heap.size we.heap.size wh.heap.size 27 #[.int .i64 2, .int .i64 0, .int .i64 127, .bool false, .bool false, .int .i64 0, .bool false, .bool false, .int .i64 0, .bool false, .bool false, .int .i64 0, .bool false, .bool false, .int .i64 2, .int .i64 0, .int .i64 1, .bool false, .bool false, .int .i64 0, .bool false, .bool false, .int .i64 0, .bool false, .bool false, .int .i64 0, .bool false, .bool false] #[.int .i64 2, .int .i64 0, .int .i64 0, .bool true, .bool false, .int .i64 0, .bool false, .bool false, .int .i64 0, .bool false, .bool false, .int .i64 0, .bool false, .bool false] #[.int .i64 2, .int .i64 0, .int .i64 (-128), .bool false, .bool false, .int .i64 0, .bool false, .bool false, .int .i64 0, .bool false, .bool false, .int .i64 0, .bool false, .bool false] wn) := (by with_reducible exact hide (((K.out.alloc _).alloc _).next hb)); have HZ : Hid (Whole wn _ 27 #[.int .i64 0, .int .i64 0, .int .i64 0, .bool false, .bool false, .int .i64 0, .bool false, .bool false, .int .i64 0, .bool false, .bool false, .int .i64 0, .bool false, .bool false]) := (by first | with_reducible exact hide (((Whole.new _ _ _).alloc _).below' hb) | with_reducible exact hide ((Whole.new1 _ _ _ _).below' hb)); have z0 : _ = some _ := HZ.out.cell 0; have y0 := HZ.out.free 0; have z1 : _ = some _ := HZ.out.cell 1; have y1 := HZ.out.free 1; have z2 : _ = some _ := HZ.out.cell 2; have y2 := HZ.out.free 2; have z3 : _ = some _ := HZ.out.cell 3; have y3 := HZ.out.free 3; have z4 : _ = some _ := HZ.out.cell 4; have y4 := HZ.out.free 4; have z5 : _ = some _ := HZ.out.cell 5; have y5 := HZ.out.free 5; have z6 : _ = some _ := HZ.out.cell 6; have y6 := HZ.out.free 6; have z7 : _ = some _ := HZ.out.cell 7; have y7 := HZ.out.free 7; have z8 : _ = some _ := HZ.out.cell 8; have y8 := HZ.out.free 8; have z9 : _ = some _ := HZ.out.cell 9; have y9 := HZ.out.free 9; have z10 : _ = some _ := HZ.out.cell 10; have y10 := HZ.out.free 10; have z11 : _ = some _ := HZ.out.cell 11; have y11 := HZ.out.free 11; have z12 : _ = some _ := HZ.out.cell 12; have y12 := HZ.out.free 12; have z13 : _ = some _ := HZ.out.cell 13; have y13 := HZ.out.free 13)); clear hb))
    all_goals
      go_wp2_with fail
      go_meet
      case rel => exact ⟨rfl, by first | with_reducible exact K.out | with_reducible exact K.out.alloc _ | (rw [idle14 HZ.out]; exact K.out) | (fail "rel")⟩
  case rest =>
    have K := hide hcut.2.drew
    obtain ⟨rfl, -⟩ := hcut
    have HPa : Hid (∀ W, Calls Tryd.prog 15 #[.int .i64 2] W fun e w' => e = .returned (.agg #[.int .i64 2, .int .i64 0, .int .i64 0, .bool true, .bool false, .int .i64 0, .bool false, .bool false, .int .i64 0, .bool false, .bool false, .int .i64 0, .bool false, .bool false]) ∧ Below W.heap.size W w') := hide fun W => ex_poison 2 #[.int .i64 2, .int .i64 0, .int .i64 0, .bool true, .bool false, .int .i64 0, .bool false, .bool false, .int .i64 0, .bool false, .bool false, .int .i64 0, .bool false, .bool false] (by rfl) W
    have HPb : Hid (∀ W, Calls Tryd.prog 15 #[.int .i64 5] W fun e w' => e = .returned (.agg #[.int .i64 5, .int .i64 0, .int .i64 0, .bool true, .bool false, .int .i64 0, .bool false, .bool false, .int .i64 0, .bool false, .bool false, .int .i64 0, .bool false, .bool false]) ∧ Below W.heap.size W w') := hide fun W => ex_poison 5 #[.int .i64 5, .int .i64 0, .int .i64 0, .bool true, .bool false, .int .i64 0, .bool false, .bool false, .int .i64 0, .bool false, .bool false, .int .i64 0, .bool false, .bool false] (by rfl) W
    have HIn : Hid (∀ W, Tab W → Calls Tryd.prog 13 #[.int .i64 2, .int .i64 (-128)] W fun e w' => e = .returned (.agg #[.int .i64 2, .int .i64 0, .int .i64 (-128), .bool false, .bool false, .int .i64 0, .bool false, .bool false, .int .i64 0, .bool false, .bool false, .int .i64 0, .bool false, .bool false]) ∧ Below W.heap.size W w') := hide fun W h => ex_int (-128) #[.int .i64 2, .int .i64 0, .int .i64 (-128), .bool false, .bool false, .int .i64 0, .bool false, .bool false, .int .i64 0, .bool false, .bool false, .int .i64 0, .bool false, .bool false] (by rfl) W h
    go_upto_region 7 with fail
    go_region_held3 (fun w' => (w'.cell? ⟨we.heap.size, 0, none⟩ = some (.int .i64 2) ∧ w'.cell? ⟨we.heap.size, 1, none⟩ = some (.int .i64 0) ∧ w'.cell? ⟨we.heap.size, 2, none⟩ = some (.int .i64 0) ∧ w'.cell? ⟨we.heap.size, 3, none⟩ = some (.bool true) ∧ w'.cell? ⟨we.heap.size, 4, none⟩ = some (.bool false) ∧ w'.cell? ⟨we.heap.size, 5, none⟩ = some (.int .i64 0) ∧ w'.cell? ⟨we.heap.size, 6, none⟩ = some (.bool false) ∧ w'.cell? ⟨we.heap.size, 7, none⟩ = some (.bool false) ∧ w'.cell? ⟨we.heap.size, 8, none⟩ = some (.int .i64 0) ∧ w'.cell? ⟨we.heap.size, 9, none⟩ = some (.bool false) ∧ w'.cell? ⟨we.heap.size, 10, none⟩ = some (.bool false) ∧ w'.cell? ⟨we.heap.size, 11, none⟩ = some (.int .i64 0) ∧ w'.cell? ⟨we.heap.size, 12, none⟩ = some (.bool false) ∧ w'.cell? ⟨we.heap.size, 13, none⟩ = some (.bool false)) ∧ (w'.cell? ⟨wh.heap.size, 0, none⟩ = some (.int .i64 2) ∧ w'.cell? ⟨wh.heap.size, 1, none⟩ = some (.int .i64 0) ∧ w'.cell? ⟨wh.heap.size, 2, none⟩ = some (.int .i64 (-128)) ∧ w'.cell? ⟨wh.heap.size, 3, none⟩ = some (.bool false) ∧ w'.cell? ⟨wh.heap.size, 4, none⟩ = some (.bool false) ∧ w'.cell? ⟨wh.heap.size, 5, none⟩ = some (.int .i64 0) ∧ w'.cell? ⟨wh.heap.size, 6, none⟩ = some (.bool false) ∧ w'.cell? ⟨wh.heap.size, 7, none⟩ = some (.bool false) ∧ w'.cell? ⟨wh.heap.size, 8, none⟩ = some (.int .i64 0) ∧ w'.cell? ⟨wh.heap.size, 9, none⟩ = some (.bool false) ∧ w'.cell? ⟨wh.heap.size, 10, none⟩ = some (.bool false) ∧ w'.cell? ⟨wh.heap.size, 11, none⟩ = some (.int .i64 0) ∧ w'.cell? ⟨wh.heap.size, 12, none⟩ = some (.bool false) ∧ w'.cell? ⟨wh.heap.size, 13, none⟩ = some (.bool false))) (first | with_reducible exact ⟨cells_p K.out.fst, cells_m K.out.snd⟩ | (fail "keep7")) (first | (go_at_call 15; with_reducible refine Calls.mono (HPa.out _) ?_; rintro en wn ⟨rfl, hb⟩; replace K := hide (K.out.next hb); clear hb) | (go_at_call 15; with_reducible refine Calls.mono (HPb.out _) ?_; rintro en wn ⟨rfl, hb⟩; replace K := hide (K.out.next hb); clear hb) | (go_at_call 13; with_reducible refine Calls.mono (HIn.out _ (HT.out.below K.out.below)) ?_; rintro en wn ⟨rfl, hb⟩; replace K := hide (K.out.next hb); clear hb) | (go_at_call 17; with_reducible refine Calls.mono (ex_pointer _) ?_; rintro en wn ⟨rfl, hb⟩; replace K := hide (K.out.next hb); clear hb) | (go_at_call 30; with_reducible refine Calls.mono (format_ptr _ (HT.out.below K.out.below) (names_below HN.out K.out.below)) ?_; rintro en wn ⟨rfl, hb⟩; replace K := hide (K.out.next hb); clear hb) | (go_at_call 30; with_reducible refine Calls.mono (format_poi _ (HT.out.below K.out.below) (names_below HN.out K.out.below)) ?_; rintro en wn ⟨rfl, hb⟩; replace K := hide (K.out.next hb); clear hb) | (go_at_call 22; with_reducible refine Calls.mono (ex_valid _ (HT.out.below K.out.below)) ?_; rintro en wn ⟨rfl, hb⟩; replace K := hide (K.out.next hb); clear hb))
    all_goals
      go_wp2_with fail
      go_ret
      exact ⟨rfl, K.out.below⟩
end Go.Proofs.YtjeinmccahbpgaaDoor

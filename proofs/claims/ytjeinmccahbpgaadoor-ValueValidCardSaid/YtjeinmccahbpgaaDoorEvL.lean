/-
  Layer 11 (value): a store that leaves a block as it was; what the chapter's examples keep.
-/
import Derived.Test.YtjeinmccahbpgaaDoorEvA
namespace Go.Proofs.YtjeinmccahbpgaaDoor
open Go.RowKit

theorem Whole.idle {w : World} {g : Nat} {T : TypeId} {cs : Array Value} (h : Whole w g T cs) (i : Nat) {v : Value} (hi : cs[i]? = some v) : w.setCell ⟨g, i, none⟩ v = w := by
  have h' : w.heap[g]? = some (.cells cs T (0, 0)) := h
  obtain ⟨hg, hgv⟩ := Array.getElem?_eq_some_iff.1 h'
  obtain ⟨hk, hkv⟩ := Array.getElem?_eq_some_iff.1 hi
  have e : cs.setIfInBounds i v = cs := by
    apply Array.ext (by simp)
    intro j h1 h2
    rw [Array.getElem_setIfInBounds]
    split
    · rename_i hij; subst hij; exact hkv.symm
    · rfl
  have e2 : w.heap.modify g (fun
      | .cells c elem frozen => .cells (if (none : Option Nat).isSome then c else c.setIfInBounds i v) elem frozen
      | o => o) = w.heap := by
    apply Array.ext (by simp)
    intro j h1 h2
    rw [Array.getElem_modify]
    split
    · rename_i hij; subst hij; rw [hgv]; simp [e]
    · rfl
  cases w
  exact congrArg (fun hp => World.mk hp _ _ _ _) e2

theorem Whole.new0 (w : World) (T : TypeId) (cs : Array Value) : Whole (w.alloc (.cells cs T)).drew w.heap.size T cs := Whole.new w T cs
theorem Whole.new1 (w : World) (o : Obj) (T : TypeId) (cs : Array Value) : Whole ((w.alloc o).alloc (.cells cs T)) (w.heap.size + 1) T cs := by
  have h := Whole.new (w.alloc o) T cs
  rwa [World.size_alloc] at h

theorem idle14 {W : World} {k : Nat} {T : TypeId} (h : Whole W k T #[.int .i64 0, .int .i64 0, .int .i64 0, .bool false, .bool false, .int .i64 0, .bool false, .bool false, .int .i64 0, .bool false, .bool false, .int .i64 0, .bool false, .bool false]) : (((((((((((((W.setCell ⟨k, 0, none⟩ (.int .i64 0)).setCell ⟨k, 1, none⟩ (.int .i64 0)).setCell ⟨k, 2, none⟩ (.int .i64 0)).setCell ⟨k, 3, none⟩ (.bool false)).setCell ⟨k, 4, none⟩ (.bool false)).setCell ⟨k, 5, none⟩ (.int .i64 0)).setCell ⟨k, 6, none⟩ (.bool false)).setCell ⟨k, 7, none⟩ (.bool false)).setCell ⟨k, 8, none⟩ (.int .i64 0)).setCell ⟨k, 9, none⟩ (.bool false)).setCell ⟨k, 10, none⟩ (.bool false)).setCell ⟨k, 11, none⟩ (.int .i64 0)).setCell ⟨k, 12, none⟩ (.bool false)).setCell ⟨k, 13, none⟩ (.bool false) = W := by
  rw [h.idle 0 (by rfl), h.idle 1 (by rfl), h.idle 2 (by rfl), h.idle 3 (by rfl), h.idle 4 (by rfl), h.idle 5 (by rfl), h.idle 6 (by rfl), h.idle 7 (by rfl), h.idle 8 (by rfl), h.idle 9 (by rfl), h.idle 10 (by rfl), h.idle 11 (by rfl), h.idle 12 (by rfl), h.idle 13 (by rfl)]

/-- What region six of the examples keeps: the row of two values, the values v and w. -/
structure Wk (w : World) (B q1 q2 q3 : Nat) (T : TypeId) (r v x : Array Value) (W : World) : Prop where
  below : Below B w W
  size : B ≤ W.heap.size
  row : Whole W q1 T r
  fst : Whole W q2 T v
  snd : Whole W q3 T x
theorem Wk.alloc {w : World} {B q1 q2 q3 : Nat} {T : TypeId} {r v x : Array Value} {W : World} (K : Wk w B q1 q2 q3 T r v x W) (o : Obj) : Wk w B q1 q2 q3 T r v x (W.alloc o) :=
  ⟨K.below.alloc K.size o, by have := K.size; simp [World.size_alloc]; omega, K.row.alloc _, K.fst.alloc _, K.snd.alloc _⟩
theorem Wk.next {w : World} {B q1 q2 q3 : Nat} {T : TypeId} {r v x : Array Value} {W W' : World} (K : Wk w B q1 q2 q3 T r v x W) (hb : Below W.heap.size W W') : Wk w B q1 q2 q3 T r v x W' :=
  ⟨K.below.trans (hb.mono K.size), Nat.le_trans K.size hb.size, K.row.below' hb, K.fst.below' hb, K.snd.below' hb⟩
theorem Wk.drew {w : World} {B q1 q2 q3 : Nat} {T : TypeId} {r v x : Array Value} {W : World} (K : Wk w B q1 q2 q3 T r v x W) : Wk w B q1 q2 q3 T r v x W.drew :=
  ⟨K.below.drew, K.size, K.row.drewN 1, K.fst.drewN 1, K.snd.drewN 1⟩
end Go.Proofs.YtjeinmccahbpgaaDoor

/-
  Steps for whole structs: load, store, build (texts of layer 20, for this seat).
-/
import Derived.Deep.MidRow
import Derived.Deep.Cut
import Derived.BigFrame
import Derived.Test.YtnhaanjpcnnifaaDoorVals
import Derived.Test.YtnhaanjpcnnifaaDoorBlock
namespace Go.Proofs.YtnhaanjpcnnifaaDoor
open Go.RowKit

theorem Whole.range {w : World} {g : Nat} {t : TypeId} {l : List Value} (h : Whole w g t l.toArray) : w.rangeAt g 0 l := fun j v hv => by
  rw [Nat.zero_add, h.cell j, List.getElem?_toArray]
  exact hv
theorem setCells_new (w : World) (T : TypeId) : ∀ (new pre old : List Value), old.length = new.length → (w.alloc (.cells (pre ++ old).toArray T)).setCells w.heap.size pre.length new = w.alloc (.cells (pre ++ new).toArray T)
  | [], pre, old, h => by
    obtain rfl : old = [] := List.eq_nil_of_length_eq_zero (by simpa using h)
    rfl
  | v :: r, pre, [], h => by simp at h
  | v :: r, pre, o :: os, h => by
    rw [World.setCells, World.setCell_alloc_at _ _ _ _ _ rfl]
    have e : (pre ++ o :: os).toArray.setIfInBounds pre.length v = ((pre ++ [v]) ++ os).toArray := by
      apply Array.toList_inj.1
      simp
    have e2 : pre ++ v :: r = (pre ++ [v]) ++ r := by simp
    rw [e, e2, ← setCells_new w T r (pre ++ [v]) os (by simpa using h)]
    simp
theorem wpList_store_new {P : Program} {ops : Array Oper} {rest : List Oper} {op : Oper} {a : Act} {w : World} {Q : Exit → Act → World → Prop} (hgd : op.guard = none) (ty : TypeId) (x y : Operand) (ho : op.op = .store ty x y)
    (T : TypeId) (old new : List Value) (hx : a.eval x = .pointer (some ⟨w.heap.size, 0, none⟩)) (hy : a.eval y = .agg new.toArray) (hl : old.length = new.length)
    (hi : (P.info? ty).map (·.size) = some new.length) (h1 : new.toArray.all (·.oneCell') = true)
    (h : wpList P ops Q rest (a.put op.dst undef) (w.alloc (.cells new.toArray T))) : wpList P ops Q (op :: rest) a (w.alloc (.cells old.toArray T)) := by
  refine wpList_store_mid hgd ty x y ho w.heap.size 0 new.toArray hx hy ?_ (by simpa using hi) h1 ?_
  · intro j hj
    have hW := Whole.new w T old.toArray
    refine ⟨?_, by rw [Nat.zero_add]; exact hW.free j⟩
    rw [Nat.zero_add, hW.cell j, List.getElem?_toArray, List.getElem?_eq_getElem (by rw [hl]; simpa using hj)]
    rfl
  · have := setCells_new w T new [] old hl
    simp only [List.nil_append, List.length_nil] at this
    rw [show new.toArray.toList = new by simp, this]
    exact h
section
variable {P : Program}
theorem wpList_build_g {ops : Array Oper} {rest : List Oper} {o : Oper} {a : Act} {w : World} {Q : Exit → Act → World → Prop} (hw : Region.wanted o (yielded ops a.tmps) = true) (t : TypeId) (parts : Array (Nat × Operand)) (ho : o.op = .build t parts)
    (cs : List Value) (hb : P.built t (parts.map fun (i, x) => (i, a.eval x)).toList = some cs.toArray)
    (h : wpList P ops Q rest (a.put o.dst (.agg cs.toArray)) w) : wpList P ops Q (o :: rest) a w :=
  BigFrame.wpList_want hw fun _ hK => wp_build t parts ho (by rw [hb]; rfl) (by rw [hb]; exact hK _ _ h)
theorem wpList_bslice_g {ops : Array Oper} {rest : List Oper} {o : Oper} {a : Act} {w : World} {Q : Exit → Act → World → Prop} (hw : Region.wanted o (yielded ops a.tmps) = true) (t : TypeId) (n : Nat) (parts : Array (Nat × Operand)) (ho : o.op = .buildSlice t n parts)
    (ps : Array (Nat × Value)) (hp : (parts.map fun (i, x) => (i, a.eval x)) = ps) (v : Value) (w' : World) (hr : (Instr.buildSlice t n ps).run P w = .ok v w')
    (h : wpList P ops Q rest (a.put o.dst v) w') : wpList P ops Q (o :: rest) a w :=
  BigFrame.wpList_want hw fun _ hK => by
    subst hp
    unfold Oper.wp execOp
    simp only [ho, Sem.run_bind, hr, Result.andThen_ok]
    exact hK _ _ h
end
end Go.Proofs.YtnhaanjpcnnifaaDoor

/-
  Layer 17 (memory): values and rows of values; what a store of one value turns.
-/
import Derived.Test.YtojeaghljebbbaaDoorMake
import Derived.Test.YtojeaghljebbbaaDoorVEq
import Derived.Laws.OwnMore
namespace Go.Proofs.YtojeaghljebbbaaDoor
open Go.RowKit

/-- A value, as data. -/
structure VD where
  t : Int
  o : Int
  a : LaneD
  b : LaneD
  c : LaneD
  d : LaneD
def VD.arr (v : VD) : Array Value := vc v.t v.o v.a v.b v.c v.d
def VD.cl (v : VD) : List Value := v.arr.toList
/-- A row of values, its cells. -/
def rowL (vs : List VD) : List Value := vs.flatMap VD.cl
def rowA (vs : List VD) : Array Value := (rowL vs).toArray
theorem cl_len (v : VD) : v.cl.length = 14 := rfl
theorem rowL_len : ∀ vs : List VD, (rowL vs).length = vs.length * 14
  | [] => rfl
  | v :: r => by
    show (v.cl ++ rowL r).length = _
    rw [List.length_append, rowL_len r, cl_len, List.length_cons]; omega
theorem rowL_cons (v : VD) (r : List VD) : rowL (v :: r) = v.cl ++ rowL r := rfl
theorem rowL_app (a b : List VD) : rowL (a ++ b) = rowL a ++ rowL b := by unfold rowL; rw [List.flatMap_append]
theorem rowL_at : ∀ (vs : List VD) (i j : Nat) (v : VD), vs[i]? = some v → j < 14 → (rowL vs)[i * 14 + j]? = v.cl[j]?
  | [], i, j, v, h, _ => by simp at h
  | x :: r, 0, j, v, h, hj => by
    simp at h; subst h
    rw [rowL_cons, List.getElem?_append_left (by rw [cl_len]; omega), Nat.zero_mul, Nat.zero_add]
  | x :: r, i + 1, j, v, h, hj => by
    rw [rowL_cons, List.getElem?_append_right (by rw [cl_len]; omega), cl_len, show (i + 1) * 14 + j - 14 = i * 14 + j by omega]
    exact rowL_at r i j v (by simpa using h) hj
/-- Cells set one behind another. -/
def setAll : List Value → Nat → List Value → List Value
  | l, _, [] => l
  | l, k, z :: zs => setAll (l.set k z) (k + 1) zs
theorem setAll_app : ∀ (old new pre post : List Value), old.length = new.length → setAll (pre ++ (old ++ post)) pre.length new = pre ++ (new ++ post)
  | [], [], pre, post, _ => rfl
  | x :: xs, z :: zs, pre, post, h => by
    have ih := setAll_app xs zs (pre ++ [z]) post (by simpa using h)
    rw [List.length_append, List.length_singleton] at ih
    show setAll ((pre ++ (x :: xs ++ post)).set pre.length z) (pre.length + 1) zs = _
    rw [List.set_append_right _ _ (Nat.le_refl _), Nat.sub_self]
    simpa using ih
theorem rowL_set (vs : List VD) (i : Nat) (v : VD) (h : i < vs.length) : setAll (rowL vs) (i * 14) v.cl = rowL (vs.set i v) := by
  have e : vs = vs.take i ++ (vs[i] :: vs.drop (i + 1)) := by
    rw [← List.drop_eq_getElem_cons h, List.take_append_drop]
  have e1 : rowL vs = rowL (vs.take i) ++ ((vs[i]).cl ++ rowL (vs.drop (i + 1))) := by
    conv => lhs; rw [e]
    rw [rowL_app, rowL_cons]
  have e2 : (rowL (vs.take i)).length = i * 14 := by rw [rowL_len, List.length_take, Nat.min_eq_left (by omega)]
  rw [e1, ← e2, setAll_app _ _ _ _ (by rw [cl_len, cl_len])]
  rw [List.set_eq_take_append_cons_drop, if_pos h, rowL_app, rowL_cons]
/-- The world's cells likewise. -/
def setW : World → Nat → Nat → List Value → World
  | w, _, _, [] => w
  | w, g, k, z :: zs => setW (w.setCell ⟨g, k, none⟩ z) g (k + 1) zs
theorem Whole.setW {T : TypeId} {g : Nat} : ∀ (zs : List Value) {w : World} {l : List Value} (k : Nat), Whole w g T l.toArray → Whole (setW w g k zs) g T (setAll l k zs).toArray
  | [], _, _, _, h => h
  | z :: zs, w, l, k, h => by
    have h1 := h.set k z
    rw [List.setIfInBounds_toArray] at h1
    exact Whole.setW zs (k + 1) h1
theorem below_setW {B g : Nat} {a : World} (hg : B ≤ g) : ∀ (zs : List Value) {w : World} (k : Nat), Below B a w → Below B a (setW w g k zs)
  | [], _, _, h => h
  | z :: zs, _, k, h => below_setW hg zs (k + 1) (h.setCell hg z)
theorem only_setW {g : Nat} {a : World} : ∀ (zs : List Value) {w : World} (k : Nat), a.grownBy w (some g) → a.grownBy (setW w g k zs) (some g)
  | [], _, _, h => h
  | z :: zs, _, k, h => only_setW zs (k + 1) (only_set h k z)
theorem size_setW (g : Nat) : ∀ (zs : List Value) (w : World) (k : Nat), (setW w g k zs).heap.size = w.heap.size
  | [], _, _ => rfl
  | z :: zs, w, k => by
    show (setW (w.setCell ⟨g, k, none⟩ z) g (k + 1) zs).heap.size = _
    rw [size_setW g zs]; simp [World.setCell]
/-- The cells of value i of a row. -/
theorem row_cells {w : World} {g : Nat} {T : TypeId} {vs : List VD} {i : Nat} {v : VD} (h : Whole w g T (rowA vs)) (hi : vs[i]? = some v) : w.cell? ⟨g, i * 14, none⟩ = some (.int .i64 v.t) ∧ w.cell? ⟨g, i * 14 + 1, none⟩ = some (.int .i64 v.o) ∧ w.cell? ⟨g, i * 14 + 2, none⟩ = some (.int .i64 v.a.n) ∧ w.cell? ⟨g, i * 14 + 3, none⟩ = some (.bool v.a.p) ∧ w.cell? ⟨g, i * 14 + 4, none⟩ = some (.bool v.a.u) ∧ w.cell? ⟨g, i * 14 + 5, none⟩ = some (.int .i64 v.b.n) ∧ w.cell? ⟨g, i * 14 + 6, none⟩ = some (.bool v.b.p) ∧ w.cell? ⟨g, i * 14 + 7, none⟩ = some (.bool v.b.u) ∧ w.cell? ⟨g, i * 14 + 8, none⟩ = some (.int .i64 v.c.n) ∧ w.cell? ⟨g, i * 14 + 9, none⟩ = some (.bool v.c.p) ∧ w.cell? ⟨g, i * 14 + 10, none⟩ = some (.bool v.c.u) ∧ w.cell? ⟨g, i * 14 + 11, none⟩ = some (.int .i64 v.d.n) ∧ w.cell? ⟨g, i * 14 + 12, none⟩ = some (.bool v.d.p) ∧ w.cell? ⟨g, i * 14 + 13, none⟩ = some (.bool v.d.u) := by
  have k : ∀ j, j < 14 → w.cell? ⟨g, i * 14 + j, none⟩ = v.cl[j]? := fun j hj => by
    rw [h.cell]; unfold rowA; rw [List.getElem?_toArray]; exact rowL_at vs i j v hi hj
  exact ⟨k 0 (by decide), k 1 (by decide), k 2 (by decide), k 3 (by decide), k 4 (by decide), k 5 (by decide), k 6 (by decide), k 7 (by decide), k 8 (by decide), k 9 (by decide), k 10 (by decide), k 11 (by decide), k 12 (by decide), k 13 (by decide)⟩
/-- One value is stored. -/
theorem row_put {w : World} {g : Nat} {T : TypeId} {vs : List VD} {i : Nat} (h : Whole w g T (rowA vs)) (hi : i < vs.length) (v : VD) : Whole (((((((((((((((w.setCell ⟨g, i * 14, none⟩ (.int .i64 v.t)).setCell ⟨g, i * 14 + 1, none⟩ (.int .i64 v.o)).setCell ⟨g, i * 14 + 2, none⟩ (.int .i64 v.a.n)).setCell ⟨g, i * 14 + 3, none⟩ (.bool v.a.p)).setCell ⟨g, i * 14 + 4, none⟩ (.bool v.a.u)).setCell ⟨g, i * 14 + 5, none⟩ (.int .i64 v.b.n)).setCell ⟨g, i * 14 + 6, none⟩ (.bool v.b.p)).setCell ⟨g, i * 14 + 7, none⟩ (.bool v.b.u)).setCell ⟨g, i * 14 + 8, none⟩ (.int .i64 v.c.n)).setCell ⟨g, i * 14 + 9, none⟩ (.bool v.c.p)).setCell ⟨g, i * 14 + 10, none⟩ (.bool v.c.u)).setCell ⟨g, i * 14 + 11, none⟩ (.int .i64 v.d.n)).setCell ⟨g, i * 14 + 12, none⟩ (.bool v.d.p)).setCell ⟨g, i * 14 + 13, none⟩ (.bool v.d.u))) g T (rowA (vs.set i v)) := by
  have h1 := Whole.setW v.cl (i * 14) h
  rw [rowL_set vs i v hi] at h1
  exact h1
theorem below_put {B g k : Nat} {a w : World} (hb : Below B a w) (hg : B ≤ g) (v : VD) : Below B a (((((((((((((((w.setCell ⟨g, k, none⟩ (.int .i64 v.t)).setCell ⟨g, k + 1, none⟩ (.int .i64 v.o)).setCell ⟨g, k + 2, none⟩ (.int .i64 v.a.n)).setCell ⟨g, k + 3, none⟩ (.bool v.a.p)).setCell ⟨g, k + 4, none⟩ (.bool v.a.u)).setCell ⟨g, k + 5, none⟩ (.int .i64 v.b.n)).setCell ⟨g, k + 6, none⟩ (.bool v.b.p)).setCell ⟨g, k + 7, none⟩ (.bool v.b.u)).setCell ⟨g, k + 8, none⟩ (.int .i64 v.c.n)).setCell ⟨g, k + 9, none⟩ (.bool v.c.p)).setCell ⟨g, k + 10, none⟩ (.bool v.c.u)).setCell ⟨g, k + 11, none⟩ (.int .i64 v.d.n)).setCell ⟨g, k + 12, none⟩ (.bool v.d.p)).setCell ⟨g, k + 13, none⟩ (.bool v.d.u))) := below_setW hg v.cl k hb
theorem only_put {g k : Nat} {a w : World} (hb : a.grownBy w (some g)) (v : VD) : a.grownBy (((((((((((((((w.setCell ⟨g, k, none⟩ (.int .i64 v.t)).setCell ⟨g, k + 1, none⟩ (.int .i64 v.o)).setCell ⟨g, k + 2, none⟩ (.int .i64 v.a.n)).setCell ⟨g, k + 3, none⟩ (.bool v.a.p)).setCell ⟨g, k + 4, none⟩ (.bool v.a.u)).setCell ⟨g, k + 5, none⟩ (.int .i64 v.b.n)).setCell ⟨g, k + 6, none⟩ (.bool v.b.p)).setCell ⟨g, k + 7, none⟩ (.bool v.b.u)).setCell ⟨g, k + 8, none⟩ (.int .i64 v.c.n)).setCell ⟨g, k + 9, none⟩ (.bool v.c.p)).setCell ⟨g, k + 10, none⟩ (.bool v.c.u)).setCell ⟨g, k + 11, none⟩ (.int .i64 v.d.n)).setCell ⟨g, k + 12, none⟩ (.bool v.d.p)).setCell ⟨g, k + 13, none⟩ (.bool v.d.u))) (some g) := only_setW v.cl k hb
theorem size_put {g k : Nat} {w : World} (v : VD) : (((((((((((((((w.setCell ⟨g, k, none⟩ (.int .i64 v.t)).setCell ⟨g, k + 1, none⟩ (.int .i64 v.o)).setCell ⟨g, k + 2, none⟩ (.int .i64 v.a.n)).setCell ⟨g, k + 3, none⟩ (.bool v.a.p)).setCell ⟨g, k + 4, none⟩ (.bool v.a.u)).setCell ⟨g, k + 5, none⟩ (.int .i64 v.b.n)).setCell ⟨g, k + 6, none⟩ (.bool v.b.p)).setCell ⟨g, k + 7, none⟩ (.bool v.b.u)).setCell ⟨g, k + 8, none⟩ (.int .i64 v.c.n)).setCell ⟨g, k + 9, none⟩ (.bool v.c.p)).setCell ⟨g, k + 10, none⟩ (.bool v.c.u)).setCell ⟨g, k + 11, none⟩ (.int .i64 v.d.n)).setCell ⟨g, k + 12, none⟩ (.bool v.d.p)).setCell ⟨g, k + 13, none⟩ (.bool v.d.u))).heap.size = w.heap.size := size_setW g v.cl w k
/-- The values that the makers make, of a type of one lane. -/
def pV (t : Int) : VD := ⟨t, 0, ⟨0, true, false⟩, zL, zL, zL⟩
def iV (t n : Int) : VD := ⟨t, 0, ⟨wrapI t n, false, false⟩, zL, zL, zL⟩
def qV (x n : Int) : VD := ⟨5, x, ⟨n, false, false⟩, zL, zL, zL⟩
def zV : VD := ⟨0, 0, zL, zL, zL, zL⟩
theorem mkPoison_1 {t : Int} (h : numL t = 1) : mkPoison t = (pV t).arr := mkLanes_1 _ h
theorem cell_1 {t : Int} (h : 2 ≤ t ∧ t ≤ 5) : numL t = 1 := by
  rcases types7 t with rfl | rfl | rfl | rfl | rfl | rfl | rfl | h' <;> first | rfl | omega
theorem mkInt_1 {t n : Int} (h : 2 ≤ t ∧ t ≤ 4) : mkInt t n = (iV t n).arr := by
  unfold mkInt
  rw [if_neg (by omega), mkLanes_1 _ (cell_1 ⟨h.1, by omega⟩)]
  unfold iV laneT
  rw [if_neg (by omega), if_neg (by omega), if_neg (by omega)]; rfl
end Go.Proofs.YtojeaghljebbbaaDoor

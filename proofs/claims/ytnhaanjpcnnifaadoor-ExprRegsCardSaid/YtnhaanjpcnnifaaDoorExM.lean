/-
  Layer 23 (expr): an expression as data, and what Check answers.
-/
import Derived.Test.YtnhaanjpcnnifaaDoorOpK
import Derived.Test.YtnhaanjpcnnifaaDoorOpA
namespace Go.Proofs.YtnhaanjpcnnifaaDoor
open Go.RowKit

/-- A node. -/
structure NdD where
  op : Int
  ty : Int
  n : Int
def NdD.cells (x : NdD) : List Value := [.int .i64 x.op, .int .i64 x.ty, .int .i64 x.n]
def numE (op : Int) : Bool := decide (op = 4) || decide (op = 1) || decide (op = 25) || decide (op = 33)
/-- How many operands an operation takes. -/
def cntE (op ty : Int) : Nat :=
  if op = 4 ∨ op = 1 ∨ op = 2 ∨ op = 25 then 0 else if op = 22 ∨ op = 23 ∨ op = 24 ∨ op = 33 ∨ op = 28 then 1 else if op = 21 then 3 else if op = 32 ∧ ty ≠ 6 then 4 else 2
theorem cntE_le (op ty : Int) : cntE op ty ≤ 4 := by unfold cntE; split; · omega
                                                     split; · omega
                                                     split; · omega
                                                     split <;> omega
def immE (op n : Int) : Int := if op = 1 ∨ op = 33 then n else 0
def symE (op n : Int) : Int := if op = 25 then n else 0
def ups (k : Nat) : List Int := (List.range k).map fun (i : Nat) => (i : Int)
def ups1 (k : Nat) : List Int := (List.range k).map fun (i : Nat) => (i : Int) + 1
theorem ups_len (k : Nat) : (ups k).length = k := by simp [ups]
theorem ups1_len (k : Nat) : (ups1 k).length = k := by simp [ups1]
theorem ups_succ (k : Nat) : ups (k + 1) = ups k ++ [(k : Int)] := by simp [ups, List.range_succ]
theorem ups1_succ (k : Nat) : ups1 (k + 1) = ups1 k ++ [(k : Int) + 1] := by simp [ups1, List.range_succ]
/-- The error of the operation at operands of the types ts. -/
def tyE (x : NdD) (ts : List Int) (gn fn : Nat) : Int := checkM x.op x.ty 0 (immE x.op x.n) (symE x.op x.n) 0 false (ups1 ts.length) (x.ty :: ts) gn fn
theorem regs_ups (ts : List Int) (ty : Int) : regsM (ups ts.length) (ts.length : Int) (ts ++ [ty]).length = true := by
  unfold regsM ups
  rw [Bool.and_eq_true]
  refine ⟨List.all_eq_true.2 fun r hr => ?_, ?_⟩
  · obtain ⟨i, hi, rfl⟩ := List.mem_map.1 hr
    have := List.mem_range.1 hi
    simp
    omega
  · simp
    omega
theorem regs_ups1 (ts : List Int) (ty : Int) : regsM (ups1 ts.length) 0 (ty :: ts).length = true := by
  unfold regsM ups1
  rw [Bool.and_eq_true]
  refine ⟨List.all_eq_true.2 fun r hr => ?_, ?_⟩
  · obtain ⟨i, hi, rfl⟩ := List.mem_map.1 hr
    have := List.mem_range.1 hi
    simp
    omega
  · simp

theorem tys_ups (ts : List Int) (ty : Int) : tysOf (ts ++ [ty]) (ups ts.length) = ts := by
  apply List.ext_getElem?
  intro i
  unfold tysOf ups
  by_cases h : i < ts.length
  · rw [List.getElem?_map, List.getElem?_map, List.getElem?_range h, List.getElem?_eq_getElem h]
    simp [List.getD, List.getElem?_append_left h, List.getElem?_eq_getElem h]
  · rw [List.getElem?_eq_none (by simp; omega), List.getElem?_eq_none (by omega)]
theorem tys_ups1 (ts : List Int) (ty : Int) : tysOf (ty :: ts) (ups1 ts.length) = ts := by
  apply List.ext_getElem?
  intro i
  unfold tysOf ups1
  by_cases h : i < ts.length
  · rw [List.getElem?_map, List.getElem?_map, List.getElem?_range h, List.getElem?_eq_getElem h]
    simp [List.getD, show ((i : Int) + 1).toNat = i + 1 by omega, List.getElem?_eq_getElem h]
  · rw [List.getElem?_eq_none (by simp; omega), List.getElem?_eq_none (by omega)]
/-- What is asked of the operation is the same over registers in either order. -/
theorem tyE_ups (x : NdD) (ts : List Int) (gn fn : Nat) : checkM x.op x.ty (ts.length : Int) (immE x.op x.n) (symE x.op x.n) 0 false (ups ts.length) (ts ++ [x.ty]) gn fn = tyE x ts gn fn := by
  unfold tyE checkM
  rw [regs_ups, regs_ups1, tys_ups, tys_ups1, ups_len, ups1_len]
  have h1 : dstM x.op x.ty (ts.length : Int) (ts ++ [x.ty]) = dstM x.op x.ty 0 (x.ty :: ts) := by
    unfold dstM
    rw [if_neg (by omega), if_neg (by omega)]
    simp [List.getD]
  have h2 : (ts ++ [x.ty]).getD ((ups ts.length).headD 0).toNat 0 = (x.ty :: ts).getD ((ups1 ts.length).headD 0).toNat 0 := by
    cases ts with
    | nil => rfl
    | cons t r => simp [ups, ups1, List.range_succ_eq_map]
  rw [h1, h2]
/-- The error that a node has wherever it stands. -/
def fldE (op ty n : Int) (rn gn : Nat) : Int :=
  if ¬ op = 28 ∧ specM op = false then 9
  else if op = 4 ∧ ¬ (0 ≤ n ∧ n < rn) ∨ op = 25 ∧ ¬ (0 ≤ n ∧ n < gn) then 8
  else if op = 4 ∧ ¬ ty = 0 ∨ ¬ n = 0 ∧ numE op = false then 3
  else 0
/-- The error of a node above a stack of types. -/
def errE (rl : List Int) (gn fn : Nat) (x : NdD) (st : List Int) : Int :=
  if ¬ fldE x.op x.ty x.n rl.length gn = 0 then fldE x.op x.ty x.n rl.length gn
  else if st.length < cntE x.op x.ty then 4
  else if x.op = 4 then 0
  else tyE x (st.drop (st.length - cntE x.op x.ty)) gn fn
def resE (rl : List Int) (x : NdD) : Int := if x.op = 4 then rl.getD x.n.toNat 0 else x.ty
def nextE (rl : List Int) (x : NdD) (st : List Int) : List Int := st.take (st.length - cntE x.op x.ty) ++ [resE rl x]
def runE (rl : List Int) (gn fn : Nat) : List NdD → List Int → Int × List Int
  | [], st => (0, st)
  | x :: e, st => if errE rl gn fn x st = 0 then runE rl gn fn e (nextE rl x st) else (errE rl gn fn x st, [])
/-- What Check answers: the type and the error. -/
def chkE (rl : List Int) (gn fn : Nat) (e : List NdD) : Int × Int :=
  if (runE rl gn fn e []).1 = 0 then
    match (runE rl gn fn e []).2 with
    | [] => (0, 4)
    | [t] => (t, 0)
    | _ :: _ :: _ => (0, 5)
  else (0, (runE rl gn fn e []).1)
theorem runE_snoc (rl : List Int) (gn fn : Nat) (x : NdD) : ∀ (e : List NdD) (st : List Int), runE rl gn fn (e ++ [x]) st = if (runE rl gn fn e st).1 = 0 then runE rl gn fn [x] (runE rl gn fn e st).2 else runE rl gn fn e st
  | [], st => rfl
  | y :: e, st => by
    rw [List.cons_append]
    simp only [runE]
    split
    · rw [runE_snoc rl gn fn x e]
      rfl
    · rfl
/-- A prefix that fails decides. -/
theorem runE_err (rl : List Int) (gn fn : Nat) : ∀ (e e2 : List NdD) (st : List Int), (runE rl gn fn e st).1 ≠ 0 → runE rl gn fn (e ++ e2) st = runE rl gn fn e st
  | [], _, st, h => absurd rfl h
  | y :: e, e2, st, h => by
    rw [List.cons_append]
    simp only [runE] at h ⊢
    split
    · rename_i h0
      rw [if_pos h0] at h
      exact runE_err rl gn fn e e2 _ h
    · rfl
theorem nextE_len (rl : List Int) (x : NdD) (st : List Int) : (nextE rl x st).length ≤ st.length + 1 := by
  unfold nextE
  rw [List.length_append, List.length_take]
  simp

end Go.Proofs.YtnhaanjpcnnifaaDoor

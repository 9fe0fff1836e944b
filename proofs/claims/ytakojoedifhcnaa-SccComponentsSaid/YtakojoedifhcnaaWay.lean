/-
  Layer 7 (scc): paths.
-/
import Derived.Test.YtakojoedifhcnaaDfsMath
namespace Go.Proofs.Ytakojoedifhcnaa
open Go.RowKit

/-- There is a path. -/
inductive Way (g : List (List Int)) (v : Nat) : Nat → Prop
  | here : Way g v v
  | step {u x : Nat} : Way g v u → x ∈ succs g u → Way g v x
theorem Way.lt {g : List (List Int)} (h : okG g = true) {v x : Nat} (hv : v < g.length) (hw : Way g v x) : x < g.length := by
  cases hw with
  | here => exact hv
  | step _ hx => exact succs_lt h hx
theorem Way.cons {g : List (List Int)} {v u x : Nat} (h : u ∈ succs g v) (hw : Way g u x) : Way g v x := by
  induction hw with
  | here => exact .step .here h
  | step _ hx ih => exact .step ih hx
theorem succs_get {g : List (List Int)} {a j b : Nat} {l : List Int} (hl : g[a]? = some l) (hb : l[j]? = some (b : Int)) : (succs g a)[j]? = some b := by
  unfold succs
  rw [List.getD_eq_getElem?_getD, hl, Option.getD_some, List.getElem?_map, hb]
  simp
theorem succs_len {g : List (List Int)} {a : Nat} {l : List Int} (hl : g[a]? = some l) : (succs g a).length = l.length := by
  unfold succs
  rw [List.getD_eq_getElem?_getD, hl, Option.getD_some, List.length_map]
end Go.Proofs.Ytakojoedifhcnaa

/-
  Lists of integers and of bools in memory, from functions; lists of nodes.
-/
import Derived.Test.YtmopnceglnoncaaDfsMath
namespace Go.Proofs.Ytmopnceglnoncaa
open Go.RowKit

def bl (n : Nat) (f : Nat → Bool) : List Value := (List.range n).map fun i => .bool (f i)
theorem bl_len (n : Nat) (f : Nat → Bool) : (bl n f).length = n := by simp [bl]
theorem bl_get {n i : Nat} (f : Nat → Bool) (h : i < n) : (bl n f)[i]? = some (.bool (f i)) := by simp [bl, h]
theorem bl_set {n x : Nat} {f g : Nat → Bool} {b : Bool} (hb : g x = b) (hg : ∀ j, j ≠ x → g j = f j) : (bl n f).set x (.bool b) = bl n g := by
  apply List.ext_getElem?
  intro i
  by_cases hi : i < n
  · rw [bl_get g hi]
    by_cases e : x = i
    · subst e
      rw [List.getElem?_set_self (by rw [bl_len]; exact hi), hb]
    · rw [List.getElem?_set_ne e, bl_get f hi, hg i (fun h => e h.symm)]
  · rw [List.getElem?_eq_none (by rw [List.length_set, bl_len]; omega), List.getElem?_eq_none (by rw [bl_len]; omega)]
theorem bl_false (n : Nat) : bl n (fun _ => false) = List.replicate n (.bool false) := by
  apply List.ext_getElem <;> simp [bl]

theorem bl_congr {n : Nat} {f h : Nat → Bool} (e : ∀ i, i < n → f i = h i) : bl n f = bl n h := by
  unfold bl
  exact List.map_congr_left fun i hi => by rw [e i (List.mem_range.1 hi)]
def ints (l : List Nat) : List Int := l.map fun (x : Nat) => (x : Int)
theorem ints_len (l : List Nat) : (ints l).length = l.length := by simp [ints]
theorem ints_get (l : List Nat) (j : Nat) : (ints l)[j]? = (l[j]?).map fun (x : Nat) => (x : Int) := by simp [ints]
theorem ints_snoc (l : List Nat) (x : Nat) : ints (l ++ [x]) = ints l ++ [(x : Int)] := by simp [ints]
/-- The values of a function on the first n numbers. -/
def fl (n : Nat) (f : Nat → Nat) : List Int := (List.range n).map fun i => (f i : Int)
theorem fl_len (n : Nat) (f : Nat → Nat) : (fl n f).length = n := by simp [fl]
theorem fl_get {n i : Nat} (f : Nat → Nat) (h : i < n) : (fl n f)[i]? = some (f i : Int) := by simp [fl, h]
theorem fl_set {n x : Nat} {f h : Nat → Nat} {v : Nat} (hv : h x = v) (hh : ∀ j, j ≠ x → h j = f j) : (fl n f).set x (v : Int) = fl n h := by
  apply List.ext_getElem?
  intro i
  by_cases hi : i < n
  · rw [fl_get h hi]
    by_cases e : x = i
    · subst e; rw [List.getElem?_set_self (by rw [fl_len]; exact hi), hv]
    · rw [List.getElem?_set_ne e, fl_get f hi, hh i (fun c => e c.symm)]
  · rw [List.getElem?_eq_none (by rw [List.length_set, fl_len]; omega), List.getElem?_eq_none (by rw [fl_len]; omega)]
theorem nodup_len : ∀ {n : Nat} {l : List Nat}, l.Nodup → (∀ x ∈ l, x < n) → l.length ≤ n
  | 0, l, _, hl => by
    cases l with
    | nil => simp
    | cons x r => exact absurd (hl x (List.mem_cons_self ..)) (by omega)
  | n + 1, l, h, hl => by
    by_cases c : n ∈ l
    · have h1 := nodup_len (n := n) (h.erase n) (fun x hx => by
        have h2 := (List.Nodup.mem_erase_iff h).1 hx
        have h3 := hl x h2.2
        have h4 : x ≠ n := h2.1
        omega)
      rw [List.length_erase_of_mem c] at h1
      omega
    · have h1 := nodup_len (n := n) h (fun x hx => by
        have h3 := hl x hx
        have h4 : x ≠ n := fun e => c (e ▸ hx)
        omega)
      omega
theorem nodup_get {l : List Nat} (h : l.Nodup) {i j x : Nat} (hi : l[i]? = some x) (hj : l[j]? = some x) : i = j := by
  obtain ⟨h1, h2⟩ := List.getElem?_eq_some_iff.1 hi
  obtain ⟨h3, h4⟩ := List.getElem?_eq_some_iff.1 hj
  rcases Nat.lt_trichotomy i j with c | c | c
  · exact absurd (h2.trans h4.symm) (List.pairwise_iff_getElem.1 h i j h1 h3 c)
  · exact c
  · exact absurd (h4.trans h2.symm) (List.pairwise_iff_getElem.1 h j i h3 h1 c)

theorem fl_ext {n : Nat} {f h : Nat → Nat} (e : ∀ i, i < n → f i = h i) : fl n f = fl n h := by
  unfold fl
  exact List.map_congr_left fun i hi => by rw [e i (List.mem_range.1 hi)]


/-- The values of a function on the first n numbers. -/
def fz (n : Nat) (f : Nat → Int) : List Int := (List.range n).map f
theorem fz_len (n : Nat) (f : Nat → Int) : (fz n f).length = n := by simp [fz]
theorem fz_get {n i : Nat} (f : Nat → Int) (h : i < n) : (fz n f)[i]? = some (f i) := by simp [fz, h]
theorem fz_set {n x : Nat} {f h : Nat → Int} {v : Int} (hv : h x = v) (hh : ∀ j, j ≠ x → h j = f j) : (fz n f).set x v = fz n h := by
  apply List.ext_getElem?
  intro i
  by_cases hi : i < n
  · rw [fz_get h hi]
    by_cases e : x = i
    · subst e; rw [List.getElem?_set_self (by rw [fz_len]; exact hi), hv]
    · rw [List.getElem?_set_ne e, fz_get f hi, hh i (fun c => e c.symm)]
  · rw [List.getElem?_eq_none (by rw [List.length_set, fz_len]; omega), List.getElem?_eq_none (by rw [fz_len]; omega)]
theorem fz_ext {n : Nat} {f h : Nat → Int} (e : ∀ i, i < n → f i = h i) : fz n f = fz n h := by
  unfold fz
  exact List.map_congr_left fun i hi => by rw [e i (List.mem_range.1 hi)]
theorem fz_const (n : Nat) (z : Int) : fz n (fun _ => z) = List.replicate n z := by
  apply List.ext_getElem <;> simp [fz]
theorem ints_fl (n : Nat) (f : Nat → Nat) : fl n f = fz n (fun i => (f i : Int)) := rfl
theorem ints_of (l : List Nat) : ints l = fl l.length (fun i => l.getD i 0) := by
  apply List.ext_getElem?
  intro i
  by_cases hi : i < l.length
  · rw [fl_get _ hi, ints_get, List.getElem?_eq_getElem hi, List.getD_eq_getElem?_getD, List.getElem?_eq_getElem hi]; rfl
  · rw [List.getElem?_eq_none (by rw [ints_len]; omega), List.getElem?_eq_none (by rw [fl_len]; omega)]
end Go.Proofs.Ytmopnceglnoncaa

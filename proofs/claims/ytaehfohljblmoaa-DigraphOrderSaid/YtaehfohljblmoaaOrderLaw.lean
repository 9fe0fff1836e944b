/-
  Layer 6 (digraph): what DigraphOrder reckons: places in the order, nodes that come after a predecessor, edges that go back, cycles.
-/
import Derived.Test.YtaehfohljblmoaaOrderMath
namespace Go.Proofs.Ytaehfohljblmoaa
open Go.RowKit

/-- The places of the first i nodes of an order. -/
def atl (n : Nat) (O : List Nat) (i : Nat) : List Int := (List.range n).map fun x => if x ∈ O.take i then (O.idxOf x : Int) else -1
theorem atl_get {n x : Nat} (O : List Nat) (i : Nat) (h : x < n) : (atl n O i)[x]? = some (if x ∈ O.take i then (O.idxOf x : Int) else -1) := by simp [atl, h]
theorem atl_zero (n : Nat) (O : List Nat) : atl n O 0 = List.replicate n (-1) := by
  apply List.ext_getElem?
  intro x
  by_cases h : x < n
  · rw [atl_get O 0 h, List.getElem?_replicate, if_pos h]; simp
  · rw [List.getElem?_eq_none (by simp [atl]; omega), List.getElem?_eq_none (by simp; omega)]
theorem idx_of_get {O : List Nat} (hn : O.Nodup) {i x : Nat} (h : O[i]? = some x) : O.idxOf x = i := by
  obtain ⟨hi, e⟩ := List.getElem?_eq_some_iff.1 h
  have e2 : O = O.take i ++ x :: O.drop (i + 1) := by
    rw [← e, ← List.drop_eq_getElem_cons hi, List.take_append_drop]
  have hn2 := hn
  rw [e2] at hn2
  have hx : x ∉ O.take i := fun c => (List.nodup_append.1 hn2).2.2 x c x (List.mem_cons_self ..) rfl
  rw [e2, idx_out hx]
  simp
  omega
theorem take_not {O : List Nat} (hn : O.Nodup) {i x : Nat} (h : O[i]? = some x) : x ∉ O.take i := fun c => by
  obtain ⟨j, hj, e⟩ := List.mem_take_iff_getElem.1 c
  have h1 := idx_of_get hn h
  have h2 := idx_of_get hn (i := j) (x := x) (by rw [List.getElem?_eq_getElem (by omega), e])
  omega
theorem atl_step {n i x : Nat} {O : List Nat} (hn : O.Nodup) (h : O[i]? = some x) (hx : x < n) : (atl n O i).set x (i : Int) = atl n O (i + 1) := by
  apply List.ext_getElem?
  intro y
  by_cases hy : y < n
  · rw [atl_get O (i + 1) hy]
    by_cases e : x = y
    · subst e
      rw [List.getElem?_set_self (by simp [atl]; exact hx), if_pos (by rw [List.take_add_one, h]; simp), idx_of_get hn h]
    · rw [List.getElem?_set_ne e, atl_get O i hy, List.take_add_one, h]
      have e2 : (y ∈ O.take i ++ (some x).toList) ↔ y ∈ O.take i := by
        simp
        intro c; exact absurd c.symm e
      by_cases c : y ∈ O.take i
      · rw [if_pos c, if_pos (e2.2 c)]
      · rw [if_neg c, if_neg (fun d => c (e2.1 d))]
  · rw [List.getElem?_eq_none (by simp [atl]; omega), List.getElem?_eq_none (by simp [atl]; omega)]

/-- The place of a node, -1 for one that is not in the order. -/
def plc (O : List Nat) (x : Nat) : Int := if x ∈ O then (O.idxOf x : Int) else -1
theorem atl_end {n x : Nat} (O : List Nat) (h : x < n) : (atl n O O.length)[x]? = some (plc O x) := by rw [atl_get O _ h, List.take_length]; rfl
theorem plc_in (O : List Nat) (x : Nat) : decide (0 ≤ plc O x) = decide (x ∈ O) := by
  unfold plc
  by_cases h : x ∈ O
  · rw [if_pos h, decide_eq_true h]; exact decide_eq_true (by omega)
  · rw [if_neg h, decide_eq_false h]; rfl

def has (l : List Int) (x : Nat) : Bool := l.any fun k => k == (x : Int)
theorem has_take {l : List Int} {j : Nat} {k : Int} (h : l[j]? = some k) (x : Nat) : has (l.take (j + 1)) x = (has (l.take j) x || (k == (x : Int))) := by
  unfold has
  rw [List.take_add_one, h, List.any_append]
  simp
theorem has_iff {l : List Int} {x : Nat} : has l x = true ↔ (x : Int) ∈ l := by unfold has; simp
/-- Does some of the first m nodes have an edge to x, and what f says? -/
def anyTo (g : List (List Int)) (f : Nat → Bool) (x m : Nat) : Bool := (List.range m).any fun y => has (g.getD y []) x && f y
theorem anyTo_succ (g : List (List Int)) (f : Nat → Bool) (x m : Nat) : anyTo g f x (m + 1) = (anyTo g f x m || (has (g.getD m []) x && f m)) := by
  unfold anyTo
  rw [List.range_succ, List.any_append]
  simp
theorem anyTo_iff {g : List (List Int)} {f : Nat → Bool} {x m : Nat} : anyTo g f x m = true ↔ ∃ y, y < m ∧ (x : Int) ∈ g.getD y [] ∧ f y = true := by
  unfold anyTo
  rw [List.any_eq_true]
  constructor
  · rintro ⟨y, hy, h⟩
    rw [Bool.and_eq_true, has_iff] at h
    exact ⟨y, List.mem_range.1 hy, h.1, h.2⟩
  · rintro ⟨y, hy, h1, h2⟩
    exact ⟨y, List.mem_range.2 hy, by rw [Bool.and_eq_true, has_iff]; exact ⟨h1, h2⟩⟩
def fwd (O : List Nat) (x y : Nat) : Bool := decide (0 ≤ plc O y) && decide (plc O y < plc O x)
def bwd (O : List Nat) (x y : Nat) : Bool := decide (0 ≤ plc O y) && decide (plc O x ≤ plc O y)
/-- Edges that do not go forward, to the first n nodes. -/
def backs (g : List (List Int)) (O : List Nat) (n : Nat) : Bool := (List.range n).any fun x => anyTo g (bwd O x) x g.length
theorem backs_succ (g : List (List Int)) (O : List Nat) (n : Nat) : backs g O (n + 1) = (backs g O n || anyTo g (bwd O n) n g.length) := by
  unfold backs
  rw [List.range_succ, List.any_append]
  simp
/-- Edges on a cycle, among the first j of a list. -/
def loopsIn (g : List (List Int)) (l : List Int) (x : Nat) : Bool := l.any fun m => decide (x ∈ post g m.toNat)
theorem loopsIn_take {g : List (List Int)} {l : List Int} {j : Nat} {k : Int} (h : l[j]? = some k) (x : Nat) : loopsIn g (l.take (j + 1)) x = (loopsIn g (l.take j) x || decide (x ∈ post g k.toNat)) := by
  unfold loopsIn
  rw [List.take_add_one, h, List.any_append]
  simp
def cycs (g : List (List Int)) (O : List Nat) (n : Nat) : Bool := (List.range n).any fun x => decide (x ∈ O) && loopsIn g (g.getD x []) x
theorem cycs_succ (g : List (List Int)) (O : List Nat) (n : Nat) : cycs g O (n + 1) = (cycs g O n || (decide (n ∈ O) && loopsIn g (g.getD n []) n)) := by
  unfold cycs
  rw [List.range_succ, List.any_append]
  simp
section
variable {g : List (List Int)} (hok : okG g = true) {v : Nat} (hv : v < g.length)
include hok hv
theorem order_after {x : Nat} (hx : x ∈ post g v) : (decide (x = v) || anyTo g (fwd (post g v).reverse x) x g.length) = true := by
  by_cases h : x = v
  · simp [h]
  · obtain ⟨y, h1, h2, h3⟩ := rpost_before hok hv hx h
    rw [Bool.or_eq_true]
    refine .inr (anyTo_iff.2 ⟨y, post_lt hok hv y h1, (mem_succs hok).1 h2, ?_⟩)
    unfold fwd plc
    rw [if_pos (by simpa using h1), if_pos (by simpa using hx), Bool.and_eq_true]
    exact ⟨decide_eq_true (by omega), decide_eq_true (by omega)⟩
theorem order_cycle : backs g (post g v).reverse g.length = cycs g (post g v).reverse g.length := by
  rw [Bool.eq_iff_iff]
  have h1 : backs g (post g v).reverse g.length = true ↔ ∃ m n, m ∈ post g v ∧ n ∈ succs g m ∧ (post g v).reverse.idxOf n ≤ (post g v).reverse.idxOf m := by
    unfold backs
    rw [List.any_eq_true]
    constructor
    · rintro ⟨x, hx, h⟩
      obtain ⟨y, hy, h2, h3⟩ := anyTo_iff.1 h
      unfold bwd at h3
      rw [Bool.and_eq_true, plc_in] at h3
      have hyp : y ∈ post g v := by simpa using of_decide_eq_true h3.1
      have hs := (mem_succs hok).2 h2
      have hxp : x ∈ post g v := (post_way hok hv x).2 (((post_way hok hv y).1 hyp).step hs)
      have h4 := of_decide_eq_true h3.2
      unfold plc at h4
      rw [if_pos (by simpa using hxp), if_pos (by simpa using hyp)] at h4
      exact ⟨y, x, hyp, hs, by omega⟩
    · rintro ⟨m, n, h2, h3, h4⟩
      have hnp : n ∈ post g v := (post_way hok hv n).2 (((post_way hok hv m).1 h2).step h3)
      refine ⟨n, List.mem_range.2 (post_lt hok hv n hnp), anyTo_iff.2 ⟨m, post_lt hok hv m h2, (mem_succs hok).1 h3, ?_⟩⟩
      unfold bwd plc
      rw [if_pos (by simpa using h2), if_pos (by simpa using hnp), Bool.and_eq_true]
      exact ⟨decide_eq_true (by omega), decide_eq_true (by omega)⟩
  have h2 : cycs g (post g v).reverse g.length = true ↔ ∃ m n, m ∈ post g v ∧ n ∈ succs g m ∧ Way g n m := by
    unfold cycs
    rw [List.any_eq_true]
    constructor
    · rintro ⟨x, hx, h⟩
      rw [Bool.and_eq_true] at h
      have hxp : x ∈ post g v := by simpa using of_decide_eq_true h.1
      have h3 := h.2
      unfold loopsIn at h3
      rw [List.any_eq_true] at h3
      obtain ⟨m, hm, h4⟩ := h3
      have hs : m.toNat ∈ succs g x := by unfold succs; exact List.mem_map.2 ⟨m, hm, rfl⟩
      exact ⟨x, m.toNat, hxp, hs, (post_way hok (succs_lt hok hs) x).1 (of_decide_eq_true h4)⟩
    · rintro ⟨m, n, h3, h4, h5⟩
      refine ⟨m, List.mem_range.2 (post_lt hok hv m h3), ?_⟩
      rw [Bool.and_eq_true]
      refine ⟨decide_eq_true (by simpa using h3), ?_⟩
      unfold loopsIn
      rw [List.any_eq_true]
      refine ⟨(n : Int), (mem_succs hok).1 h4, decide_eq_true ?_⟩
      rw [Int.toNat_natCast]
      exact (post_way hok (succs_lt hok h4) m).2 h5
  rw [h1, h2]
  exact back_cycle hok hv
end
end Go.Proofs.Ytaehfohljblmoaa

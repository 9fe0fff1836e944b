/-
  The elements in ascending order, and the iterator over them, layer 3 (bitset).
-/
import Derived.RangeFuncNested
import Derived.RangeFuncBound
import Derived.RangeFuncCalls
import Derived.RangeFuncLeaves
import Derived.RangeFuncFrom
import Derived.RangeFuncBox
import Derived.Shelf.Abstract
import Derived.Shelf.RegionOpen
import Derived.WalkKit
import Derived.OwnWalkIn
import Derived.TacticsInMore
import Derived.LoopNIn
import Derived.LoopIn
import Derived.Test.YtbnikoomgeaboaaDoorNext
namespace Go.Proofs.YtbnikoomgeaboaaDoor
open Go.RowKit Go.Shelf

/-- The elements from k on. -/
def els (ws : List Nat) (n k : Nat) : List Nat := (List.range' k (n - k)).filter (bit ws)
theorem els_some {ws : List Nat} {n k j : Nat} (h1 : k ≤ j) (h2 : j < n) (hb : bit ws j = true) (hno : ∀ i, k ≤ i → i < j → bit ws i = false) : els ws n k = j :: els ws n (j + 1) := by
  unfold els
  have e : List.range' k (n - k) = List.range' k (j - k) ++ (j :: List.range' (j + 1) (n - (j + 1))) := by
    have e1 : n - k = (j - k) + (1 + (n - (j + 1))) := by omega
    rw [e1, ← List.range'_append_1, ← List.range'_append_1]
    simp only [List.range'_one, List.cons_append, List.nil_append]
    rw [show k + (j - k) = j by omega]
  rw [e, List.filter_append, List.filter_cons, if_pos hb]
  have e2 : (List.range' k (j - k)).filter (bit ws) = [] := by
    rw [List.filter_eq_nil_iff]
    intro i hi
    rw [List.mem_range'_1] at hi
    rw [hno i hi.1 (by omega)]; simp
  rw [e2]; rfl
theorem els_nil {ws : List Nat} {n k : Nat} (hno : ∀ i, k ≤ i → bit ws i = false) : els ws n k = [] := by
  unfold els
  rw [List.filter_eq_nil_iff]
  intro i hi
  rw [List.mem_range'_1] at hi
  rw [hno i hi.1]; simp
theorem mem_els {ws : List Nat} {n k j : Nat} : j ∈ els ws n k ↔ k ≤ j ∧ j < n ∧ bit ws j = true := by
  unfold els
  rw [List.mem_filter, List.mem_range'_1]
  constructor
  · rintro ⟨⟨h1, h2⟩, h3⟩; exact ⟨h1, by omega, h3⟩
  · rintro ⟨h1, h2, h3⟩; exact ⟨⟨h1, by omega⟩, h3⟩

theorem first_of (ws : List Nat) (n : Nat) : ∀ d k, n - k = d → (∃ j, k ≤ j ∧ j < n ∧ bit ws j = true ∧ ∀ i, k ≤ i → i < j → bit ws i = false) ∨ (∀ i, k ≤ i → i < n → bit ws i = false)
  | 0, k, h => .inr fun i h1 h2 => by omega
  | d + 1, k, h => by
    cases hb : bit ws k with
    | true => exact .inl ⟨k, Nat.le_refl _, by omega, hb, fun i h1 h2 => by omega⟩
    | false =>
      rcases first_of ws n d (k + 1) (by omega) with ⟨j, h1, h2, h3, h4⟩ | h1
      · refine .inl ⟨j, by omega, h2, h3, fun i g1 g2 => ?_⟩
        rcases Nat.eq_or_lt_of_le g1 with rfl | g1
        · exact hb
        · exact h4 i g1 g2
      · refine .inr fun i g1 g2 => ?_
        rcases Nat.eq_or_lt_of_le g1 with rfl | g1
        · exact hb
        · exact h1 i g1 g2
theorem els_tail {ws : List Nat} {n k x : Nat} {r : List Nat} (h : els ws n k = x :: r) : r = els ws n (x + 1) ∧ k ≤ x ∧ x < n := by
  rcases first_of ws n _ k rfl with ⟨j, h1, h2, h3, h4⟩ | h1
  · rw [els_some h1 h2 h3 h4] at h
    injection h with e1 e2
    subst e1
    exact ⟨e2.symm, h1, h2⟩
  · have hm : x ∈ els ws n k := by rw [h]; simp
    have := mem_els.1 hm
    rw [h1 x this.1 this.2.1] at this
    exact absurd this.2.2 (by simp)

/-- next, in the list's words. -/
theorem next_els (w : World) (B n : Nat) (ws : List Nat) (h : SetAt w B n ws) (hT : Tab w) (k : Nat) (hk : k ≤ 70000) :
    Calls Tryd.prog 47 #[.pointer (some ⟨B + 1, 0, none⟩), .int .i64 k] w fun en w' => en = .returned (.tuple #[.int .i64 ((els ws n k).head?.getD 0 : Nat), .bool (!(els ws n k).isEmpty)]) ∧ w = w' := by
  refine (next_any w B n ws h hT k hk).mono ?_
  rintro en w' ⟨rfl, ⟨j, h1, h2, h3, h4, rfl⟩ | ⟨h1, rfl⟩⟩
  · rw [els_some h1 h2 h3 h4]; exact ⟨rfl, rfl⟩
  · rw [els_nil h1]; exact ⟨rfl, rfl⟩

def meas (n : Nat) (i ok : Value) : Nat := match ok with
  | .bool true => n + 1 - (intOf i).toNat
  | _ => 0

attribute [local go_sem] Oper.semAt_some

set_option maxRecDepth 100000 in
set_option maxHeartbeats 1000000 in
/-- The iterator's body, for every loop body that keeps the set, its box and the library's table. -/
theorem all1_in (n l Bn B cap : Nat) (ws : List Nat) (Kp : World → World → Prop) (hK : ∀ W W' : World, Kp W W' → W.heap.size ≤ W'.heap.size ∧ ∀ i, i = 0 ∨ i = B ∨ i = B + 1 ∨ i = Bn → W'.heap[i]? = W.heap[i]?) (J Jx : List Nat → World → Prop) (hn : 1 ≤ n)
    (hY : ∀ pre x W, J pre W → pre.length < (els ws cap 0).length → YieldAt Fence.wide (n - 1) Tryd.prog l #[.int .i64 ((x : Nat) : Int)] W fun e W' =>
      (e = .returned (.bool true) ∧ J (pre ++ [x]) W' ∧ Kp W W') ∨ (e = .returned (.bool false) ∧ Jx (pre ++ [x]) W'))
    (W : World) (hBn : W.cell? ⟨Bn, 0, none⟩ = some (.pointer (some ⟨B + 1, 0, none⟩))) (hS : SetAt W B cap ws) (hT : Tab W) (h0 : J [] W) :
    CallsIn Fence.wide n Tryd.prog 46 #[.func (.yield l) #[] #[], .pointer (some ⟨Bn, 0, none⟩)] W fun e W' => (∃ v, e = .returned v) ∧
      ((∃ ys, ys = els ws cap 0 ∧ J ys W') ∨ (∃ pre, pre <+: els ws cap 0 ∧ Jx pre W')) := by
  have HN := hide (next_els W B cap ws hS hT 0 (by omega))
  have h65 := hS.2.2.2
  have HY := hide hY
  have HST := hide (And.intro hS hT)
  clear hY hS hT
  refine callsIn_of_wp Tryd.func46 rfl trivial ?_ rfl
  simp only [Tryd.ntmps46, List.size_toArray, List.length_cons, List.length_nil, Nat.reduceAdd, Nat.reduceSub, Array.replicate_succ, Array.replicate_zero, List.push_toArray, List.append_toArray, List.nil_append, List.cons_append]
  gi_wp2_with (refine ⟨trivial, ?_⟩; gi_at_call 47; refine (callsIn_wide.2 HN.out).mono ?_; rintro e w' ⟨rfl, rfl⟩)
  gi_loopw [3, 4] (fun i ok wr => ∃ (pre : List Nat) (k : Nat), k ≤ 70000 ∧ els ws cap 0 = pre ++ els ws cap k ∧ i = .int .i64 ((els ws cap k).head?.getD 0 : Nat) ∧ ok = .bool (!(els ws cap k).isEmpty) ∧ J pre wr ∧ SetAt wr B cap ws ∧ Tab wr ∧ wr.cell? ⟨Bn, 0, none⟩ = some (.pointer (some ⟨B + 1, 0, none⟩)))
    (fun i ok _ => meas cap i ok)
  case atStart => exact ⟨[], 0, by omega, rfl, rfl, rfl, h0, HST.out.1, HST.out.2, hBn⟩
  case round =>
    obtain ⟨pre, k, hk7, hx, rfl, rfl, hJ, hS, hT, hB⟩ := hrel
    have HB := hide hB
    cases hel : els ws cap k with
    | nil =>
      rw [hel, List.append_nil] at hx
      have HX := hide hx
      have HJ := hide hJ
      clear hS hT hx hB hJ
      gi_wp2
      all_goals (refine ⟨fun _ h => (by cases h), ?_⟩; gi_wp2)
      all_goals go_end0
      all_goals exact ⟨⟨_, rfl⟩, .inl ⟨pre, HX.out.symm, HJ.out⟩⟩
    | cons x r =>
      obtain ⟨hr, hkx, hxn⟩ := els_tail hel
      rw [hel] at hx
      obtain ⟨fn, tmps, assign, body, hy, hR⟩ := HY.out pre x wr hJ (by rw [hx]; simp)
      have HX := hide hx
      have HSW := hide (And.intro hS hT)
      have HR2 := hide hr
      clear hJ hx hS hT hr
      gi_wp2
      refine hR.mono ?_
      rintro e W3 (⟨rfl, hJ3, hk3⟩ | ⟨rfl, hJx3⟩)
      · obtain ⟨hsz, hkk⟩ := hK _ _ hk3
        have hB3 := (World.cell?_of_block (a := ⟨Bn, 0, none⟩) (hkk Bn (by omega))).trans HB.out
        have hS3 : SetAt W3 B cap ws := ⟨(hkk B (by omega)).trans HSW.out.1.1, (hkk (B + 1) (by omega)).trans HSW.out.1.2.1, HSW.out.1.2.2⟩
        have hT3 : Tab W3 := ⟨Nat.lt_of_lt_of_le HSW.out.2.1 hsz, fun j hj => (World.cell?_of_block (a := ⟨0, j, none⟩) (hkk 0 (by omega))).trans (HSW.out.2.2 j hj)⟩
        have HN3 := hide (next_els W3 B cap ws hS3 hT3 (x + 1) (by omega))
        have HS3 := hide (And.intro hS3 (And.intro hT3 (And.intro hJ3 hB3)))
        clear hS3 hT3 hJ3 hk3 HSW hkk hsz
        gi_wp2_with (refine ⟨trivial, ?_⟩; gi_at_call 47; refine (callsIn_wide.2 HN3.out).mono ?_; rintro e w' ⟨rfl, rfl⟩)
        go_roundw
        case rel => exact ⟨pre ++ [x], x + 1, by omega, by rw [HX.out, HR2.out, List.append_assoc]; rfl, rfl, rfl, HS3.out.2.2.1, HS3.out.1, HS3.out.2.1, HS3.out.2.2.2⟩
        case measure =>
          cases hel2 : els ws cap (x + 1) with
          | nil => simp [meas, intOf]; omega
          | cons y q =>
            have := (els_tail hel2).2
            simp [meas, intOf]; omega
      · gi_wp2
        go_end0
        exact ⟨⟨_, rfl⟩, .inr ⟨pre ++ [x], ⟨r, by rw [HX.out]; simp⟩, hJx3⟩⟩
end Go.Proofs.YtbnikoomgeaboaaDoor

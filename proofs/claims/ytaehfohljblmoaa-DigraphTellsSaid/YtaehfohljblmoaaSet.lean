/-
  The part of the sets (layer 3) that layer 6 calls: lines 1 to 91 and 127 to 183 of wip/bitset/XSet.lean.
-/
import Derived.Test.YtaehfohljblmoaaRows
import Derived.Test.YtaehfohljblmoaaKit
import Derived.Test.YtaehfohljblmoaaBits
import Derived.Deep.QuietTactic
import Derived.BigQuiet
import Derived.Deep.RegionLaw
import Derived.LaidEqlPtr
import Derived.StillTailTactics
namespace Go.Proofs.Ytaehfohljblmoaa
open Go.RowKit

/-- The words as cells. -/
def wcells (ws : List Nat) : Array Value := (ws.map fun (x : Nat) => Value.int .u64 (x : Int)).toArray
theorem wcells_size (ws : List Nat) : (wcells ws).size = ws.length := by simp [wcells]
theorem wcells_get (ws : List Nat) (k : Nat) : (wcells ws)[k]? = (ws[k]?).map fun (x : Nat) => Value.int .u64 (x : Int) := by simp [wcells]
theorem wcells_set (ws : List Nat) (k x : Nat) : (wcells ws).setIfInBounds k (.int .u64 (x : Int)) = wcells (ws.set k x) := by simp [wcells, List.map_set]
theorem wcells_zeros (m : Nat) : wcells (List.replicate m 0) = Array.replicate m (.int .u64 0) := by simp [wcells]

/-- THE SET behind a pointer: its words in block B, itself in block B + 1. -/
def SetAt (w : World) (B n : Nat) (ws : List Nat) : Prop :=
  Whole w B 54 (wcells ws) ∧ Whole w (B + 1) 59 #[.int .i64 n, .slice (some ⟨B, 0, none⟩) ws.length ws.length, .pointer (some ⟨B + 1, 0, none⟩)] ∧ Words n ws ∧ n ≤ 65536
theorem SetAt.frm {w w' : World} {B n : Nat} {ws : List Nat} {S : List Nat} (h : SetAt w B n ws) (hf : Frm w w' S) (h0 : B ∉ S) (h1 : B + 1 ∉ S) : SetAt w' B n ws := ⟨h.1.frm hf h0, h.2.1.frm hf h1, h.2.2⟩
theorem SetAt.lt {w : World} {B n : Nat} {ws : List Nat} (h : SetAt w B n ws) : B + 1 < w.heap.size := h.2.1.lt
theorem SetAt.below {w w' : World} {B n : Nat} {ws : List Nat} (h : SetAt w B n ws) (hb : Below w.heap.size w w') : SetAt w' B n ws := h.frm (S := []) (Frm.below hb) (by simp) (by simp)
/-- One word stored. -/
theorem SetAt.store {w : World} {B n k x : Nat} {ws : List Nat} (h : SetAt w B n ws) (hw : Words n (ws.set k x)) : SetAt (w.setCell ⟨B, k, none⟩ (.int .u64 (x : Int))) B n (ws.set k x) := by
  refine ⟨?_, ?_, hw, h.2.2.2⟩
  · rw [← wcells_set]; exact h.1.set k _
  · rw [List.length_set]; exact h.2.1.far (by show B + 1 ≠ B; omega) _

theorem ptrSame (w : World) (a : Addr) : (binOp .eql 50 (.pointer (some a)) (.pointer (some a))).run Try.prog w = .ok (.bool true) w := by
  obtain ⟨i, hi, _⟩ := info_parts (P := Try.prog) (e := 59) (z := .agg #[.int .i64 0, .slice none 0 0, .pointer none]) (size := 3) (bytes := 40) (by kernel_rfl)
  exact run_eql_ptr_same w a Try.underlying50 hi

theorem valid_set (w : World) (B n : Nat) (ws : List Nat) (h : SetAt w B n ws) :
    Calls Try.prog 45 #[.pointer (some ⟨B + 1, 0, none⟩)] w fun en w' => en = .returned (.bool true) ∧ w = w' := by
  have c2 := h.2.1.cell 2
  have heq := ptrSame w ⟨B + 1, 0, none⟩
  go_enter Try.func45, Try.ntmps45
  go_wp2_with fail
  go_ret
  exact ⟨rfl, rfl⟩

theorem cap_set (w : World) (B n : Nat) (ws : List Nat) (h : SetAt w B n ws) :
    Calls Try.prog 44 #[.pointer (some ⟨B + 1, 0, none⟩)] w fun en w' => en = .returned (.int .i64 n) ∧ w = w' := by
  have HV := hide (valid_set w B n ws h)
  have c0 := h.2.1.cell 0
  go_enter Try.func44, Try.ntmps44
  go_wp2_with (go_at_call 45; refine HV.out.mono ?_; rintro en w' ⟨rfl, rfl⟩)
  go_ret
  exact ⟨rfl, rfl⟩

theorem place_out (w : World) (B n : Nat) (ws : List Nat) (h : SetAt w B n ws) (i : Int) (hi : i < 0 ∨ n ≤ i) :
    Calls Try.prog 43 #[.pointer (some ⟨B + 1, 0, none⟩), .int .i64 i] w fun en w' => en = .returned (.tuple #[.pointer none, .int .u64 0]) ∧ w = w' := by
  have HC := hide (cap_set w B n ws h)
  by_cases h0 : i < 0
  · go_enter Try.func43, Try.ntmps43
    go_wp2_with fail
    go_ret2
    exact ⟨rfl, rfl⟩
  · have h1 : i ≥ (n : Int) := by omega
    have h1' : (n : Int) ≤ i := by omega
    go_enter Try.func43, Try.ntmps43
    go_wp2_with (go_at_call 44; refine HC.out.mono ?_; rintro en w' ⟨rfl, rfl⟩)
    go_ret2
    exact ⟨rfl, rfl⟩

theorem place_in (w : World) (B n : Nat) (ws : List Nat) (h : SetAt w B n ws) (i : Nat) (hi : i < n) :
    Calls Try.prog 43 #[.pointer (some ⟨B + 1, 0, none⟩), .int .i64 i] w fun en w' => en = .returned (.tuple #[.pointer (some ⟨B, i / 64, none⟩), .int .u64 ((2 ^ (i % 64) : Nat) : Int)]) ∧ Frm w w' [] := by
  have HC := hide (cap_set w B n ws h)
  have c1 := h.2.1.cell 1
  have hidx := h.2.2.1.idx hi
  have h65 := h.2.2.2
  have i0 : ¬ ((i : Int) < 0) := by omega
  have i1 : ¬ ((i : Int) ≥ n) := by omega
  go_enter Try.func43, Try.ntmps43
  go_wp2_with (go_at_call 44; refine HC.out.mono ?_; rintro en w' ⟨rfl, rfl⟩)
  have e1 : (i : Int).tdiv 64 = ((i / 64 : Nat) : Int) := rfl
  have e2 : (i : Int).tmod 64 = ((i % 64 : Nat) : Int) := rfl
  have e3 := wrap_pow (k := i % 64) (by omega)
  have b1 : ((i / 64 : Nat) : Int) < ws.length := by omega
  go_region
  all_goals go_wp2_with fail
  all_goals go_ret2
  all_goals
    rw [← e3]
    exact ⟨rfl, Frm.drew _ _⟩

/-- Add: an element, or none that it could be. -/
theorem add_same (w : World) (B n : Nat) (ws : List Nat) (h : SetAt w B n ws) (i : Int) (hi : i < 0 ∨ n ≤ i ∨ bit ws i.toNat = true) :
    Calls Try.prog 41 #[.pointer (some ⟨B + 1, 0, none⟩), .int .i64 i] w fun en w' => en = .returned (.bool false) ∧ Frm w w' [] := by
  by_cases hin : 0 ≤ i ∧ i < n
  · obtain ⟨k, rfl⟩ : ∃ k : Nat, i = k := ⟨i.toNat, by omega⟩
    have hk : k < n := by omega
    have hb : bit ws k = true := by
      rcases hi with hi | hi | hi
      · omega
      · omega
      · exact hi
    obtain ⟨x, hx, hxw, hbit⟩ := h.2.2.1.get hk
    have HP := hide (place_in w B n ws h k hk)
    have HT := hide h
    have t1 := and_ne hxw (show k % 64 < 64 by omega)
    rw [← hbit, hb] at t1
    generalize 2 ^ (k % 64) = pw at HP t1
    clear h hbit hb hi
    go_enter Try.func41, Try.ntmps41
    go_wp2_with fail
    refine HP.out.mono ?_
    rintro en w1 ⟨rfl, hf⟩
    have cx : w1.cell? ⟨B, k / 64, none⟩ = some (.int .u64 (x : Int)) := by
      rw [(HT.out.frm hf (by simp) (by simp)).1.cell, wcells_get, hx]; rfl
    go_wp2_with fail
    go_ret
    exact ⟨rfl, hf⟩
  · have HP := hide (place_out w B n ws h i (by omega))
    clear hi
    go_enter Try.func41, Try.ntmps41
    go_wp2_with (go_at_call 43; refine HP.out.mono ?_; rintro en w' ⟨rfl, rfl⟩)
    go_ret
    exact ⟨rfl, Frm.refl _ _⟩
theorem add_new (w : World) (B n : Nat) (ws : List Nat) (h : SetAt w B n ws) (k : Nat) (hk : k < n) (hb : bit ws k = false) :
    Calls Try.prog 41 #[.pointer (some ⟨B + 1, 0, none⟩), .int .i64 k] w fun en w' => en = .returned (.bool true) ∧ ∃ vs, SetAt w' B n vs ∧ (∀ j, bit vs j = (decide (j = k) || bit ws j)) ∧ Frm w w' [B] := by
  obtain ⟨x, hx, hxw, hbit⟩ := h.2.2.1.get hk
  have HP := hide (place_in w B n ws h k hk)
  have HT := hide h
  have t1 := and_ne hxw (show k % 64 < 64 by omega)
  have t2 := or_bit hxw (show k % 64 < 64 by omega)
  rw [← hbit, hb] at t1
  have HADD := hide (h.2.2.1.add hk hx)
  generalize 2 ^ (k % 64) = pw at HP t1 t2 HADD
  clear h hbit hb
  go_enter Try.func41, Try.ntmps41
  go_wp2_with fail
  refine HP.out.mono ?_
  rintro en w1 ⟨rfl, hf⟩
  have hT1 := HT.out.frm hf (by simp) (by simp)
  have cx : w1.cell? ⟨B, k / 64, none⟩ = some (.int .u64 (x : Int)) := by
    rw [hT1.1.cell, wcells_get, hx]; rfl
  have fx := hT1.1.free (k / 64)
  have HT1 := hide hT1
  clear hT1
  go_wp2_with fail
  go_ret
  refine ⟨rfl, _, HT1.out.store HADD.out.1, HADD.out.2, (hf.mono (fun _ h => (by cases h))).setCell _ _ (.inl (by simp))⟩
end Go.Proofs.Ytaehfohljblmoaa

/-
  The ring of layer 5 (worklist): a first-in-first-out store behind a pointer, and what each of its calls leaves.
-/
import Derived.Test.YthdjgbkooeabfaaRows
import Derived.Test.YthdjgbkooeabfaaKit
import Derived.Test.YthdjgbkooeabfaaVals
import Derived.Deep.QuietTactic
import Derived.BigQuiet
import Derived.Deep.RegionLaw
import Derived.LaidEqlPtr
import Derived.StillTailTactics
namespace Go.Proofs.Ythdjgbkooeabfaa
open Go.RowKit

/-- Numbers as cells. -/
def icells (l : List Nat) : Array Value := (l.map fun (x : Nat) => Value.int .i64 (x : Int)).toArray
theorem icells_size (l : List Nat) : (icells l).size = l.length := by simp [icells]
theorem icells_get (l : List Nat) (k : Nat) : (icells l)[k]? = (l[k]?).map fun (x : Nat) => Value.int .i64 (x : Int) := by simp [icells]
theorem icells_set (l : List Nat) (k x : Nat) : (icells l).setIfInBounds k (.int .i64 (x : Int)) = icells (l.set k x) := by simp [icells, List.map_set]

/-- THE RING: q lies in sl from hd on. -/
structure Ring (n : Nat) (sl : List Nat) (hd : Nat) (q : List Nat) : Prop where
  len : sl.length = n
  cnt : q.length ≤ n
  head : hd = 0 ∨ hd < n
  lies : ∀ j x, q[j]? = some x → sl[(hd + j) % n]? = some x
theorem Ring.push {n : Nat} {sl : List Nat} {hd : Nat} {q : List Nat} (h : Ring n sl hd q) (x : Nat) (hr : q.length < n) : Ring n (sl.set ((hd + q.length) % n) x) hd (q ++ [x]) := by
  refine ⟨by rw [List.length_set]; exact h.len, by simp; omega, h.head, fun j y hj => ?_⟩
  have hb : (hd + q.length) % n < sl.length := by rw [h.len]; exact Nat.mod_lt _ (by omega)
  rw [List.getElem?_append] at hj
  split at hj
  · rename_i hlt
    have hhd : hd < n := by rcases h.head with h0 | h0 <;> omega
    rw [List.getElem?_set_ne, h.lies j y hj]
    intro e
    rcases Nat.lt_or_ge (hd + q.length) n with h1 | h1
    · rw [Nat.mod_eq_of_lt h1, Nat.mod_eq_of_lt (by omega)] at e; omega
    · rw [Nat.mod_eq_sub_mod h1, Nat.mod_eq_of_lt (by omega : hd + q.length - n < n)] at e
      rcases Nat.lt_or_ge (hd + j) n with h2 | h2
      · rw [Nat.mod_eq_of_lt h2] at e; omega
      · rw [Nat.mod_eq_sub_mod h2, Nat.mod_eq_of_lt (by omega)] at e; omega
  · have hl := (List.getElem?_eq_some_iff.1 hj).1
    rw [List.length_singleton] at hl
    obtain rfl : j = q.length := by omega
    simp only [Nat.sub_self, List.getElem?_cons_zero, Option.some.injEq] at hj
    subst hj
    rw [List.getElem?_set_self hb]
theorem Ring.pop {n : Nat} {sl : List Nat} {hd x : Nat} {q : List Nat} (h : Ring n sl hd (x :: q)) : Ring n sl ((hd + 1) % n) q ∧ sl[hd]? = some x ∧ hd < n := by
  have h1 : 0 < n := by have := h.cnt; simp at this; omega
  have hhd : hd < n := by rcases h.head with h0 | h0 <;> omega
  refine ⟨⟨h.len, by have := h.cnt; simp at this; omega, .inr (Nat.mod_lt _ h1), fun j y hj => ?_⟩, ?_, hhd⟩
  · have := h.lies (j + 1) y (by simpa using hj)
    rw [← this]
    congr 1
    rw [Nat.mod_add_mod]
    congr 1
    omega
  · have := h.lies 0 x rfl
    rwa [Nat.add_zero, Nat.mod_eq_of_lt hhd] at this

/-- The ring in blocks B and B + 1. -/
def RingAt (w : World) (B n : Nat) (q : List Nat) : Prop :=
  ∃ sl hd, Whole w B 3 (icells sl) ∧ Whole w (B + 1) 50 #[.slice (some ⟨B, 0, none⟩) n n, .int .i64 (hd : Nat), .int .i64 (q.length : Nat)] ∧ Ring n sl hd q ∧ n ≤ 65536
theorem RingAt.frm {w w' : World} {B n : Nat} {q S : List Nat} (h : RingAt w B n q) (hf : Frm w w' S) (h0 : B ∉ S) (h1 : B + 1 ∉ S) : RingAt w' B n q := by
  obtain ⟨sl, hd, a, b, c⟩ := h
  exact ⟨sl, hd, a.frm hf h0, b.frm hf h1, c⟩

theorem ring_size (w : World) (B n : Nat) (q : List Nat) (h : RingAt w B n q) :
    Calls Try.prog 45 #[.pointer (some ⟨B + 1, 0, none⟩)] w fun en w' => en = .returned (.int .i64 (q.length : Nat)) ∧ w = w' := by
  obtain ⟨sl, hd, a, b, c⟩ := h
  have c2 := b.cell 2
  go_enter Try.func45, Try.ntmps45
  go_wp2_with fail
  go_ret
  exact ⟨rfl, rfl⟩

theorem ring_push (w : World) (B n : Nat) (q : List Nat) (h : RingAt w B n q) (x : Nat) (hr : q.length < n) :
    Calls Try.prog 44 #[.pointer (some ⟨B + 1, 0, none⟩), .int .i64 x] w fun en w' => en = .returned (.tuple #[]) ∧ RingAt w' B n (q ++ [x]) ∧ Frm w w' [B, B + 1] := by
  obtain ⟨sl, hd, a, b, c, h65⟩ := h
  have c0 := b.cell 0
  have c1 := b.cell 1
  have c2 := b.cell 2
  have hhd : hd < n := by rcases c.head with h0 | h0 <;> omega
  have HP := hide (c.push x hr)
  obtain ⟨m, hm⟩ : ∃ m, m = (hd + q.length) % n := ⟨_, rfl⟩
  have hmn : m < n := by rw [hm]; exact Nat.mod_lt _ (by omega)
  rw [← hm] at HP
  obtain ⟨z, hz⟩ : ∃ z, sl[m]? = some z := ⟨_, List.getElem?_eq_getElem (by rw [c.len]; exact hmn)⟩
  have ca : w.cell? ⟨B, m, none⟩ = some (.int .i64 z) := by rw [a.cell, icells_get, hz]; rfl
  have fa := a.free m
  have e1 : ((hd : Int) + (q.length : Int)) % (n : Int) = (m : Int) := by rw [hm, ← Int.natCast_add, Int.natCast_emod]
  have e2 : (m : Int) < n := by omega
  have e3 : ¬ n = 0 := by omega
  have b1 : (hd : Int) ≤ 65536 := by omega
  have b2 : (q.length : Int) ≤ 65536 := by have := c.cnt; omega
  have HA := hide (And.intro a b)
  clear hm hz a b c
  go_enter Try.func44, Try.ntmps44
  go_wp2_with fail
  go_region
  all_goals
    have ha := (HA.out.1.set m (.int .i64 (x : Int))).drewN 1
    have hb := (HA.out.2.far (p := ⟨B, m, none⟩) (by show B + 1 ≠ B; omega) (.int .i64 (x : Int)))
    rw [icells_set] at ha
    have d2 := hb.cell 2
    have f2 := hb.free 2
    have HB := hide (And.intro ha hb)
    clear ha hb HA c0 c1 c2 ca fa
    go_wp2_with fail
    go_end0
    have hl : (q ++ [x]).length = q.length + 1 := by simp
    refine ⟨rfl, ⟨_, hd, HB.out.1.far (p := ⟨B + 1, 2, none⟩) (by show B ≠ B + 1; omega) _, ?_, HP.out, h65⟩, (((Frm.refl w _).drewN 1).setCell _ _ (.inl (by simp))).setCell _ _ (.inl (by simp))⟩
    rw [hl, Int.natCast_add]
    exact HB.out.2.set 2 _

theorem ring_pop (w : World) (B n x : Nat) (q : List Nat) (h : RingAt w B n (x :: q)) :
    Calls Try.prog 43 #[.pointer (some ⟨B + 1, 0, none⟩)] w fun en w' => en = .returned (.int .i64 x) ∧ RingAt w' B n q ∧ Frm w w' [B, B + 1] := by
  obtain ⟨sl, hd, a, b, c, h65⟩ := h
  have c0 := b.cell 0
  have c1 := b.cell 1
  have c2 := b.cell 2
  obtain ⟨hp, hz, hhd⟩ := c.pop
  have HP := hide hp
  obtain ⟨m, hm⟩ : ∃ m, m = (hd + 1) % n := ⟨_, rfl⟩
  rw [← hm] at HP
  have ca : w.cell? ⟨B, hd, none⟩ = some (.int .i64 x) := by rw [a.cell, icells_get, hz]; rfl
  have f1 := b.free 1
  have e1 : ((hd : Int) + 1) % (n : Int) = (m : Int) := by rw [hm, Int.natCast_emod, Int.natCast_add]; rfl
  have e2 : (hd : Int) < n := by omega
  have e3 : ¬ n = 0 := by omega
  have b1 : (hd : Int) ≤ 65536 := by omega
  have b2 : (q.length : Int) ≤ 65536 := by have := c.cnt; simp at this; omega
  have hl : (((x :: q).length : Nat) : Int) = (q.length : Int) + 1 := by simp
  rw [hl] at c2
  have HA := hide (And.intro a b)
  clear hm hz a b c hp
  go_enter Try.func43, Try.ntmps43
  go_wp2_with fail
  go_quiet (fail)
  go_wp2_with fail
  go_region
  all_goals
    have ha : Whole ((w.drewN (nq + 1)).setCell ⟨B + 1, 1, none⟩ (.int .i64 (m : Int))) B 3 (icells sl) := Whole.far (w := w.drewN (nq + 1)) HA.out.1 (p := ⟨B + 1, 1, none⟩) (by show B ≠ B + 1; omega) _
    have hb := Whole.set (w := w.drewN (nq + 1)) HA.out.2 1 (.int .i64 (m : Int))
    rw [hl] at hb
    have d2 := hb.cell 2
    have f2 := hb.free 2
    have HB := hide (And.intro ha hb)
    clear ha hb HA c0 c1 c2 ca f1
    go_wp2_with fail
    go_ret
    exact ⟨rfl, ⟨sl, m, HB.out.1.far (p := ⟨B + 1, 2, none⟩) (by show B ≠ B + 1; omega) _, HB.out.2.set 2 _, HP.out, h65⟩, (((Frm.refl w _).drewN (nq + 1)).setCell _ _ (.inl (by simp))).setCell _ _ (.inl (by simp))⟩
end Go.Proofs.Ythdjgbkooeabfaa

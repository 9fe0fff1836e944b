/-
  Layer 11 (value): what is valid; lanes.
-/
import Derived.Test.YtojeaghljebbbaaDoorVC
namespace Go.Proofs.YtojeaghljebbbaaDoor
open Go.RowKit

theorem Tab.drewN {w : World} (h : Tab w) (n : Nat) : Tab (w.drewN n) := ⟨h.c0, h.c1, h.c2, h.c3, h.c4⟩
/-- A lane that its type allows. -/
def okLane (t : Int) (l : LaneD) : Bool := !(l.p && l.u) && !((l.p || l.u) && (l.n != 0)) && (wrapI t l.n == l.n)
def zeroL (l : LaneD) : Bool := !l.p && !l.u && (l.n == 0)
def okAt (t : Int) (i : Int) (l : LaneD) : Bool := if i < numL t then okLane (laneT t) l else zeroL l
/-- The lanes before i are as they may be. -/
def oks (t : Int) (a b c d : LaneD) : Nat → Bool
  | 0 => true
  | 1 => okAt t 0 a
  | 2 => okAt t 0 a && okAt t 1 b
  | 3 => okAt t 0 a && okAt t 1 b && okAt t 2 c
  | _ => okAt t 0 a && okAt t 1 b && okAt t 2 c && okAt t 3 d
def validB (t o : Int) (a b c d : LaneD) : Bool := decide (0 < numL t) && oks t a b c d 4 && (if points t a.p = true then decide (-1 ≤ o) else o == 0)
theorem wrapI_zero (t : Int) : wrapI t 0 = 0 := by
  rcases kinds t with rfl | rfl | rfl | rfl | h
  · rfl
  · rfl
  · rfl
  · rfl
  · rw [wrapI_none h]
theorem oks_succ (t : Int) (a b c d : LaneD) (i : Nat) (l : LaneD) (h : [a, b, c, d][i]? = some l) : oks t a b c d (i + 1) = (oks t a b c d i && okAt t i l) := by
  match i, h with
  | 0, h => injection h with h; subst h; simp [oks]
  | 1, h => injection h with h; subst h; rfl
  | 2, h => injection h with h; subst h; rfl
  | 3, h => injection h with h; subst h; rfl
theorem oks_end {t : Int} {a b c d : LaneD} {i : Nat} (hi : i ≤ 4) (h : oks t a b c d i = false) : oks t a b c d 4 = false := by
  match i, hi with
  | 0, _ => exact absurd h (by simp [oks])
  | 1, _ => simp only [oks] at h ⊢; simp [h]
  | 2, _ => simp only [oks] at h ⊢; simp [h]
  | 3, _ => simp only [oks] at h ⊢; simp [h]
  | 4, _ => exact h

set_option maxRecDepth 100000 in
set_option maxHeartbeats 4000000 in
/-- What the program says of a lane. -/
theorem vlane_any (t n : Int) (p u : Bool) (w : World) (hT : Tab w) :
    Calls Tryd.prog 51 #[.int .i64 t, .agg #[.int .i64 n, .bool p, .bool u]] w fun e w' => e = .returned (.bool (okLane t ⟨n, p, u⟩)) ∧ Below w.heap.size w w' := by
  obtain ⟨q, hq⟩ : ∃ q, w.heap.size = q := ⟨_, rfl⟩
  obtain ⟨w1, hw1⟩ : ∃ x, w.alloc (.cells #[.int .i64 n, .bool p, .bool u] 24) = x := ⟨_, rfl⟩
  have hR1 : Whole w1 q 24 #[.int .i64 n, .bool p, .bool u] := by rw [← hw1, ← hq]; exact Whole.new w _ _
  have hb1 : Below q w w1 := by rw [← hw1, ← hq]; exact (Below.refl _ _).alloc (Nat.le_refl _) _
  have HT := hide (hT.below (by rw [hq]; exact hb1))
  have HB := hide hb1
  have c0 : w1.cell? ⟨q, 0, none⟩ = some (.int .i64 n) := hR1.cell 0
  have c1 : w1.cell? ⟨q, 1, none⟩ = some (.bool p) := hR1.cell 1
  have c2 : w1.cell? ⟨q, 2, none⟩ = some (.bool u) := hR1.cell 2
  obtain ⟨y, hy⟩ : ∃ y, wrapI t n = y := ⟨_, rfl⟩
  have HW := hide hy
  obtain ⟨z, hz⟩ : ∃ z, (n == 0) = z := ⟨_, rfl⟩
  obtain ⟨x, hx⟩ : ∃ x, (n == y) = x := ⟨_, rfl⟩
  have HV : Hid (okLane t ⟨n, p, u⟩ = (if p = true then (!u && z) else if u = true then z else x)) := hide (by
    have h0 := wrapI_zero t
    unfold okLane
    by_cases hn : n = 0
    · subst hn
      rw [h0] at hy
      subst hy
      have : z = true := by rw [← hz]; rfl
      subst this
      have : x = true := by rw [← hx]; rfl
      subst this
      cases p <;> cases u <;> simp [h0]
    · have : z = false := by rw [← hz]; exact beq_eq_false_iff_ne.2 hn
      subst this
      cases p <;> cases u <;> simp [hn, hy]
      rw [← hx]
      by_cases h : y = n
      · rw [h]
      · rw [beq_eq_false_iff_ne.2 h, beq_eq_false_iff_ne.2 (fun k => h k.symm)])
  rw [HV.out]
  clear hT hR1 hb1 hy
  cases p <;> cases u <;> cases z <;> cases x
  all_goals
    go_enter Tryd.func51, Tryd.ntmps51
    go_wp2_with fail
    go_quiet (first | (go_at_call 36; exact Calls.quiet_of_same ((wrap_any _ _ _ (HT.out.drewN _)).mono fun _ _ ⟨e1, e2⟩ => ⟨by rw [e1, HW.out], e2.symm⟩)))
    go_wp2_with fail
    go_ret
    exact ⟨rfl, by first | exact Below.drewN' HB.out _ | (rw [hq]; exact Below.drewN' HB.out _)⟩
end Go.Proofs.YtojeaghljebbbaaDoor

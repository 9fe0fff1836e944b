/-
  Layer 11 (value): values as data; NumLanes and laneType.
-/
import Derived.Test.YtojeaghljebbbaaDoorOps
import Derived.Test.YtojeaghljebbbaaDoorOpenN
import Derived.Deep.QuietTactic
import Derived.BigQuiet
import Derived.Deep.RegionLaw
import Derived.Deep.RegionHeld3
namespace Go.Proofs.YtojeaghljebbbaaDoor
open Go.RowKit

/-- A lane. -/
structure LaneD where
  n : Int
  p : Bool
  u : Bool
/-- How many lanes a value of type t has. -/
def numL (t : Int) : Int := if t = 1 then 1 else if t = 2 then 1 else if t = 3 then 1 else if t = 4 then 1 else if t = 5 then 1 else if t = 6 then 2 else if t = 7 then 4 else 0
/-- The type of its lanes. -/
def laneT (t : Int) : Int := if t = 5 then 4 else if t = 6 then 3 else if t = 7 then 3 else t
theorem types7 (t : Int) : t = 1 ∨ t = 2 ∨ t = 3 ∨ t = 4 ∨ t = 5 ∨ t = 6 ∨ t = 7 ∨ (t < 1 ∨ 7 < t) := by omega
theorem numL_none {t : Int} (h : t < 1 ∨ 7 < t) : numL t = 0 := by
  unfold numL; repeat rw [if_neg (by omega)]
theorem laneT_none {t : Int} (h : t < 1 ∨ 7 < t) : laneT t = t := by
  unfold laneT; repeat rw [if_neg (by omega)]
theorem numL_cases (t : Int) : numL t = 0 ∨ numL t = 1 ∨ numL t = 2 ∨ numL t = 4 := by
  rcases types7 t with rfl | rfl | rfl | rfl | rfl | rfl | rfl | h
  · exact .inr (.inl rfl)
  · exact .inr (.inl rfl)
  · exact .inr (.inl rfl)
  · exact .inr (.inl rfl)
  · exact .inr (.inl rfl)
  · exact .inr (.inr (.inl rfl))
  · exact .inr (.inr (.inr rfl))
  · exact .inl (numL_none h)

theorem lanes_any (t : Int) (w : World) : Calls Tryd.prog 50 #[.int .i64 t] w fun e w' => e = .returned (.int .i64 (numL t)) ∧ w = w' := by
  rcases types7 t with rfl | rfl | rfl | rfl | rfl | rfl | rfl | h
  · go_enter Tryd.func50, Tryd.ntmps50; go_wp2; go_ret; exact ⟨rfl, rfl⟩
  · go_enter Tryd.func50, Tryd.ntmps50; go_wp2; go_ret; exact ⟨rfl, rfl⟩
  · go_enter Tryd.func50, Tryd.ntmps50; go_wp2; go_ret; exact ⟨rfl, rfl⟩
  · go_enter Tryd.func50, Tryd.ntmps50; go_wp2; go_ret; exact ⟨rfl, rfl⟩
  · go_enter Tryd.func50, Tryd.ntmps50; go_wp2; go_ret; exact ⟨rfl, rfl⟩
  · go_enter Tryd.func50, Tryd.ntmps50; go_wp2; go_ret; exact ⟨rfl, rfl⟩
  · go_enter Tryd.func50, Tryd.ntmps50; go_wp2; go_ret; exact ⟨rfl, rfl⟩
  · have e1 : (t == 1) = false := beq_eq_false_iff_ne.2 (by omega)
    have e2 : (t == 2) = false := beq_eq_false_iff_ne.2 (by omega)
    have e3 : (t == 3) = false := beq_eq_false_iff_ne.2 (by omega)
    have e4 : (t == 4) = false := beq_eq_false_iff_ne.2 (by omega)
    have e5 : (t == 5) = false := beq_eq_false_iff_ne.2 (by omega)
    have e6 : (t == 6) = false := beq_eq_false_iff_ne.2 (by omega)
    have e7 : (t == 7) = false := beq_eq_false_iff_ne.2 (by omega)
    have hn := hide (numL_none h)
    clear h
    go_enter Tryd.func50, Tryd.ntmps50
    go_wp2
    go_ret
    rw [hn.out]
    exact ⟨rfl, rfl⟩
theorem lanet_any (t : Int) (w : World) : Calls Tryd.prog 37 #[.int .i64 t] w fun e w' => e = .returned (.int .i64 (laneT t)) ∧ w = w' := by
  by_cases h5 : t = 5
  · subst h5; go_enter Tryd.func37, Tryd.ntmps37; go_wp2; go_ret; exact ⟨rfl, rfl⟩
  · by_cases h6 : t = 6
    · subst h6; go_enter Tryd.func37, Tryd.ntmps37; go_wp2; go_ret; exact ⟨rfl, rfl⟩
    · by_cases h7 : t = 7
      · subst h7; go_enter Tryd.func37, Tryd.ntmps37; go_wp2; go_ret; exact ⟨rfl, rfl⟩
      · have e5 : (t == 5) = false := beq_eq_false_iff_ne.2 h5
        have e6 : (t == 6) = false := beq_eq_false_iff_ne.2 h6
        have e7 : (t == 7) = false := beq_eq_false_iff_ne.2 h7
        have hn : Hid (laneT t = t) := hide (by unfold laneT; rw [if_neg h5, if_neg h6, if_neg h7])
        clear h5 h6 h7
        go_enter Tryd.func37, Tryd.ntmps37
        go_wp2
        go_ret
        rw [hn.out]
        exact ⟨rfl, rfl⟩
theorem isint_any (t : Int) (w : World) : Calls Tryd.prog 32 #[.int .i64 t] w fun e w' => e = .returned (.bool (decide (1 ≤ t ∧ t ≤ 4))) ∧ w = w' := by
  by_cases h1 : 1 ≤ t
  · have a1 : decide (t ≥ 1) = true := decide_eq_true h1
    have a1' : decide (1 ≤ t) = true := decide_eq_true h1
    by_cases h4 : t ≤ 4
    · have a2 : decide (t ≤ 4) = true := decide_eq_true h4
      rw [decide_eq_true (⟨h1, h4⟩ : 1 ≤ t ∧ t ≤ 4)]
      clear h1 h4
      go_enter Tryd.func32, Tryd.ntmps32; go_wp2; go_ret; exact ⟨rfl, rfl⟩
    · have a2 : decide (t ≤ 4) = false := decide_eq_false h4
      rw [decide_eq_false (fun h : 1 ≤ t ∧ t ≤ 4 => h4 h.2)]
      clear h1 h4
      go_enter Tryd.func32, Tryd.ntmps32; go_wp2; go_ret; exact ⟨rfl, rfl⟩
  · have a1 : decide (t ≥ 1) = false := decide_eq_false h1
    have a1' : decide (1 ≤ t) = false := decide_eq_false h1
    rw [decide_eq_false (fun h : 1 ≤ t ∧ t ≤ 4 => h1 h.1)]
    clear h1
    go_enter Tryd.func32, Tryd.ntmps32; go_wp2; go_ret; exact ⟨rfl, rfl⟩
theorem rlanes_any (t : Int) (w : World) : Calls Tryd.prog 33 #[.int .i64 t] w fun e w' => e = .returned (.int .i64 (numL t)) ∧ w = w' := by
  have key : ∀ b n : Int, ∀ k5 k6 k7 kk : Bool, decide (1 ≤ t ∧ t ≤ 4) = kk → (t == 5) = k5 → (t == 6) = k6 → (t == 7) = k7 → numL t = n → (if kk = true ∨ k5 = true then 1 else if k6 = true then 2 else if k7 = true then 4 else 0) = n → Calls Tryd.prog 33 #[.int .i64 t] w fun e w' => e = .returned (.int .i64 (numL t)) ∧ w = w' := by
    intro b n k5 k6 k7 kk hk h5 h6 h7 hn hv
    have HK := isint_any t w
    rw [hk] at HK
    have HK := hide HK
    have HN := hide hn
    clear hk hn
    cases kk <;> cases k5 <;> cases k6 <;> cases k7
    all_goals
      simp at hv
      subst hv
      go_enter Tryd.func33, Tryd.ntmps33
      go_wp2_with fail
      refine HK.out.mono ?_
      rintro e w' ⟨rfl, rfl⟩
      go_wp2_with fail
      go_ret
      rw [HN.out]
      exact ⟨rfl, rfl⟩
  refine key 0 _ _ _ _ _ rfl rfl rfl rfl rfl ?_
  rcases types7 t with rfl | rfl | rfl | rfl | rfl | rfl | rfl | h
  · rfl
  · rfl
  · rfl
  · rfl
  · rfl
  · rfl
  · rfl
  · rw [numL_none h, decide_eq_false (by omega), beq_eq_false_iff_ne.2 (show t ≠ 5 by omega), beq_eq_false_iff_ne.2 (show t ≠ 6 by omega), beq_eq_false_iff_ne.2 (show t ≠ 7 by omega)]; rfl
theorem rlanet_any (t : Int) (w : World) : Calls Tryd.prog 35 #[.int .i64 t] w fun e w' => e = .returned (.int .i64 (laneT t)) ∧ w = w' := by
  by_cases h5 : t = 5
  · subst h5; go_enter Tryd.func35, Tryd.ntmps35; go_wp2; go_ret; exact ⟨rfl, rfl⟩
  · by_cases h6 : t = 6
    · subst h6; go_enter Tryd.func35, Tryd.ntmps35; go_wp2; go_ret; exact ⟨rfl, rfl⟩
    · by_cases h7 : t = 7
      · subst h7; go_enter Tryd.func35, Tryd.ntmps35; go_wp2; go_ret; exact ⟨rfl, rfl⟩
      · have e5 : (t == 5) = false := beq_eq_false_iff_ne.2 h5
        have e6 : (t == 6) = false := beq_eq_false_iff_ne.2 h6
        have e7 : (t == 7) = false := beq_eq_false_iff_ne.2 h7
        have hn : Hid (laneT t = t) := hide (by unfold laneT; rw [if_neg h5, if_neg h6, if_neg h7])
        clear h5 h6 h7
        go_enter Tryd.func35, Tryd.ntmps35
        go_wp2
        go_ret
        rw [hn.out]
        exact ⟨rfl, rfl⟩
/-- Is it a pointer to somewhere? -/
def points (t : Int) (p : Bool) : Bool := t == 5 && !p
end Go.Proofs.YtojeaghljebbbaaDoor

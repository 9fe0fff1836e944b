/-
  Layer 12 (opcode): the types of the reference.
-/
import Derived.Test.YtnhaanjpcnnifaaDoorOpR
namespace Go.Proofs.YtnhaanjpcnnifaaDoor
open Go.RowKit

theorem rwide_any (t : Int) (w : World) : Calls Tryd.prog 93 #[.int .i64 t] w fun e w' => e = .returned (.bool (wideB t)) ∧ w = w' := by
  rcases types8 t with rfl | rfl | rfl | rfl | rfl | rfl | rfl | rfl | h
  · go_enter Tryd.func93, Tryd.ntmps93
    go_wp2_with fail
    go_ret
    exact ⟨rfl, rfl⟩
  · go_enter Tryd.func93, Tryd.ntmps93
    go_wp2_with fail
    go_ret
    exact ⟨rfl, rfl⟩
  · go_enter Tryd.func93, Tryd.ntmps93
    go_wp2_with fail
    go_ret
    exact ⟨rfl, rfl⟩
  · go_enter Tryd.func93, Tryd.ntmps93
    go_wp2_with fail
    go_ret
    exact ⟨rfl, rfl⟩
  · go_enter Tryd.func93, Tryd.ntmps93
    go_wp2_with fail
    go_ret
    exact ⟨rfl, rfl⟩
  · go_enter Tryd.func93, Tryd.ntmps93
    go_wp2_with fail
    go_ret
    exact ⟨rfl, rfl⟩
  · go_enter Tryd.func93, Tryd.ntmps93
    go_wp2_with fail
    go_ret
    exact ⟨rfl, rfl⟩
  · go_enter Tryd.func93, Tryd.ntmps93
    go_wp2_with fail
    go_ret
    exact ⟨rfl, rfl⟩
  · have hm : wideB t = false := by simp [wideB]; omega
    rw [hm]
    have d1 : (t == 1) = false := by simp; omega
    have d2 : (t == 2) = false := by simp; omega
    have d3 : (t == 3) = false := by simp; omega
    have d4 : (t == 4) = false := by simp; omega
    have d5 : (t == 5) = false := by simp; omega
    have d6 : (t == 6) = false := by simp; omega
    have d7 : (t == 7) = false := by simp; omega
    clear h hm
    go_enter Tryd.func93, Tryd.ntmps93
    go_wp2_with fail
    go_ret
    exact ⟨rfl, rfl⟩
theorem rint12_any (t : Int) (w : World) : Calls Tryd.prog 91 #[.int .i64 t] w fun e w' => e = .returned (.bool (intB t)) ∧ w = w' := by
  by_cases h : t = 1
  · subst h
    go_enter Tryd.func91, Tryd.ntmps91
    go_wp2_with fail
    go_ret
    exact ⟨rfl, rfl⟩
  · have d1 : (t == 1) = false := by simpa using h
    have hm : intB t = wideB t := by simp [intB, h]
    rw [hm]
    clear h hm
    go_enter Tryd.func91, Tryd.ntmps91
    go_wp2_with fail
    refine (rwide_any t _).mono ?_
    rintro en wn ⟨rfl, rfl⟩
    go_wp2_with fail
    go_ret
    exact ⟨rfl, rfl⟩
theorem rany_any (t : Int) (w : World) : Calls Tryd.prog 92 #[.int .i64 t] w fun e w' => e = .returned (.bool (anyB t)) ∧ w = w' := by
  rcases types8 t with rfl | rfl | rfl | rfl | rfl | rfl | rfl | rfl | h
  · go_enter Tryd.func92, Tryd.ntmps92
    go_wp2_with fail
    go_ret
    exact ⟨rfl, rfl⟩
  · go_enter Tryd.func92, Tryd.ntmps92
    go_wp2_with fail
    go_ret
    exact ⟨rfl, rfl⟩
  · go_enter Tryd.func92, Tryd.ntmps92
    go_wp2_with fail
    go_ret
    exact ⟨rfl, rfl⟩
  · go_enter Tryd.func92, Tryd.ntmps92
    go_wp2_with fail
    go_ret
    exact ⟨rfl, rfl⟩
  · go_enter Tryd.func92, Tryd.ntmps92
    go_wp2_with fail
    go_ret
    exact ⟨rfl, rfl⟩
  · go_enter Tryd.func92, Tryd.ntmps92
    go_wp2_with fail
    go_ret
    exact ⟨rfl, rfl⟩
  · go_enter Tryd.func92, Tryd.ntmps92
    go_wp2_with fail
    go_ret
    exact ⟨rfl, rfl⟩
  · go_enter Tryd.func92, Tryd.ntmps92
    go_wp2_with fail
    go_ret
    exact ⟨rfl, rfl⟩
  · have hm : anyB t = false := by simp [anyB]; omega
    rw [hm]
    have d1 : (t == 1) = false := by simp; omega
    have d2 : (t == 2) = false := by simp; omega
    have d3 : (t == 3) = false := by simp; omega
    have d4 : (t == 4) = false := by simp; omega
    have d5 : (t == 5) = false := by simp; omega
    have d6 : (t == 6) = false := by simp; omega
    have d7 : (t == 7) = false := by simp; omega
    by_cases h1 : 1 ≤ t
    · have g1 : decide ((1 : Int) ≤ t) = true := by simpa using h1
      have g7 : decide (t ≤ 7) = false := by simp; omega
      clear h h1 hm
      go_enter Tryd.func92, Tryd.ntmps92
      go_wp2_with fail
      go_ret
      exact ⟨rfl, rfl⟩
    · have g1 : decide ((1 : Int) ≤ t) = false := by simpa using h1
      clear h h1 hm
      go_enter Tryd.func92, Tryd.ntmps92
      go_wp2_with fail
      go_ret
      exact ⟨rfl, rfl⟩
end Go.Proofs.YtnhaanjpcnnifaaDoor

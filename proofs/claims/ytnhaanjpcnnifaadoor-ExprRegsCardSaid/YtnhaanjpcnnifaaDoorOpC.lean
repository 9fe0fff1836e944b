/-
  Layer 12 (opcode): the parts of Check.
-/
import Derived.Deep.Cut
import Derived.Deep.RegionHeld3
import Derived.Test.YtnhaanjpcnnifaaDoorOpL
import Derived.Test.YtnhaanjpcnnifaaDoorSlice
import Derived.Test.YtnhaanjpcnnifaaDoorLeaf
namespace Go.Proofs.YtnhaanjpcnnifaaDoor
open Go.RowKit

theorem isreg_any (r : Int) (v0 v1 v4 : Value) (res : Int) (RA : Option Addr) (rn rc : Nat) (w : World) : Calls Tryd.prog 86 #[.int .i64 r, .agg #[v0, v1, .int .i64 res, .slice RA rn rc, v4]] w fun e w' => e = .returned (.bool (decide (0 ≤ r ∧ r < rn))) ∧ Below w.heap.size w w' := by
  by_cases h : 0 ≤ r
  · have g : decide ((0 : Int) ≤ r) = true := by simpa using h
    go_enter Tryd.func86, Tryd.ntmps86
    go_wp2_with fail
    go_ret
    exact ⟨by simp [h], (Below.refl _ _).alloc (Nat.le_refl _) _⟩
  · have g : decide ((0 : Int) ≤ r) = false := by simpa using h
    go_enter Tryd.func86, Tryd.ntmps86
    go_wp2_with fail
    go_ret
    exact ⟨by simp, (Below.refl _ _).alloc (Nat.le_refl _) _⟩
def strayM (op imm sym el : Int) (nw : Bool) : Bool :=
  nw && !(decide (op = 5) || decide (op = 6) || decide (op = 7)) || (imm != 0) && !(decide (op = 1) || decide (op = 26) || decide (op = 33)) || (sym != 0) && !(decide (op = 25) || decide (op = 30)) || (el != 0) && !decide (op = 26)
set_option maxRecDepth 100000 in
set_option maxHeartbeats 4000000 in
theorem stray_any (op ty dst imm sym el : Int) (A : Option Addr) (n c : Nat) (nw : Bool) (w : World) : Calls Tryd.prog 58 #[.agg #[.int .i64 op, .int .i64 ty, .int .i64 dst, .slice A n c, .int .i64 imm, .int .i64 sym, .int .i64 el, .bool nw]] w fun e w' => e = .returned (.bool (strayM op imm sym el nw)) ∧ Below w.heap.size w w' := by
  by_cases c5 : op = 5
  · subst c5
    go_enter Tryd.func58, Tryd.ntmps58
    go_wp2_with fail
    go_quiet (fail)
    go_wp2_with fail
    all_goals
      go_ret
      exact ⟨by simp_all [strayM], Below.drewN' ((Below.refl _ _).alloc (Nat.le_refl _) _) nq⟩
  by_cases c6 : op = 6
  · subst c6
    go_enter Tryd.func58, Tryd.ntmps58
    go_wp2_with fail
    go_quiet (fail)
    go_wp2_with fail
    all_goals
      go_ret
      exact ⟨by simp_all [strayM], Below.drewN' ((Below.refl _ _).alloc (Nat.le_refl _) _) nq⟩
  by_cases c7 : op = 7
  · subst c7
    go_enter Tryd.func58, Tryd.ntmps58
    go_wp2_with fail
    go_quiet (fail)
    go_wp2_with fail
    all_goals
      go_ret
      exact ⟨by simp_all [strayM], Below.drewN' ((Below.refl _ _).alloc (Nat.le_refl _) _) nq⟩
  by_cases c26 : op = 26
  · subst c26
    go_enter Tryd.func58, Tryd.ntmps58
    go_wp2_with fail
    go_quiet (fail)
    go_wp2_with fail
    all_goals
      go_ret
      exact ⟨by simp_all [strayM], Below.drewN' ((Below.refl _ _).alloc (Nat.le_refl _) _) nq⟩
  by_cases c1 : op = 1
  · subst c1
    go_enter Tryd.func58, Tryd.ntmps58
    go_wp2_with fail
    go_quiet (fail)
    go_wp2_with fail
    all_goals
      go_ret
      exact ⟨by simp_all [strayM], Below.drewN' ((Below.refl _ _).alloc (Nat.le_refl _) _) nq⟩
  by_cases c33 : op = 33
  · subst c33
    go_enter Tryd.func58, Tryd.ntmps58
    go_wp2_with fail
    go_quiet (fail)
    go_wp2_with fail
    all_goals
      go_ret
      exact ⟨by simp_all [strayM], Below.drewN' ((Below.refl _ _).alloc (Nat.le_refl _) _) nq⟩
  by_cases c25 : op = 25
  · subst c25
    go_enter Tryd.func58, Tryd.ntmps58
    go_wp2_with fail
    go_quiet (fail)
    go_wp2_with fail
    all_goals
      go_ret
      exact ⟨by simp_all [strayM], Below.drewN' ((Below.refl _ _).alloc (Nat.le_refl _) _) nq⟩
  by_cases c30 : op = 30
  · subst c30
    go_enter Tryd.func58, Tryd.ntmps58
    go_wp2_with fail
    go_quiet (fail)
    go_wp2_with fail
    all_goals
      go_ret
      exact ⟨by simp_all [strayM], Below.drewN' ((Below.refl _ _).alloc (Nat.le_refl _) _) nq⟩
  have d5 : (op == 5) = false := by simpa using c5
  have d6 : (op == 6) = false := by simpa using c6
  have d7 : (op == 7) = false := by simpa using c7
  have d26 : (op == 26) = false := by simpa using c26
  have d1 : (op == 1) = false := by simpa using c1
  have d33 : (op == 33) = false := by simpa using c33
  have d25 : (op == 25) = false := by simpa using c25
  have d30 : (op == 30) = false := by simpa using c30
  go_enter Tryd.func58, Tryd.ntmps58
  go_wp2_with fail
  go_quiet (fail)
  go_wp2_with fail
  all_goals
    go_ret
    exact ⟨by simp_all [strayM], Below.drewN' ((Below.refl _ _).alloc (Nat.le_refl _) _) nq⟩
def symM (op sym : Int) (gn fn : Nat) : Bool := if op = 25 then decide (0 ≤ sym) && decide (sym < gn) else if op = 30 then decide (0 ≤ sym) && decide (sym < fn) else true
set_option maxRecDepth 100000 in
theorem symex_any (op ty dst imm sym el : Int) (A GA FA : Option Addr) (n c gn gc fn fc : Nat) (nw : Bool) (w : World) : Calls Tryd.prog 59 #[.agg #[.int .i64 op, .int .i64 ty, .int .i64 dst, .slice A n c, .int .i64 imm, .int .i64 sym, .int .i64 el, .bool nw], .agg #[.slice GA gn gc, .slice FA fn fc]] w fun e w' => e = .returned (.bool (symM op sym gn fn)) ∧ Below w.heap.size w w' := by
  by_cases h : 0 ≤ sym
  · have g : decide ((0 : Int) ≤ sym) = true := by simpa using h
    by_cases c25 : op = 25
    · subst c25
      go_enter Tryd.func59, Tryd.ntmps59
      go_wp2_with fail
      go_ret
      exact ⟨by first | (simp_all [symM]; done) | (simp_all [symM]; omega), ((Below.refl _ _).alloc (Nat.le_refl _) _).alloc (by simp [go_sem]) _⟩
    by_cases c30 : op = 30
    · subst c30
      go_enter Tryd.func59, Tryd.ntmps59
      go_wp2_with fail
      go_ret
      exact ⟨by first | (simp_all [symM]; done) | (simp_all [symM]; omega), ((Below.refl _ _).alloc (Nat.le_refl _) _).alloc (by simp [go_sem]) _⟩
    have d25 : (op == 25) = false := by simpa using c25
    have d30 : (op == 30) = false := by simpa using c30
    go_enter Tryd.func59, Tryd.ntmps59
    go_wp2_with fail
    go_ret
    exact ⟨by first | (simp_all [symM]; done) | (simp_all [symM]; omega), ((Below.refl _ _).alloc (Nat.le_refl _) _).alloc (by simp [go_sem]) _⟩
  · have g : decide ((0 : Int) ≤ sym) = false := by simpa using h
    by_cases c25 : op = 25
    · subst c25
      go_enter Tryd.func59, Tryd.ntmps59
      go_wp2_with fail
      go_ret
      exact ⟨by first | (simp_all [symM]; done) | (simp_all [symM]; omega), ((Below.refl _ _).alloc (Nat.le_refl _) _).alloc (by simp [go_sem]) _⟩
    by_cases c30 : op = 30
    · subst c30
      go_enter Tryd.func59, Tryd.ntmps59
      go_wp2_with fail
      go_ret
      exact ⟨by first | (simp_all [symM]; done) | (simp_all [symM]; omega), ((Below.refl _ _).alloc (Nat.le_refl _) _).alloc (by simp [go_sem]) _⟩
    have d25 : (op == 25) = false := by simpa using c25
    have d30 : (op == 30) = false := by simpa using c30
    go_enter Tryd.func59, Tryd.ntmps59
    go_wp2_with fail
    go_ret
    exact ⟨by first | (simp_all [symM]; done) | (simp_all [symM]; omega), ((Below.refl _ _).alloc (Nat.le_refl _) _).alloc (by simp [go_sem]) _⟩
end Go.Proofs.YtnhaanjpcnnifaaDoor

/-
  Layer 12 (opcode): the tables as facts of a world; the small functions.
-/
import Derived.Deep.Cut
import Derived.Test.YtnhaanjpcnnifaaDoorOps
import Derived.Test.YtnhaanjpcnnifaaDoorOpM
import Derived.Test.YtnhaanjpcnnifaaDoorBlock
namespace Go.Proofs.YtnhaanjpcnnifaaDoor
open Go.RowKit

def opNames : List (List UInt8) := [[], [99, 111, 110, 115, 116], [112, 111, 105, 115, 111, 110], [102, 114, 101, 101, 122, 101], [99, 111, 112, 121], [97, 100, 100], [115, 117, 98], [109, 117, 108], [97, 110, 100], [111, 114], [120, 111, 114], [115, 104, 108], [108, 115, 104, 114], [97, 115, 104, 114], [115, 100, 105, 118], [115, 114, 101, 109], [101, 113], [110, 101], [115, 108, 116], [115, 108, 101], [117, 108, 116], [115, 101, 108, 101, 99, 116], [115, 101, 120, 116], [122, 101, 120, 116], [116, 114, 117, 110, 99], [103, 108, 111, 98, 97, 108], [97, 108, 108, 111, 99, 97], [111, 102, 102, 115, 101, 116], [108, 111, 97, 100], [115, 116, 111, 114, 101], [99, 97, 108, 108], [111, 117, 116, 112, 117, 116], [112, 97, 99, 107], [108, 97, 110, 101]]
def tyNames : List (List UInt8) := [[118, 111, 105, 100], [98, 111, 111, 108], [105, 56], [105, 51, 50], [105, 54, 52], [112, 116, 114], [118, 50], [118, 52]]
/-- The tables of the layer, as a world holds them. -/
structure OpTab (w : World) : Prop where
  names : ∀ i s, opNames[i]? = some s → w.cell? ⟨0, i, none⟩ = some (.string ⟨s.toArray⟩)
  types : ∀ i s, tyNames[i]? = some s → w.cell? ⟨1, i, none⟩ = some (.string ⟨s.toArray⟩)
  res : ∀ i, i < 34 → w.cell? ⟨2, i * 6, none⟩ = some (.int .u8 ((ruleM i).1 : Int))
  op0 : ∀ i, i < 34 → w.cell? ⟨2, i * 6 + 1, none⟩ = some (.int .u8 ((ruleM i).2.1.1 : Int))
  op1 : ∀ i, i < 34 → w.cell? ⟨2, i * 6 + 2, none⟩ = some (.int .u8 ((ruleM i).2.1.2.1 : Int))
  op2 : ∀ i, i < 34 → w.cell? ⟨2, i * 6 + 3, none⟩ = some (.int .u8 ((ruleM i).2.1.2.2.1 : Int))
  op3 : ∀ i, i < 34 → w.cell? ⟨2, i * 6 + 4, none⟩ = some (.int .u8 ((ruleM i).2.1.2.2.2 : Int))
  rel : ∀ i, i < 34 → w.cell? ⟨2, i * 6 + 5, none⟩ = some (.int .i64 ((ruleM i).2.2 : Int))
theorem cell_below {w w' : World} (hb : Below w.heap.size w w') {a : Addr} {v : Value} (h : w.cell? a = some v) : w'.cell? a = some v :=
  (hb.cell (World.block_lt_of_cell? _ _ h)).trans h
theorem OpTab.below {w w' : World} (h : OpTab w) (hb : Below w.heap.size w w') : OpTab w' :=
  ⟨fun i s e => cell_below hb (h.names i s e), fun i s e => cell_below hb (h.types i s e), fun i e => cell_below hb (h.res i e), fun i e => cell_below hb (h.op0 i e), fun i e => cell_below hb (h.op1 i e), fun i e => cell_below hb (h.op2 i e), fun i e => cell_below hb (h.op3 i e), fun i e => cell_below hb (h.rel i e)⟩

def nameM (op : Int) : List UInt8 := if 1 ≤ op ∧ op ≤ 33 then opNames.getD op.toNat [] else []
def tnameM (t : Int) : List UInt8 := if 0 ≤ t ∧ t ≤ 7 then tyNames.getD t.toNat [] else []
def isOp (op : Int) : Bool := decide (1 ≤ op ∧ op ≤ 33)

theorem isop_any (op : Int) (w : World) : Calls Tryd.prog 57 #[.int .i64 op] w fun e w' => e = .returned (.bool (isOp op)) ∧ w = w' := by
  by_cases h1 : 1 ≤ op
  · have g1 : decide ((1 : Int) ≤ op) = true := by simpa using h1
    go_enter Tryd.func57, Tryd.ntmps57
    go_wp2_with fail
    go_ret
    exact ⟨by simp [isOp, h1], rfl⟩
  · have g1 : decide ((1 : Int) ≤ op) = false := by simpa using h1
    go_enter Tryd.func57, Tryd.ntmps57
    go_wp2_with fail
    go_ret
    exact ⟨by simp [isOp]; omega, rfl⟩
theorem name_any (op : Int) (w : World) (hT : OpTab w) : Calls Tryd.prog 53 #[.int .i64 op] w fun e w' => e = .returned (.string ⟨(nameM op).toArray⟩) ∧ w = w' := by
  by_cases h : isOp op = true
  · have h' : 1 ≤ op ∧ op ≤ 33 := by simpa [isOp] using h
    obtain ⟨k, rfl⟩ : ∃ k : Nat, op = k := ⟨op.toNat, by omega⟩
    have hk : k < 34 := by omega
    have hc := hT.names k (opNames.getD k []) (by rw [List.getD_eq_getElem?_getD, List.getElem?_eq_getElem (by exact hk)]; rfl)
    have hn : nameM k = opNames.getD k [] := by simp [nameM, h']
    rw [hn]
    clear hn
    go_enter Tryd.func53, Tryd.ntmps53
    go_wp2_with fail
    refine (isop_any _ _).mono ?_
    rintro en wn ⟨rfl, rfl⟩
    go_wp2_with fail
    go_ret
    exact ⟨rfl, rfl⟩
  · have h0 : isOp op = false := by simpa using h
    have hn : nameM op = [] := by simp [nameM]; intro a b; simp [isOp] at h0; omega
    rw [hn]
    go_enter Tryd.func53, Tryd.ntmps53
    go_wp2_with fail
    refine (isop_any _ _).mono ?_
    rintro en wn ⟨rfl, rfl⟩
    rw [h0]
    go_wp2_with fail
    go_ret
    exact ⟨rfl, rfl⟩

theorem tname_any (t : Int) (w : World) (hT : OpTab w) : Calls Tryd.prog 54 #[.int .i64 t] w fun e w' => e = .returned (.string ⟨(tnameM t).toArray⟩) ∧ w = w' := by
  by_cases h0 : t < 0
  · have hn : tnameM t = [] := by simp [tnameM]; omega
    have g0 : decide (t < 0) = true := by simpa using h0
    rw [hn]; clear h0
    go_enter Tryd.func54, Tryd.ntmps54
    go_wp2_with fail
    go_ret
    exact ⟨rfl, rfl⟩
  have g0 : decide (t < 0) = false := by simpa using h0
  by_cases h7 : 7 < t
  · have hn : tnameM t = [] := by simp [tnameM]; omega
    have g7 : decide (7 < t) = true := by simpa using h7
    rw [hn]; clear h0 h7
    go_enter Tryd.func54, Tryd.ntmps54
    go_wp2_with fail
    go_ret
    exact ⟨rfl, rfl⟩
  have g7 : decide (7 < t) = false := by simpa using h7
  obtain ⟨k, rfl⟩ : ∃ k : Nat, t = k := ⟨t.toNat, by omega⟩
  have hk : k < 8 := by omega
  have hc := hT.types k (tyNames.getD k []) (by rw [List.getD_eq_getElem?_getD, List.getElem?_eq_getElem (by exact hk)]; rfl)
  have hn : tnameM k = tyNames.getD k [] := by unfold tnameM; rw [if_pos (by omega)]; rfl
  rw [hn]
  clear hn h0 h7
  go_enter Tryd.func54, Tryd.ntmps54
  go_wp2_with fail
  go_ret
  exact ⟨rfl, rfl⟩
def pureM (op : Int) : Bool := isOp op && !(decide (op = 3) || decide (op = 26) || decide (op = 28) || decide (op = 29) || decide (op = 30) || decide (op = 31))
def specM (op : Int) : Bool := pureM op && !decide (op = 14) && !decide (op = 15)
def commM (op : Int) : Bool := decide (op = 5) || decide (op = 7) || decide (op = 8) || decide (op = 9) || decide (op = 10) || decide (op = 16) || decide (op = 17)
theorem pure_any (op : Int) (w : World) : Calls Tryd.prog 66 #[.int .i64 op] w fun e w' => e = .returned (.bool (pureM op)) ∧ w = w' := by
  by_cases c3 : op = 3
  · subst c3
    go_enter Tryd.func66, Tryd.ntmps66
    go_wp2_with fail
    first
      | (go_ret; exact ⟨rfl, rfl⟩)
      | (refine (isop_any _ _).mono ?_; rintro en wn ⟨rfl, rfl⟩; go_wp2_with fail; go_ret; exact ⟨by unfold pureM; simp_all, rfl⟩)
  by_cases c26 : op = 26
  · subst c26
    go_enter Tryd.func66, Tryd.ntmps66
    go_wp2_with fail
    first
      | (go_ret; exact ⟨rfl, rfl⟩)
      | (refine (isop_any _ _).mono ?_; rintro en wn ⟨rfl, rfl⟩; go_wp2_with fail; go_ret; exact ⟨by unfold pureM; simp_all, rfl⟩)
  by_cases c28 : op = 28
  · subst c28
    go_enter Tryd.func66, Tryd.ntmps66
    go_wp2_with fail
    first
      | (go_ret; exact ⟨rfl, rfl⟩)
      | (refine (isop_any _ _).mono ?_; rintro en wn ⟨rfl, rfl⟩; go_wp2_with fail; go_ret; exact ⟨by unfold pureM; simp_all, rfl⟩)
  by_cases c29 : op = 29
  · subst c29
    go_enter Tryd.func66, Tryd.ntmps66
    go_wp2_with fail
    first
      | (go_ret; exact ⟨rfl, rfl⟩)
      | (refine (isop_any _ _).mono ?_; rintro en wn ⟨rfl, rfl⟩; go_wp2_with fail; go_ret; exact ⟨by unfold pureM; simp_all, rfl⟩)
  by_cases c30 : op = 30
  · subst c30
    go_enter Tryd.func66, Tryd.ntmps66
    go_wp2_with fail
    first
      | (go_ret; exact ⟨rfl, rfl⟩)
      | (refine (isop_any _ _).mono ?_; rintro en wn ⟨rfl, rfl⟩; go_wp2_with fail; go_ret; exact ⟨by unfold pureM; simp_all, rfl⟩)
  by_cases c31 : op = 31
  · subst c31
    go_enter Tryd.func66, Tryd.ntmps66
    go_wp2_with fail
    first
      | (go_ret; exact ⟨rfl, rfl⟩)
      | (refine (isop_any _ _).mono ?_; rintro en wn ⟨rfl, rfl⟩; go_wp2_with fail; go_ret; exact ⟨by unfold pureM; simp_all, rfl⟩)
  have d3 : (op == 3) = false := by simpa using c3
  have d26 : (op == 26) = false := by simpa using c26
  have d28 : (op == 28) = false := by simpa using c28
  have d29 : (op == 29) = false := by simpa using c29
  have d30 : (op == 30) = false := by simpa using c30
  have d31 : (op == 31) = false := by simpa using c31
  clear c3 c26 c28 c29 c30 c31
  go_enter Tryd.func66, Tryd.ntmps66
  go_wp2_with fail
  first
    | (go_ret; exact ⟨rfl, rfl⟩)
    | (refine (isop_any _ _).mono ?_; rintro en wn ⟨rfl, rfl⟩; go_wp2_with fail; go_ret; exact ⟨by unfold pureM; simp_all, rfl⟩)
theorem rpure_any (op : Int) (w : World) : Calls Tryd.prog 45 #[.int .i64 op] w fun e w' => e = .returned (.bool (pureM op)) ∧ w = w' := by
  by_cases c3 : op = 3
  · subst c3
    go_enter Tryd.func45, Tryd.ntmps45
    go_wp2_with fail
    go_ret
    exact ⟨by first | rfl | (unfold pureM; simp_all [isOp]; done) | (unfold pureM; simp_all [isOp]; omega), rfl⟩
  by_cases c26 : op = 26
  · subst c26
    go_enter Tryd.func45, Tryd.ntmps45
    go_wp2_with fail
    go_ret
    exact ⟨by first | rfl | (unfold pureM; simp_all [isOp]; done) | (unfold pureM; simp_all [isOp]; omega), rfl⟩
  by_cases c28 : op = 28
  · subst c28
    go_enter Tryd.func45, Tryd.ntmps45
    go_wp2_with fail
    go_ret
    exact ⟨by first | rfl | (unfold pureM; simp_all [isOp]; done) | (unfold pureM; simp_all [isOp]; omega), rfl⟩
  by_cases c29 : op = 29
  · subst c29
    go_enter Tryd.func45, Tryd.ntmps45
    go_wp2_with fail
    go_ret
    exact ⟨by first | rfl | (unfold pureM; simp_all [isOp]; done) | (unfold pureM; simp_all [isOp]; omega), rfl⟩
  by_cases c30 : op = 30
  · subst c30
    go_enter Tryd.func45, Tryd.ntmps45
    go_wp2_with fail
    go_ret
    exact ⟨by first | rfl | (unfold pureM; simp_all [isOp]; done) | (unfold pureM; simp_all [isOp]; omega), rfl⟩
  by_cases c31 : op = 31
  · subst c31
    go_enter Tryd.func45, Tryd.ntmps45
    go_wp2_with fail
    go_ret
    exact ⟨by first | rfl | (unfold pureM; simp_all [isOp]; done) | (unfold pureM; simp_all [isOp]; omega), rfl⟩
  by_cases c32 : op < 1
  · have e1 : decide ((1 : Int) ≤ op) = false := by simpa using c32
    go_enter Tryd.func45, Tryd.ntmps45
    go_wp2_with fail
    go_ret
    exact ⟨by first | rfl | (unfold pureM; simp_all [isOp]; done) | (unfold pureM; simp_all [isOp]; omega), rfl⟩
  have d3 : (op == 3) = false := by simpa using c3
  have d26 : (op == 26) = false := by simpa using c26
  have d28 : (op == 28) = false := by simpa using c28
  have d29 : (op == 29) = false := by simpa using c29
  have d30 : (op == 30) = false := by simpa using c30
  have d31 : (op == 31) = false := by simpa using c31
  have d32 : decide ((1 : Int) ≤ op) = true := by simpa using c32
  clear c3 c26 c28 c29 c30 c31 c32
  go_enter Tryd.func45, Tryd.ntmps45
  go_wp2_with fail
  go_ret
  exact ⟨by first | rfl | (unfold pureM; simp_all [isOp]; done) | (unfold pureM; simp_all [isOp]; omega), rfl⟩
theorem spec_any (op : Int) (w : World) : Calls Tryd.prog 42 #[.int .i64 op] w fun e w' => e = .returned (.bool (specM op)) ∧ w = w' := by
  cases hp : pureM op with
  | false =>
    go_enter Tryd.func42, Tryd.ntmps42
    go_wp2_with fail
    refine (pure_any _ _).mono ?_
    rintro en wn ⟨rfl, rfl⟩
    rw [hp]
    go_wp2_with fail
    go_ret
    exact ⟨by simp [specM, hp], rfl⟩
  | true =>
    go_enter Tryd.func42, Tryd.ntmps42
    go_wp2_with fail
    refine (pure_any _ _).mono ?_
    rintro en wn ⟨rfl, rfl⟩
    rw [hp]
    go_wp2_with fail
    all_goals
      go_ret
      exact ⟨by by_cases c14 : op = 14 <;> by_cases c15 : op = 15 <;> simp_all [specM, bne], rfl⟩
theorem rspec_any (op : Int) (w : World) : Calls Tryd.prog 29 #[.int .i64 op] w fun e w' => e = .returned (.bool (specM op)) ∧ w = w' := by
  cases hp : pureM op with
  | false =>
    go_enter Tryd.func29, Tryd.ntmps29
    go_wp2_with fail
    refine (rpure_any _ _).mono ?_
    rintro en wn ⟨rfl, rfl⟩
    rw [hp]
    go_wp2_with fail
    go_ret
    exact ⟨by simp [specM, hp], rfl⟩
  | true =>
    go_enter Tryd.func29, Tryd.ntmps29
    go_wp2_with fail
    refine (rpure_any _ _).mono ?_
    rintro en wn ⟨rfl, rfl⟩
    rw [hp]
    go_wp2_with fail
    all_goals
      go_ret
      exact ⟨by by_cases c14 : op = 14 <;> by_cases c15 : op = 15 <;> simp_all [specM, bne], rfl⟩
theorem acc_any (t : Int) (w : World) : Calls Tryd.prog 90 #[.int .i64 t] w fun e w' => e = .returned (.tuple #[.int .i64 (accT t), .int .i64 (accN t)]) ∧ w = w' := by
  by_cases c2 : t = 2
  · subst c2
    go_enter Tryd.func90, Tryd.ntmps90
    go_wp2_with fail
    refine bodyPost_ret (v := .tuple #[.int .i64 (accT 2), .int .i64 (accN 2)]) ?_ rfl ⟨rfl, rfl⟩
    first | (simp [results, Tryd.f90, go_sem]; done) | (simp [results, Tryd.f90, go_sem]; unfold accT accN; simp_all)
  by_cases c3 : t = 3
  · subst c3
    go_enter Tryd.func90, Tryd.ntmps90
    go_wp2_with fail
    refine bodyPost_ret (v := .tuple #[.int .i64 (accT 3), .int .i64 (accN 3)]) ?_ rfl ⟨rfl, rfl⟩
    first | (simp [results, Tryd.f90, go_sem]; done) | (simp [results, Tryd.f90, go_sem]; unfold accT accN; simp_all)
  by_cases c4 : t = 4
  · subst c4
    go_enter Tryd.func90, Tryd.ntmps90
    go_wp2_with fail
    refine bodyPost_ret (v := .tuple #[.int .i64 (accT 4), .int .i64 (accN 4)]) ?_ rfl ⟨rfl, rfl⟩
    first | (simp [results, Tryd.f90, go_sem]; done) | (simp [results, Tryd.f90, go_sem]; unfold accT accN; simp_all)
  by_cases c5 : t = 5
  · subst c5
    go_enter Tryd.func90, Tryd.ntmps90
    go_wp2_with fail
    refine bodyPost_ret (v := .tuple #[.int .i64 (accT 5), .int .i64 (accN 5)]) ?_ rfl ⟨rfl, rfl⟩
    first | (simp [results, Tryd.f90, go_sem]; done) | (simp [results, Tryd.f90, go_sem]; unfold accT accN; simp_all)
  by_cases c6 : t = 6
  · subst c6
    go_enter Tryd.func90, Tryd.ntmps90
    go_wp2_with fail
    refine bodyPost_ret (v := .tuple #[.int .i64 (accT 6), .int .i64 (accN 6)]) ?_ rfl ⟨rfl, rfl⟩
    first | (simp [results, Tryd.f90, go_sem]; done) | (simp [results, Tryd.f90, go_sem]; unfold accT accN; simp_all)
  by_cases c7 : t = 7
  · subst c7
    go_enter Tryd.func90, Tryd.ntmps90
    go_wp2_with fail
    refine bodyPost_ret (v := .tuple #[.int .i64 (accT 7), .int .i64 (accN 7)]) ?_ rfl ⟨rfl, rfl⟩
    first | (simp [results, Tryd.f90, go_sem]; done) | (simp [results, Tryd.f90, go_sem]; unfold accT accN; simp_all)
  have d2 : (t == 2) = false := by simpa using c2
  have d3 : (t == 3) = false := by simpa using c3
  have d4 : (t == 4) = false := by simpa using c4
  have d5 : (t == 5) = false := by simpa using c5
  have d6 : (t == 6) = false := by simpa using c6
  have d7 : (t == 7) = false := by simpa using c7
  clear c2 c3 c4 c5 c6 c7
  go_enter Tryd.func90, Tryd.ntmps90
  go_wp2_with fail
  refine bodyPost_ret (v := .tuple #[.int .i64 (accT t), .int .i64 (accN t)]) ?_ rfl ⟨rfl, rfl⟩
  first | (simp [results, Tryd.f90, go_sem]; done) | (simp [results, Tryd.f90, go_sem]; unfold accT accN; simp_all)
theorem racc_any (t : Int) (w : World) : Calls Tryd.prog 70 #[.int .i64 t] w fun e w' => e = .returned (.tuple #[.int .i64 (accT t), .int .i64 (accN t)]) ∧ w = w' := by
  by_cases c2 : t = 2
  · subst c2
    go_enter Tryd.func70, Tryd.ntmps70
    go_wp2_with fail
    refine bodyPost_ret (v := .tuple #[.int .i64 (accT 2), .int .i64 (accN 2)]) ?_ rfl ⟨rfl, rfl⟩
    first | (simp [results, Tryd.f70, go_sem]; done) | (simp [results, Tryd.f70, go_sem]; unfold accT accN; simp_all)
  by_cases c3 : t = 3
  · subst c3
    go_enter Tryd.func70, Tryd.ntmps70
    go_wp2_with fail
    refine bodyPost_ret (v := .tuple #[.int .i64 (accT 3), .int .i64 (accN 3)]) ?_ rfl ⟨rfl, rfl⟩
    first | (simp [results, Tryd.f70, go_sem]; done) | (simp [results, Tryd.f70, go_sem]; unfold accT accN; simp_all)
  by_cases c4 : t = 4
  · subst c4
    go_enter Tryd.func70, Tryd.ntmps70
    go_wp2_with fail
    refine bodyPost_ret (v := .tuple #[.int .i64 (accT 4), .int .i64 (accN 4)]) ?_ rfl ⟨rfl, rfl⟩
    first | (simp [results, Tryd.f70, go_sem]; done) | (simp [results, Tryd.f70, go_sem]; unfold accT accN; simp_all)
  by_cases c5 : t = 5
  · subst c5
    go_enter Tryd.func70, Tryd.ntmps70
    go_wp2_with fail
    refine bodyPost_ret (v := .tuple #[.int .i64 (accT 5), .int .i64 (accN 5)]) ?_ rfl ⟨rfl, rfl⟩
    first | (simp [results, Tryd.f70, go_sem]; done) | (simp [results, Tryd.f70, go_sem]; unfold accT accN; simp_all)
  by_cases c6 : t = 6
  · subst c6
    go_enter Tryd.func70, Tryd.ntmps70
    go_wp2_with fail
    refine bodyPost_ret (v := .tuple #[.int .i64 (accT 6), .int .i64 (accN 6)]) ?_ rfl ⟨rfl, rfl⟩
    first | (simp [results, Tryd.f70, go_sem]; done) | (simp [results, Tryd.f70, go_sem]; unfold accT accN; simp_all)
  by_cases c7 : t = 7
  · subst c7
    go_enter Tryd.func70, Tryd.ntmps70
    go_wp2_with fail
    refine bodyPost_ret (v := .tuple #[.int .i64 (accT 7), .int .i64 (accN 7)]) ?_ rfl ⟨rfl, rfl⟩
    first | (simp [results, Tryd.f70, go_sem]; done) | (simp [results, Tryd.f70, go_sem]; unfold accT accN; simp_all)
  have d2 : (t == 2) = false := by simpa using c2
  have d3 : (t == 3) = false := by simpa using c3
  have d4 : (t == 4) = false := by simpa using c4
  have d5 : (t == 5) = false := by simpa using c5
  have d6 : (t == 6) = false := by simpa using c6
  have d7 : (t == 7) = false := by simpa using c7
  clear c2 c3 c4 c5 c6 c7
  go_enter Tryd.func70, Tryd.ntmps70
  go_wp2_with fail
  refine bodyPost_ret (v := .tuple #[.int .i64 (accT t), .int .i64 (accN t)]) ?_ rfl ⟨rfl, rfl⟩
  first | (simp [results, Tryd.f70, go_sem]; done) | (simp [results, Tryd.f70, go_sem]; unfold accT accN; simp_all)

theorem rops_any (w : World) : Calls Tryd.prog 55 #[] w fun e w' => ∃ b, e = .returned (.slice (some ⟨b, 0, none⟩) 34 34) ∧ Below w.heap.size w w' ∧ ∀ i s, opNames[i]? = some s → w'.cell? ⟨b, i, none⟩ = some (.string ⟨s.toArray⟩) := by
  go_enter Tryd.func55, Tryd.ntmps55
  go_wp2_with fail
  go_ret
  refine ⟨_, rfl, (Below.refl _ _).alloc (Nat.le_refl _) _, fun i s hi => ?_⟩
  refine ((Whole.new w _ _).cell i).trans ?_
  show ((opNames.map fun s => Value.string ⟨s.toArray⟩).toArray)[i]? = _
  simp [hi]

theorem rtypes_any (w : World) : Calls Tryd.prog 56 #[] w fun e w' => ∃ b, e = .returned (.slice (some ⟨b, 0, none⟩) 8 8) ∧ Below w.heap.size w w' ∧ ∀ i s, tyNames[i]? = some s → w'.cell? ⟨b, i, none⟩ = some (.string ⟨s.toArray⟩) := by
  go_enter Tryd.func56, Tryd.ntmps56
  go_wp2_with fail
  go_ret
  refine ⟨_, rfl, (Below.refl _ _).alloc (Nat.le_refl _) _, fun i s hi => ?_⟩
  refine ((Whole.new w _ _).cell i).trans ?_
  show ((tyNames.map fun s => Value.string ⟨s.toArray⟩).toArray)[i]? = _
  simp [hi]
end Go.Proofs.YtnhaanjpcnnifaaDoor

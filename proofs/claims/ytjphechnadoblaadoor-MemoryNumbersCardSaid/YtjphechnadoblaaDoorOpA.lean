/-
  Layer 12 (opcode): the tables as facts of a world; the small functions.
-/
import Derived.Deep.Cut
import Derived.Test.YtjphechnadoblaaDoorOps
import Derived.Test.YtjphechnadoblaaDoorOpM
import Derived.Test.YtjphechnadoblaaDoorBlock
namespace Go.Proofs.YtjphechnadoblaaDoor
open Go.RowKit

def opNames : List (List UInt8) := [[], [99, 111, 110, 115, 116], [112, 111, 105, 115, 111, 110], [102, 114, 101, 101, 122, 101], [99, 111, 112, 121], [97, 100, 100], [115, 117, 98], [109, 117, 108], [97, 110, 100], [111, 114], [120, 111, 114], [115, 104, 108], [108, 115, 104, 114], [97, 115, 104, 114], [115, 100, 105, 118], [115, 114, 101, 109], [101, 113], [110, 101], [115, 108, 116], [115, 108, 101], [117, 108, 116], [115, 101, 108, 101, 99, 116], [115, 101, 120, 116], [122, 101, 120, 116], [116, 114, 117, 110, 99], [103, 108, 111, 98, 97, 108], [97, 108, 108, 111, 99, 97], [111, 102, 102, 115, 101, 116], [108, 111, 97, 100], [115, 116, 111, 114, 101], [99, 97, 108, 108], [111, 117, 116, 112, 117, 116], [112, 97, 99, 107], [108, 97, 110, 101]]
def tyNames : List (List UInt8) := [[118, 111, 105, 100], [98, 111, 111, 108], [105, 56], [105, 51, 50], [105, 54, 52], [112, 116, 114], [118, 50], [118, 52]]
/-- The tables of the layer, as a world holds them. -/
structure OpTab (w : World) : Prop where
  types : ∀ i s, tyNames[i]? = some s → w.cell? ⟨0, i, none⟩ = some (.string ⟨s.toArray⟩)
  res : ∀ i, i < 34 → w.cell? ⟨2, i * 6, none⟩ = some (.int .u8 ((ruleM i).1 : Int))
  op0 : ∀ i, i < 34 → w.cell? ⟨2, i * 6 + 1, none⟩ = some (.int .u8 ((ruleM i).2.1.1 : Int))
  op1 : ∀ i, i < 34 → w.cell? ⟨2, i * 6 + 2, none⟩ = some (.int .u8 ((ruleM i).2.1.2.1 : Int))
  op2 : ∀ i, i < 34 → w.cell? ⟨2, i * 6 + 3, none⟩ = some (.int .u8 ((ruleM i).2.1.2.2.1 : Int))
  op3 : ∀ i, i < 34 → w.cell? ⟨2, i * 6 + 4, none⟩ = some (.int .u8 ((ruleM i).2.1.2.2.2 : Int))
  rel : ∀ i, i < 34 → w.cell? ⟨2, i * 6 + 5, none⟩ = some (.int .i64 ((ruleM i).2.2 : Int))
theorem cell_below {w w' : World} (hb : Below w.heap.size w w') {a : Addr} {v : Value} (h : w.cell? a = some v) : w'.cell? a = some v :=
  (hb.cell (World.block_lt_of_cell? _ _ h)).trans h
theorem OpTab.below {w w' : World} (h : OpTab w) (hb : Below w.heap.size w w') : OpTab w' :=
  ⟨fun i s e => cell_below hb (h.types i s e), fun i e => cell_below hb (h.res i e), fun i e => cell_below hb (h.op0 i e), fun i e => cell_below hb (h.op1 i e), fun i e => cell_below hb (h.op2 i e), fun i e => cell_below hb (h.op3 i e), fun i e => cell_below hb (h.rel i e)⟩

def nameM (op : Int) : List UInt8 := if 1 ≤ op ∧ op ≤ 33 then opNames.getD op.toNat [] else []
def tnameM (t : Int) : List UInt8 := if 0 ≤ t ∧ t ≤ 7 then tyNames.getD t.toNat [] else []
def isOp (op : Int) : Bool := decide (1 ≤ op ∧ op ≤ 33)

theorem isop_any (op : Int) (w : World) : Calls Tryd.prog 115 #[.int .i64 op] w fun e w' => e = .returned (.bool (isOp op)) ∧ w = w' := by
  by_cases h1 : 1 ≤ op
  · have g1 : decide ((1 : Int) ≤ op) = true := by simpa using h1
    go_enter Tryd.func115, Tryd.ntmps115
    go_wp2_with fail
    go_ret
    exact ⟨by simp [isOp, h1], rfl⟩
  · have g1 : decide ((1 : Int) ≤ op) = false := by simpa using h1
    go_enter Tryd.func115, Tryd.ntmps115
    go_wp2_with fail
    go_ret
    exact ⟨by simp [isOp]; omega, rfl⟩
theorem tname_any (t : Int) (w : World) (hT : OpTab w) : Calls Tryd.prog 96 #[.int .i64 t] w fun e w' => e = .returned (.string ⟨(tnameM t).toArray⟩) ∧ w = w' := by
  by_cases h0 : t < 0
  · have hn : tnameM t = [] := by simp [tnameM]; omega
    have g0 : decide (t < 0) = true := by simpa using h0
    rw [hn]; clear h0
    go_enter Tryd.func96, Tryd.ntmps96
    go_wp2_with fail
    go_ret
    exact ⟨rfl, rfl⟩
  have g0 : decide (t < 0) = false := by simpa using h0
  by_cases h7 : 7 < t
  · have hn : tnameM t = [] := by simp [tnameM]; omega
    have g7 : decide (7 < t) = true := by simpa using h7
    rw [hn]; clear h0 h7
    go_enter Tryd.func96, Tryd.ntmps96
    go_wp2_with fail
    go_ret
    exact ⟨rfl, rfl⟩
  have g7 : decide (7 < t) = false := by simpa using h7
  obtain ⟨k, rfl⟩ : ∃ k : Nat, t = k := ⟨t.toNat, by omega⟩
  have hk : k < 8 := by omega
  have hc := hT.types k (tyNames.getD k []) (by rw [List.getD_eq_getElem?_getD, List.getElem?_eq_getElem (by exact hk)]; rfl)
  have hn : tnameM k = tyNames.getD k [] := by unfold tnameM; rw [if_pos (by omega)]; rfl
  rw [hn]
  clear hn h0 h7
  go_enter Tryd.func96, Tryd.ntmps96
  go_wp2_with fail
  go_ret
  exact ⟨rfl, rfl⟩
def pureM (op : Int) : Bool := isOp op && !(decide (op = 3) || decide (op = 26) || decide (op = 28) || decide (op = 29) || decide (op = 30) || decide (op = 31))
def specM (op : Int) : Bool := pureM op && !decide (op = 14) && !decide (op = 15)
def commM (op : Int) : Bool := decide (op = 5) || decide (op = 7) || decide (op = 8) || decide (op = 9) || decide (op = 10) || decide (op = 16) || decide (op = 17)
theorem acc_any (t : Int) (w : World) : Calls Tryd.prog 36 #[.int .i64 t] w fun e w' => e = .returned (.tuple #[.int .i64 (accT t), .int .i64 (accN t)]) ∧ w = w' := by
  by_cases c2 : t = 2
  · subst c2
    go_enter Tryd.func36, Tryd.ntmps36
    go_wp2_with fail
    refine bodyPost_ret (v := .tuple #[.int .i64 (accT 2), .int .i64 (accN 2)]) ?_ rfl ⟨rfl, rfl⟩
    first | (simp [results, Tryd.f36, go_sem]; done) | (simp [results, Tryd.f36, go_sem]; unfold accT accN; simp_all)
  by_cases c3 : t = 3
  · subst c3
    go_enter Tryd.func36, Tryd.ntmps36
    go_wp2_with fail
    refine bodyPost_ret (v := .tuple #[.int .i64 (accT 3), .int .i64 (accN 3)]) ?_ rfl ⟨rfl, rfl⟩
    first | (simp [results, Tryd.f36, go_sem]; done) | (simp [results, Tryd.f36, go_sem]; unfold accT accN; simp_all)
  by_cases c4 : t = 4
  · subst c4
    go_enter Tryd.func36, Tryd.ntmps36
    go_wp2_with fail
    refine bodyPost_ret (v := .tuple #[.int .i64 (accT 4), .int .i64 (accN 4)]) ?_ rfl ⟨rfl, rfl⟩
    first | (simp [results, Tryd.f36, go_sem]; done) | (simp [results, Tryd.f36, go_sem]; unfold accT accN; simp_all)
  by_cases c5 : t = 5
  · subst c5
    go_enter Tryd.func36, Tryd.ntmps36
    go_wp2_with fail
    refine bodyPost_ret (v := .tuple #[.int .i64 (accT 5), .int .i64 (accN 5)]) ?_ rfl ⟨rfl, rfl⟩
    first | (simp [results, Tryd.f36, go_sem]; done) | (simp [results, Tryd.f36, go_sem]; unfold accT accN; simp_all)
  by_cases c6 : t = 6
  · subst c6
    go_enter Tryd.func36, Tryd.ntmps36
    go_wp2_with fail
    refine bodyPost_ret (v := .tuple #[.int .i64 (accT 6), .int .i64 (accN 6)]) ?_ rfl ⟨rfl, rfl⟩
    first | (simp [results, Tryd.f36, go_sem]; done) | (simp [results, Tryd.f36, go_sem]; unfold accT accN; simp_all)
  by_cases c7 : t = 7
  · subst c7
    go_enter Tryd.func36, Tryd.ntmps36
    go_wp2_with fail
    refine bodyPost_ret (v := .tuple #[.int .i64 (accT 7), .int .i64 (accN 7)]) ?_ rfl ⟨rfl, rfl⟩
    first | (simp [results, Tryd.f36, go_sem]; done) | (simp [results, Tryd.f36, go_sem]; unfold accT accN; simp_all)
  have d2 : (t == 2) = false := by simpa using c2
  have d3 : (t == 3) = false := by simpa using c3
  have d4 : (t == 4) = false := by simpa using c4
  have d5 : (t == 5) = false := by simpa using c5
  have d6 : (t == 6) = false := by simpa using c6
  have d7 : (t == 7) = false := by simpa using c7
  clear c2 c3 c4 c5 c6 c7
  go_enter Tryd.func36, Tryd.ntmps36
  go_wp2_with fail
  refine bodyPost_ret (v := .tuple #[.int .i64 (accT t), .int .i64 (accN t)]) ?_ rfl ⟨rfl, rfl⟩
  first | (simp [results, Tryd.f36, go_sem]; done) | (simp [results, Tryd.f36, go_sem]; unfold accT accN; simp_all)
end Go.Proofs.YtjphechnadoblaaDoor

/-
  Layer 11 (value): the small parts of Eval: isWord, blend of two numbers, compute of sums.
-/
import Derived.Test.YtjeinmccahbpgaaDoorMake
namespace Go.Proofs.YtjeinmccahbpgaaDoor
open Go.RowKit

set_option maxRecDepth 100000 in
theorem isword_any (t : Int) (w : World) : Calls Tryd.prog 88 #[.int .i64 t] w fun e w' => e = .returned (.bool (decide (t = 2) || decide (t = 3) || decide (t = 4))) ∧ w' = w := by
  go_enter Tryd.func88, Tryd.ntmps88
  go_wp2
  all_goals (go_ret; refine ⟨ret_bool ?_, rfl⟩; rw [Bool.eq_iff_iff]; simp; try omega)

theorem cells3 {w : World} {g : Nat} {T : TypeId} {a b c : Value} (h : Whole w g T #[a, b, c]) :
    w.cell? ⟨g, 0, none⟩ = some a ∧ w.cell? ⟨g, 1, none⟩ = some b ∧ w.cell? ⟨g, 2, none⟩ = some c ∧
    w.frozen? ⟨g, 0, none⟩ = false ∧ w.frozen? ⟨g, 1, none⟩ = false ∧ w.frozen? ⟨g, 2, none⟩ = false :=
  ⟨h.cell 0, h.cell 1, h.cell 2, h.free 0, h.free 1, h.free 2⟩
set_option maxRecDepth 100000 in
set_option maxHeartbeats 1000000 in
theorem blend_num (x y : Int) (w : World) (g : Nat) (hW : Whole w g 24 #[.int .i64 x, .bool false, .bool false, .int .i64 y, .bool false, .bool false]) : Calls Tryd.prog 108 #[.slice (some ⟨g, 0, none⟩) 2 2] w fun e w' =>
    e = .returned (.agg #[.int .i64 0, .bool false, .bool false]) ∧ Below w.heap.size w w' := by
  have HWW := hide hW
  clear hW
  obtain ⟨q, hq⟩ : ∃ q, w.heap.size = q := ⟨_, rfl⟩
  go_enter Tryd.func108, Tryd.ntmps108
  go_wp2_with fail
  have hW := HWW.out
  have hgq : g < q := hq ▸ hW.lt
  obtain ⟨w0, hw0⟩ : ∃ z, w.alloc (.cells #[.int .i64 0, .bool false, .bool false] 24) = z := ⟨_, rfl⟩
  obtain ⟨w1, hw1⟩ : ∃ z, w0.alloc (.cells #[.int .i64 0, .bool false, .bool false] 24) = z := ⟨_, rfl⟩
  obtain ⟨w2, hw2⟩ : ∃ z, w1.alloc (.cells #[.int .i64 x, .bool false, .bool false] 24) = z := ⟨_, rfl⟩
  obtain ⟨w3, hw3⟩ : ∃ z, w2.setCell ⟨q + 1, 2, none⟩ (.bool false) = z := ⟨_, rfl⟩
  obtain ⟨w4, hw4⟩ : ∃ z, w3.alloc (.cells #[.int .i64 y, .bool false, .bool false] 24) = z := ⟨_, rfl⟩
  obtain ⟨w5, hw5⟩ : ∃ z, w4.setCell ⟨q + 1, 2, none⟩ (.bool false) = z := ⟨_, rfl⟩
  have s0 : w0.heap.size = q + 1 := by rw [← hw0, World.size_alloc, hq]
  have s1 : w1.heap.size = q + 1 + 1 := by rw [← hw1, World.size_alloc, s0]
  have s2 : w2.heap.size = q + 1 + 1 + 1 := by rw [← hw2, World.size_alloc, s1]
  have s3 : w3.heap.size = q + 1 + 1 + 1 := by rw [← hw3]; simpa [World.setCell] using s2
  have R0 : Whole w0 q 24 #[.int .i64 0, .bool false, .bool false] := by rw [← hw0, ← hq]; exact Whole.new w _ _
  have B1 : Whole w1 (q + 1) 24 #[.int .i64 0, .bool false, .bool false] := by rw [← hw1, ← s0]; exact Whole.new w0 _ _
  have O2 : Whole w2 w1.heap.size 24 #[.int .i64 x, .bool false, .bool false] := by rw [← hw2]; exact Whole.new w1 _ _
  have B2 : Whole w2 (q + 1) 24 #[.int .i64 0, .bool false, .bool false] := by rw [← hw2]; exact B1.alloc _
  have B3 : Whole w3 (q + 1) 24 #[.int .i64 0, .bool false, .bool false] := by rw [← hw3]; exact B2.set 2 _
  have B4 : Whole w4 (q + 1) 24 #[.int .i64 0, .bool false, .bool false] := by rw [← hw4]; exact B3.alloc _
  have B5 : Whole w5 (q + 1) 24 #[.int .i64 0, .bool false, .bool false] := by rw [← hw5]; exact B4.set 2 _
  have O4 : Whole w4 w3.heap.size 24 #[.int .i64 y, .bool false, .bool false] := by rw [← hw4]; exact Whole.new w3 _ _
  have R5 : Whole w5 q 24 #[.int .i64 0, .bool false, .bool false] := by
    rw [← hw5, ← hw4, ← hw3, ← hw2, ← hw1]
    exact ((((R0.alloc _).alloc _).far (p := ⟨q + 1, 2, none⟩) (by show q ≠ q + 1; omega) _).alloc _).far (p := ⟨q + 1, 2, none⟩) (by show q ≠ q + 1; omega) _
  have A1 : Whole w1 g 24 #[.int .i64 x, .bool false, .bool false, .int .i64 y, .bool false, .bool false] := by rw [← hw1, ← hw0]; exact (hW.alloc _).alloc _
  have A3 : Whole w3 g 24 #[.int .i64 x, .bool false, .bool false, .int .i64 y, .bool false, .bool false] := by
    rw [← hw3, ← hw2]; exact (A1.alloc _).far (p := ⟨q + 1, 2, none⟩) (by show g ≠ q + 1; omega) _
  have HB5 : Hid (Below q w w5) := by
    show Below _ _ _
    rw [← hw5, ← hw4, ← hw3, ← hw2, ← hw1, ← hw0]
    have h0 := ((Below.refl q w).alloc (Nat.le_of_eq hq.symm) (.cells #[.int .i64 0, .bool false, .bool false] 24))
    rw [hw0] at h0 ⊢
    have h1 := h0.alloc (by omega) (.cells #[.int .i64 0, .bool false, .bool false] 24)
    rw [hw1] at h1 ⊢
    have h2 := h1.alloc (by omega) (.cells #[.int .i64 x, .bool false, .bool false] 24)
    rw [hw2] at h2 ⊢
    have h3 := h2.setCell (p := ⟨q + 1, 2, none⟩) (by show q ≤ q + 1; omega) (.bool false)
    rw [hw3] at h3 ⊢
    exact (h3.alloc (by omega) _).setCell (p := ⟨q + 1, 2, none⟩) (by show q ≤ q + 1; omega) _
  have a0 : w1.cell? ⟨g, 0, none⟩ = some (.int .i64 x) := A1.cell 0
  have a1 : w1.cell? ⟨g, 1, none⟩ = some (.bool false) := A1.cell 1
  have a2 : w1.cell? ⟨g, 2, none⟩ = some (.bool false) := A1.cell 2
  have a3 : w3.cell? ⟨g, 3, none⟩ = some (.int .i64 y) := A3.cell 3
  have a4 : w3.cell? ⟨g, 4, none⟩ = some (.bool false) := A3.cell 4
  have a5 : w3.cell? ⟨g, 5, none⟩ = some (.bool false) := A3.cell 5
  obtain ⟨b20, b21, b22, f20, f21, f22⟩ := cells3 B2
  obtain ⟨b40, b41, b42, f40, f41, f42⟩ := cells3 B4
  obtain ⟨b50, b51, b52, f50, f51, f52⟩ := cells3 B5
  obtain ⟨o20, o21, o22, j20, j21, j22⟩ := cells3 O2
  obtain ⟨o40, o41, o42, j40, j41, j42⟩ := cells3 O4
  have e21 : w2.setCell ⟨w1.heap.size, 1, none⟩ (.bool false) = w2 := by rw [← hw2]; simp [go_sem]
  have e22 : w2.setCell ⟨w1.heap.size, 2, none⟩ (.bool false) = w2 := by rw [← hw2]; simp [go_sem]
  have e41 : w4.setCell ⟨w3.heap.size, 1, none⟩ (.bool false) = w4 := by rw [← hw4]; simp [go_sem]
  have e42 : w4.setCell ⟨w3.heap.size, 2, none⟩ (.bool false) = w4 := by rw [← hw4]; simp [go_sem]
  obtain ⟨r0, r1, r2, k0, k1, k2⟩ := cells3 R5
  rw [hw0, hw1]
  have HQ := hide hq
  clear R0 B1 O2 B2 B3 B4 B5 O4 R5 A1 A3 hW hgq hw0 hw1 hq s0 s1 s2 s3
  refine wp_loop_rounds 3 ?_
  rw [rounds_succ]
  go_wp2_with fail
  rw [rounds_succ]
  go_wp2_with fail
  rw [rounds_succ]
  go_wp2_with fail
  refine bodyPost_ret (v := .agg #[.int .i64 0, .bool false, .bool false]) ?_ rfl ⟨rfl, by rw [HQ.out]; exact ((HB5.out.setCell (p := ⟨q, 0, none⟩) (Nat.le_refl _) _).setCell (p := ⟨q, 1, none⟩) (Nat.le_refl _) _).setCell (p := ⟨q, 2, none⟩) (Nat.le_refl _) _⟩
  simp [results, Tryd.f108, go_sem, r0, r1, r2]
/-- A lane is stored: one step of a region that draws its order. -/
theorem step_store_lane {ops : Array Oper} {o : Oper} {a : Act} {w : World} {K : Act → World → Prop} {Q : Exit → Act → World → Prop} {E0 : Prop} (hgd : o.guard = none) (hdst : o.dst = none) (p x : Operand)
    (ho : o.op = .store 24 p x) (q : Nat) (vn : Int) (vp vu : Bool) (u0 u1 u2 : Value) (hp : a.eval p = .pointer (some ⟨q, 0, none⟩)) (hx : a.eval x = .agg #[.int .i64 vn, .bool vp, .bool vu])
    (hW : Whole w q 24 #[u0, u1, u2])
    (hK : ∀ w', w' = ((w.setCell ⟨q, 0, none⟩ (.int .i64 vn)).setCell ⟨q, 1, none⟩ (.bool vp)).setCell ⟨q, 2, none⟩ (.bool vu) → K a w') :
    if Region.wanted o (yielded ops a.tmps) = true then Oper.wp Tryd.prog o a w K Q else E0 := by
  have hw : Region.wanted o (yielded ops a.tmps) = true := by simp [Region.wanted, hgd]
  rw [if_pos hw]
  obtain ⟨c0, c1, c2, f0, f1, f2⟩ := cells3 hW
  have hK' := hK _ rfl
  unfold Oper.wp execOp
  simp only [ho, hp, hx]
  simp [go_sem, c0, c1, c2, f0, f1, f2]
  simpa [Oper.upon, hdst] using hK'
theorem far3 {w wz : World} {q g : Nat} {T : TypeId} {cs : Array Value} {a b c : Value} (hz : wz = ((w.setCell ⟨q, 0, none⟩ a).setCell ⟨q, 1, none⟩ b).setCell ⟨q, 2, none⟩ c) (h : Whole w g T cs) (hg : g ≠ q) : Whole wz g T cs := by
  rw [hz]
  exact ((h.far (p := ⟨q, 0, none⟩) hg _).far (p := ⟨q, 1, none⟩) hg _).far (p := ⟨q, 2, none⟩) hg _
theorem put3 {w wz : World} {q : Nat} {T : TypeId} {x y z a b c : Value} (hz : wz = ((w.setCell ⟨q, 0, none⟩ a).setCell ⟨q, 1, none⟩ b).setCell ⟨q, 2, none⟩ c) (h : Whole w q T #[x, y, z]) : Whole wz q T #[a, b, c] := by
  rw [hz]
  exact ((h.set 0 a).set 1 b).set 2 c
theorem below3 {w0 w wz : World} {B q : Nat} {a b c : Value} (hz : wz = ((w.setCell ⟨q, 0, none⟩ a).setCell ⟨q, 1, none⟩ b).setCell ⟨q, 2, none⟩ c) (h : Below B w0 w) (hq : B ≤ q) : Below B w0 wz := by
  rw [hz]
  exact ((h.setCell (p := ⟨q, 0, none⟩) hq _).setCell (p := ⟨q, 1, none⟩) hq _).setCell (p := ⟨q, 2, none⟩) hq _
end Go.Proofs.YtjeinmccahbpgaaDoor

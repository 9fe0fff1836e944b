/-
  Layer 12 (opcode): count, result and operand of the reference, for a call.
-/
import Derived.Test.YtnhaanjpcnnifaaDoorRfAll
namespace Go.Proofs.YtnhaanjpcnnifaaDoor
open Go.RowKit

/-- What a function's other cells are. -/
def Shp (d : FD) : Prop := (∃ nm : ByteArray, d.u0 = .string nm) ∧ (∃ B m k, d.u4 = .slice B m k)
/-- Operand j of a call. -/
def opC (cl : List Int) (p a : Int) : Bool := decide (0 ≤ p) && decide (p < cl.length) && (a == cl.getD p.toNat 0)
set_option maxRecDepth 100000 in
theorem rcount_call (ty dst imm el : Int) (A GA : Option Addr) (n c gn gc fb fo fn fc s : Nat) (d : FD) (hs : s < fn) (nw : Bool) (w : World) (hF : FnAt w fb (fo + s * 5) d) : Calls Tryd.prog 67 #[.agg #[.int .i64 30, .int .i64 ty, .int .i64 dst, .slice A n c, .int .i64 imm, .int .i64 (s : Int), .int .i64 el, .bool nw], .agg #[.slice GA gn gc, .slice (some ⟨fb, fo, none⟩) fn fc]] w fun e w' => e = .returned (.tuple #[.int .i64 (d.pl.length : Int), .bool true]) ∧ Below w.heap.size w w' := by
  obtain ⟨w1, hw1⟩ : ∃ z, (w.alloc (.cells #[.int .i64 30, .int .i64 ty, .int .i64 dst, .slice A n c, .int .i64 imm, .int .i64 (s : Int), .int .i64 el, .bool nw] 78)).alloc (.cells #[.slice GA gn gc, .slice (some ⟨fb, fo, none⟩) fn fc] 32) = z := ⟨_, rfl⟩
  have hb : Below w.heap.size w w1 := by rw [← hw1]; exact ((Below.refl _ _).alloc (Nat.le_refl _) _).alloc (by simp [go_sem]) _
  have HI : Hid (Whole w1 w.heap.size 78 #[.int .i64 30, .int .i64 ty, .int .i64 dst, .slice A n c, .int .i64 imm, .int .i64 (s : Int), .int .i64 el, .bool nw]) := by show Whole _ _ _ _; rw [← hw1]; exact (Whole.new w _ _).alloc _
  have HM : Hid (Whole w1 (w.heap.size + 1) 32 #[.slice GA gn gc, .slice (some ⟨fb, fo, none⟩) fn fc]) := by show Whole _ _ _ _; rw [← hw1]; have h0 := Whole.new (w.alloc (.cells #[.int .i64 30, .int .i64 ty, .int .i64 dst, .slice A n c, .int .i64 imm, .int .i64 (s : Int), .int .i64 el, .bool nw] 78)) 32 #[.slice GA gn gc, .slice (some ⟨fb, fo, none⟩) fn fc]; simpa [go_sem] using h0
  have i0 : w1.cell? ⟨w.heap.size, 0, none⟩ = some (.int .i64 30) := HI.out.cell 0
  have i1 : w1.cell? ⟨w.heap.size, 1, none⟩ = some (.int .i64 ty) := HI.out.cell 1
  have i5 : w1.cell? ⟨w.heap.size, 5, none⟩ = some (.int .i64 (s : Int)) := HI.out.cell 5
  have m1 : w1.cell? ⟨w.heap.size + 1, 1, none⟩ = some (.slice (some ⟨fb, fo, none⟩) fn fc) := HM.out.cell 1
  have HF := hide (hF.below hb)
  have c1 := HF.out.c1
  have c2 := HF.out.c2
  have q0 : (0 : Int) ≤ (s : Int) := by omega
  have q1 : (s : Int) < (fn : Int) := by omega
  have HB := hide hb
  go_enter Tryd.func67, Tryd.ntmps67
  go_upto_region 1 with fail
  clear hb hw1 hF
  go_wp2_with fail
  all_goals
    refine bodyPost_ret (v := .tuple #[.int .i64 (d.pl.length : Int), .bool true]) ?_ rfl ⟨rfl, HB.out⟩
    first | (simp [results, Tryd.f67, go_sem]; done)
set_option maxRecDepth 100000 in
theorem res_call (ty dst imm el : Int) (A GA : Option Addr) (n c gn gc fb fo fn fc s : Nat) (d : FD) (hs : s < fn) (nw : Bool) (w : World) (hF : FnAt w fb (fo + s * 5) d) : Calls Tryd.prog 68 #[.agg #[.int .i64 30, .int .i64 ty, .int .i64 dst, .slice A n c, .int .i64 imm, .int .i64 (s : Int), .int .i64 el, .bool nw], .agg #[.slice GA gn gc, .slice (some ⟨fb, fo, none⟩) fn fc]] w fun e w' => e = .returned (.bool (ty == d.res)) ∧ Below w.heap.size w w' := by
  obtain ⟨w1, hw1⟩ : ∃ z, (w.alloc (.cells #[.int .i64 30, .int .i64 ty, .int .i64 dst, .slice A n c, .int .i64 imm, .int .i64 (s : Int), .int .i64 el, .bool nw] 78)).alloc (.cells #[.slice GA gn gc, .slice (some ⟨fb, fo, none⟩) fn fc] 32) = z := ⟨_, rfl⟩
  have hb : Below w.heap.size w w1 := by rw [← hw1]; exact ((Below.refl _ _).alloc (Nat.le_refl _) _).alloc (by simp [go_sem]) _
  have HI : Hid (Whole w1 w.heap.size 78 #[.int .i64 30, .int .i64 ty, .int .i64 dst, .slice A n c, .int .i64 imm, .int .i64 (s : Int), .int .i64 el, .bool nw]) := by show Whole _ _ _ _; rw [← hw1]; exact (Whole.new w _ _).alloc _
  have HM : Hid (Whole w1 (w.heap.size + 1) 32 #[.slice GA gn gc, .slice (some ⟨fb, fo, none⟩) fn fc]) := by show Whole _ _ _ _; rw [← hw1]; have h0 := Whole.new (w.alloc (.cells #[.int .i64 30, .int .i64 ty, .int .i64 dst, .slice A n c, .int .i64 imm, .int .i64 (s : Int), .int .i64 el, .bool nw] 78)) 32 #[.slice GA gn gc, .slice (some ⟨fb, fo, none⟩) fn fc]; simpa [go_sem] using h0
  have i0 : w1.cell? ⟨w.heap.size, 0, none⟩ = some (.int .i64 30) := HI.out.cell 0
  have i1 : w1.cell? ⟨w.heap.size, 1, none⟩ = some (.int .i64 ty) := HI.out.cell 1
  have i5 : w1.cell? ⟨w.heap.size, 5, none⟩ = some (.int .i64 (s : Int)) := HI.out.cell 5
  have m1 : w1.cell? ⟨w.heap.size + 1, 1, none⟩ = some (.slice (some ⟨fb, fo, none⟩) fn fc) := HM.out.cell 1
  have HF := hide (hF.below hb)
  have c1 := HF.out.c1
  have c2 := HF.out.c2
  have q0 : (0 : Int) ≤ (s : Int) := by omega
  have q1 : (s : Int) < (fn : Int) := by omega
  have HB := hide hb
  go_enter Tryd.func68, Tryd.ntmps68
  go_upto_region 1 with fail
  clear hb hw1 hF
  go_wp2_with fail
  all_goals first | (go_ret; exact ⟨rfl, HB.out⟩) | (go_ret; exact ⟨rfl, Below.drewN' HB.out _⟩) | (go_quiet (fail); go_wp2_with fail; go_ret; exact ⟨rfl, Below.drewN' HB.out _⟩)
set_option maxRecDepth 100000 in
set_option maxHeartbeats 4000000 in
theorem opr_call (ty dst imm el : Int) (A GA : Option Addr) (n c gn gc fb fo fn fc s : Nat) (d : FD) (hs : s < fn) (nw : Bool) (hsh : Shp d) (j : Nat) (p a first : Int) (hp : d.pl[j]? = some p) (w : World) (hF : FnAt w fb (fo + s * 5) d) : Calls Tryd.prog 69 #[.agg #[.int .i64 30, .int .i64 ty, .int .i64 dst, .slice A n c, .int .i64 imm, .int .i64 (s : Int), .int .i64 el, .bool nw], .agg #[.slice GA gn gc, .slice (some ⟨fb, fo, none⟩) fn fc], .int .i64 (j : Int), .int .i64 a, .int .i64 first] w fun e w' => e = .returned (.bool (opC d.cl p a)) ∧ Below w.heap.size w w' := by
  obtain ⟨u0, PA, pc, pl, res, CA, cc, cl, u4⟩ := d
  obtain ⟨⟨nm, hu0⟩, B4, n4, k4, hu4⟩ := hsh
  simp only at hu0 hu4
  subst hu0 hu4
  obtain ⟨w1, hw1⟩ : ∃ z, (w.alloc (.cells #[.int .i64 30, .int .i64 ty, .int .i64 dst, .slice A n c, .int .i64 imm, .int .i64 (s : Int), .int .i64 el, .bool nw] 78)).alloc (.cells #[.slice GA gn gc, .slice (some ⟨fb, fo, none⟩) fn fc] 32) = z := ⟨_, rfl⟩
  have hb : Below w.heap.size w w1 := by rw [← hw1]; exact ((Below.refl _ _).alloc (Nat.le_refl _) _).alloc (by simp [go_sem]) _
  have HI : Hid (Whole w1 w.heap.size 78 #[.int .i64 30, .int .i64 ty, .int .i64 dst, .slice A n c, .int .i64 imm, .int .i64 (s : Int), .int .i64 el, .bool nw]) := by show Whole _ _ _ _; rw [← hw1]; exact (Whole.new w _ _).alloc _
  have HM : Hid (Whole w1 (w.heap.size + 1) 32 #[.slice GA gn gc, .slice (some ⟨fb, fo, none⟩) fn fc]) := by show Whole _ _ _ _; rw [← hw1]; have h0 := Whole.new (w.alloc (.cells #[.int .i64 30, .int .i64 ty, .int .i64 dst, .slice A n c, .int .i64 imm, .int .i64 (s : Int), .int .i64 el, .bool nw] 78)) 32 #[.slice GA gn gc, .slice (some ⟨fb, fo, none⟩) fn fc]; simpa [go_sem] using h0
  have i0 : w1.cell? ⟨w.heap.size, 0, none⟩ = some (.int .i64 30) := HI.out.cell 0
  have i1 : w1.cell? ⟨w.heap.size, 1, none⟩ = some (.int .i64 ty) := HI.out.cell 1
  have i5 : w1.cell? ⟨w.heap.size, 5, none⟩ = some (.int .i64 (s : Int)) := HI.out.cell 5
  have m1 : w1.cell? ⟨w.heap.size + 1, 1, none⟩ = some (.slice (some ⟨fb, fo, none⟩) fn fc) := HM.out.cell 1
  have HF := hide (hF.below hb)
  have c0 : w1.cell? ⟨fb, fo + s * 5, none⟩ = some (.string nm) := HF.out.c0
  have c1 : w1.cell? ⟨fb, fo + s * 5 + 1, none⟩ = some (.slice PA pl.length pc) := HF.out.c1
  have c2 : w1.cell? ⟨fb, fo + s * 5 + 2, none⟩ = some (.int .i64 res) := HF.out.c2
  have c3 : w1.cell? ⟨fb, fo + s * 5 + 3, none⟩ = some (.slice CA cl.length cc) := HF.out.c3
  have c4 : w1.cell? ⟨fb, fo + s * 5 + 4, none⟩ = some (.slice B4 n4 k4) := HF.out.c4
  have q0 : (0 : Int) ≤ (s : Int) := by omega
  have q1 : (s : Int) < (fn : Int) := by omega
  have HB := hide hb
  have HP : Hid (Rd w1 .i64 (.slice PA pl.length pc) pl) := hide HF.out.p
  have HC : Hid (Rd w1 .i64 (.slice CA cl.length cc) cl) := hide HF.out.c
  have hj : j < pl.length := (List.getElem?_eq_some_iff.1 hp).1
  obtain ⟨pb, po, rfl, hpc⟩ := HP.out.at (by omega)
  have hcp := hpc j p hp
  have q2 : (j : Int) < (pl.length : Int) := by omega
  have q3 : (0 : Int) ≤ (j : Int) := by omega
  have hr : opC cl p a = (decide (0 ≤ p) && decide (p < (cl.length : Int)) && (a == cl.getD p.toNat 0)) := rfl
  clear hpc hp hj HP hs c0 c1 c2 c3 c4
  show Calls _ _ _ _ fun e w' => e = .returned (.bool (opC cl p a)) ∧ _
  go_enter Tryd.func69, Tryd.ntmps69
  go_upto_region 1 with fail
  clear hb hw1 hF
  go_quiet (first | (go_at_call 94; exact Calls.quiet_of_same ((rbits_any _ _).mono fun _ _ ⟨e1, e2⟩ => ⟨e1, e2.symm⟩)))
  go_upto_region 26 with fail
  obtain ⟨w2, hw2⟩ : ∃ x, w1.drewN nq = x := ⟨_, rfl⟩
  have hb2 : Below w1.heap.size w1 w2 := by rw [← hw2]; exact Below.drewN' (Below.refl _ _) _
  replace HF := hide (HF.out.below hb2)
  replace HC := hide (HC.out.below' hb2)
  replace HB := hide (Below.all HB.out hb2)
  replace i5 : w2.cell? ⟨w.heap.size, 5, none⟩ = some (.int .i64 (s : Int)) := by rw [← hw2]; exact i5
  replace m1 : w2.cell? ⟨w.heap.size + 1, 1, none⟩ = some (.slice (some ⟨fb, fo, none⟩) fn fc) := by rw [← hw2]; exact m1
  replace hcp : w2.cell? ⟨pb, po + j, none⟩ = some (.int .i64 p) := by rw [← hw2]; exact hcp
  have c0 : w2.cell? ⟨fb, fo + s * 5, none⟩ = some (.string nm) := HF.out.c0
  have c1 : w2.cell? ⟨fb, fo + s * 5 + 1, none⟩ = some (.slice (some ⟨pb, po, none⟩) pl.length pc) := HF.out.c1
  have c2 : w2.cell? ⟨fb, fo + s * 5 + 2, none⟩ = some (.int .i64 res) := HF.out.c2
  have c3 : w2.cell? ⟨fb, fo + s * 5 + 3, none⟩ = some (.slice CA cl.length cc) := HF.out.c3
  have c4 : w2.cell? ⟨fb, fo + s * 5 + 4, none⟩ = some (.slice B4 n4 k4) := HF.out.c4
  simp only [hw2]
  clear hw2 hb2 i0 i1
  go_upto_region 27 with fail
  obtain ⟨q, hq⟩ : ∃ x, w2.heap.size = x := ⟨_, rfl⟩
  obtain ⟨w3, hw3⟩ : ∃ x, w2.alloc (.cells #[.string nm, .slice (some ⟨pb, po, none⟩) pl.length pc, .int .i64 res, .slice CA cl.length cc, .slice B4 n4 k4] 28) = x := ⟨_, rfl⟩
  have hb3 : Below w2.heap.size w2 w3 := by rw [← hw3]; exact (Below.refl _ _).alloc (Nat.le_refl _) _
  have HG : Hid (Whole w3 q 28 #[.string nm, .slice (some ⟨pb, po, none⟩) pl.length pc, .int .i64 res, .slice CA cl.length cc, .slice B4 n4 k4]) := hide (by rw [← hw3, ← hq]; exact Whole.new _ _ _)
  have n1 : w3.cell? ⟨q, 1, none⟩ = some (.slice (some ⟨pb, po, none⟩) pl.length pc) := HG.out.cell 1
  have n3 : w3.cell? ⟨q, 3, none⟩ = some (.slice CA cl.length cc) := HG.out.cell 3
  replace hcp : w3.cell? ⟨pb, po + j, none⟩ = some (.int .i64 p) := cell_below hb3 hcp
  replace HC := hide (HC.out.below' hb3)
  replace HB := hide (Below.all HB.out hb3)
  simp only [hw3, hq]
  clear hw3 hb3 hq i5 m1 c0 c1 c2 c3 c4
  by_cases hp0 : 0 ≤ p
  · obtain ⟨m, rfl⟩ := Int.eq_ofNat_of_zero_le hp0
    cases g1 : decide ((m : Int) < (cl.length : Int)) with
    | false =>
      have g0 : decide ((0 : Int) ≤ (m : Int)) = true := by simp
      have g2 : decide (m < cl.length) = false := by simpa using g1
      go_wp2_with fail
      go_ret
      exact ⟨by rw [hr, g1]; simp, HB.out⟩
    | true =>
      have g0 : decide ((0 : Int) ≤ (m : Int)) = true := by simp
      have q5 : (m : Int) < (cl.length : Int) := of_decide_eq_true g1
      have g2 : decide (m < cl.length) = true := by simpa using g1
      obtain ⟨y, hy⟩ : ∃ y, cl[m]? = some y := ⟨_, List.getElem?_eq_getElem (by omega)⟩
      obtain ⟨cb, co, rfl, hcc⟩ := HC.out.at (by omega)
      have hcy := hcc m y hy
      have hr2 : opC cl (m : Int) a = (a == y) := by rw [hr, g1]; simp [List.getD, hy]
      have q4 : (0 : Int) ≤ (m : Int) := by omega
      clear hcc hr hy
      go_wp2_with fail
      go_ret
      exact ⟨by rw [hr2]; rfl, HB.out⟩
  · have g0 : decide ((0 : Int) ≤ p) = false := by simpa using hp0
    clear hp0
    go_wp2_with fail
    go_ret
    exact ⟨by rw [hr, g0]; rfl, HB.out⟩
end Go.Proofs.YtnhaanjpcnnifaaDoor

/-
  Layer 20 (cfg): Reads.
-/
import Derived.Test.YthnehmfdadgklaaCfP
import Derived.Test.YthnehmfdadgklaaCfM
namespace Go.Proofs.Ythnehmfdadgklaa
open Go.RowKit Go.Deep

/-- The registers that a position reads. -/
def BkD.reads (b : BkD) (ix : Int) : List Int := match b.ins[ix.toNat]? with
  | some x => x.args
  | none => b.term.args ++ b.term.succs.flatMap EdD.args
def FnD.reads (d : FnD) (bi ix : Int) : List Int := if d.has bi ix = true ∧ 0 ≤ ix then match d.blocks[bi.toNat]? with
    | some b => b.reads ix
    | none => []
  else []
/-- Its cells, where it has any, lie in blocks from B on. -/
def Fresh (v : Value) (B : Nat) : Prop := ∀ A n c, v = .slice A n c → ∀ b ∈ slB A n, B ≤ b
theorem fresh_nil (B : Nat) : Fresh (.slice none 0 0) B := fun A n c e b hb => by cases e; cases hb
theorem fresh_of {w : World} {base B : Nat} {e : TypeId} {m : Nat} {A : Option Addr} {n c : Nat} {rows : List (List Value)} (h : Mine w base e m A n c rows) (hB : B ≤ base) : Fresh (.slice A n c) B := fun A' n' c' e b hb => by
  injection e with e1 e2 e3
  subst e1 e2 e3
  exact Nat.le_trans hB (h.blk b hb).1
/-- All that a terminator hands on fits a process's memory. -/
def BkD.fits (b : BkD) : Prop := b.term.args.length + (b.term.succs.flatMap EdD.args).length ≤ 17592186044416
theorem FnD.has_at {d : FnD} {bi ix : Int} (h : d.has bi ix = true) : ∃ (i : Nat) (b : BkD), bi = i ∧ d.blocks[i]? = some b ∧ -1 ≤ ix ∧ ix ≤ b.ins.length := by
  unfold FnD.has at h
  rw [Bool.and_eq_true] at h
  have h1 : 0 ≤ bi ∧ bi < d.blocks.length := of_decide_eq_true h.1
  obtain ⟨b, hb⟩ : ∃ b, d.blocks[bi.toNat]? = some b := ⟨_, List.getElem?_eq_getElem (by omega)⟩
  have h2 := h.2
  rw [hb] at h2
  simp only [Bool.and_eq_true, decide_eq_true_eq] at h2
  exact ⟨bi.toNat, b, by omega, hb, h2⟩
theorem FnD.reads_at {d : FnD} {bi ix : Int} {i : Nat} {b : BkD} (h : d.has bi ix = true) (h0 : 0 ≤ ix) (hbi : bi = i) (hb : d.blocks[i]? = some b) : d.reads bi ix = b.reads ix := by
  subst hbi
  unfold FnD.reads
  rw [if_pos ⟨h, h0⟩, Int.toNat_natCast, hb]
set_option maxRecDepth 100000 in
set_option maxHeartbeats 2000000 in
theorem reads_no (d : FnD) (bi ix : Int) (w : World) (hd : d.ok w) (hhas : d.has bi ix = false) :
    Calls Try.prog 20 #[.agg d.cells.toArray, .agg #[.int .i64 bi, .int .i64 ix]] w fun e w' => e = .returned (.slice none 0 0) ∧ Below w.heap.size w w' := by
  have HX := hide hd
  obtain ⟨q, hq⟩ : ∃ q, w.heap.size = q := ⟨_, rfl⟩
  obtain ⟨w1, hw1⟩ : ∃ z, (w.alloc (.cells d.cells.toArray 27)).alloc (.cells #[.int .i64 bi, .int .i64 ix] 37) = z := ⟨_, rfl⟩
  have HB : Hid (Below w.heap.size w w1) := hide (by rw [← hw1]; exact ((Below.refl _ _).alloc (Nat.le_refl _) _).alloc (by simp) _)
  have HA : Hid (Whole w1 q 27 d.cells.toArray) := hide (by rw [← hw1, ← hq]; exact (Whole.new w _ _).alloc _)
  have HP : Hid (Whole w1 (q + 1) 37 #[.int .i64 bi, .int .i64 ix]) := hide (by
    rw [← hw1, ← hq, show w.heap.size + 1 = (w.alloc (.cells d.cells.toArray 27)).heap.size by simp]; exact Whole.new _ _ _)
  have hqs : Hid (q + 2 ≤ w1.heap.size) := hide (by rw [← hw1, ← hq]; simp)
  have hQ : Hid (w.heap.size = q) := hide hq
  have hu := Try.underlying27
  have hi : (Try.prog.info? 27).map (·.size) = some 5 := by kernel_rfl
  have hi7 : (Try.prog.info? 54).map (·.size) = some 7 := by kernel_rfl
  have hi2 : (Try.prog.info? 56).map (·.size) = some 2 := by kernel_rfl
  have HU := hide hu
  have HI := hide hi
  have HU7 := hide Try.underlying54
  have HI7 := hide hi7
  have HU2 := hide Try.underlying56
  have HI2 := hide hi2
  have p0 : w1.cell? ⟨q + 1, 0, none⟩ = some (.int .i64 bi) := HP.out.cell 0
  have p1 : w1.cell? ⟨q + 1, 1, none⟩ = some (.int .i64 ix) := HP.out.cell 1
  clear hd hu hi hi7 hi2
  go_enter Try.func20, Try.ntmps20
  go_upto_region 1 with fail
  clear hw1 hq
  refine wp_region_lit ?_
  refine wpList_load_mid (by rfl) _ _ rfl q 0 (by rfl) d.cells _ HA.out.range HU.out rfl HI.out ?_
  go_step; go_step; go_step
  go_step; go_step
  refine (contains_any d bi ix _ (HX.out.below HB.out)).mono ?_
  rintro en w2 ⟨rfl, hb⟩
  rw [hhas]
  replace HA := hide (HA.out.below' hb)
  replace HP := hide (HP.out.below' hb)
  replace hqs := hide (Nat.le_trans hqs.out hb.size)
  replace HB := hide (Below.all HB.out hb)
  clear hb p0 p1
  have p0 : w2.cell? ⟨q + 1, 0, none⟩ = some (.int .i64 bi) := HP.out.cell 0
  have p1 : w2.cell? ⟨q + 1, 1, none⟩ = some (.int .i64 ix) := HP.out.cell 1
  go_wp2_with fail
  go_ret
  exact ⟨rfl, HB.out⟩
set_option maxRecDepth 100000 in
set_option maxHeartbeats 2000000 in
theorem reads_neg (d : FnD) (bi ix : Int) (w : World) (hd : d.ok w) (hhas : d.has bi ix = true) (h0 : ix < 0) :
    Calls Try.prog 20 #[.agg d.cells.toArray, .agg #[.int .i64 bi, .int .i64 ix]] w fun e w' => e = .returned (.slice none 0 0) ∧ Below w.heap.size w w' := by
  have HX := hide hd
  obtain ⟨q, hq⟩ : ∃ q, w.heap.size = q := ⟨_, rfl⟩
  obtain ⟨w1, hw1⟩ : ∃ z, (w.alloc (.cells d.cells.toArray 27)).alloc (.cells #[.int .i64 bi, .int .i64 ix] 37) = z := ⟨_, rfl⟩
  have HB : Hid (Below w.heap.size w w1) := hide (by rw [← hw1]; exact ((Below.refl _ _).alloc (Nat.le_refl _) _).alloc (by simp) _)
  have HA : Hid (Whole w1 q 27 d.cells.toArray) := hide (by rw [← hw1, ← hq]; exact (Whole.new w _ _).alloc _)
  have HP : Hid (Whole w1 (q + 1) 37 #[.int .i64 bi, .int .i64 ix]) := hide (by
    rw [← hw1, ← hq, show w.heap.size + 1 = (w.alloc (.cells d.cells.toArray 27)).heap.size by simp]; exact Whole.new _ _ _)
  have hqs : Hid (q + 2 ≤ w1.heap.size) := hide (by rw [← hw1, ← hq]; simp)
  have hQ : Hid (w.heap.size = q) := hide hq
  have hu := Try.underlying27
  have hi : (Try.prog.info? 27).map (·.size) = some 5 := by kernel_rfl
  have hi7 : (Try.prog.info? 54).map (·.size) = some 7 := by kernel_rfl
  have hi2 : (Try.prog.info? 56).map (·.size) = some 2 := by kernel_rfl
  have HU := hide hu
  have HI := hide hi
  have HU7 := hide Try.underlying54
  have HI7 := hide hi7
  have HU2 := hide Try.underlying56
  have HI2 := hide hi2
  have p0 : w1.cell? ⟨q + 1, 0, none⟩ = some (.int .i64 bi) := HP.out.cell 0
  have p1 : w1.cell? ⟨q + 1, 1, none⟩ = some (.int .i64 ix) := HP.out.cell 1
  clear hd hu hi hi7 hi2
  go_enter Try.func20, Try.ntmps20
  go_upto_region 1 with fail
  clear hw1 hq
  refine wp_region_lit ?_
  refine wpList_load_mid (by rfl) _ _ rfl q 0 (by rfl) d.cells _ HA.out.range HU.out rfl HI.out ?_
  go_step; go_step; go_step
  go_step; go_step
  refine (contains_any d bi ix _ (HX.out.below HB.out)).mono ?_
  rintro en w2 ⟨rfl, hb⟩
  rw [hhas]
  replace HA := hide (HA.out.below' hb)
  replace HP := hide (HP.out.below' hb)
  replace hqs := hide (Nat.le_trans hqs.out hb.size)
  replace HB := hide (Below.all HB.out hb)
  clear hb p0 p1
  have p0 : w2.cell? ⟨q + 1, 0, none⟩ = some (.int .i64 bi) := HP.out.cell 0
  have p1 : w2.cell? ⟨q + 1, 1, none⟩ = some (.int .i64 ix) := HP.out.cell 1
  go_wp2_with fail
  go_ret
  exact ⟨rfl, HB.out⟩
end Go.Proofs.Ythnehmfdadgklaa

/-
  Layer 20 (cfg): Reads, an instruction.
-/
import Derived.Test.YthnehmfdadgklaaCfQa
namespace Go.Proofs.Ythnehmfdadgklaa
open Go.RowKit Go.Deep

set_option maxRecDepth 100000 in
set_option maxHeartbeats 4000000 in
theorem reads_ins (d : FnD) (i k : Nat) (b : BkD) (x : InD) (w : World) (hd : d.ok w) (hhas : d.has i k = true) (hb : d.blocks[i]? = some b) (hx : b.ins[k]? = some x) :
    Calls Try.prog 20 #[.agg d.cells.toArray, .agg #[.int .i64 (i : Int), .int .i64 (k : Int)]] w fun e w' => ∃ v, e = .returned v ∧ Rd w' .i64 v x.args ∧ Fresh v w.heap.size ∧ Below w.heap.size w w' := by
  have hil : i < d.blocks.length := (List.getElem?_eq_some_iff.1 hb).1
  have hkl : k < b.ins.length := (List.getElem?_eq_some_iff.1 hx).1
  obtain ⟨A, hA⟩ : ∃ A, d.blocksA = A := ⟨_, rfl⟩
  have HBl : Hid (RdN w 7 (.slice A d.blocks.length d.blocksc) (d.blocks.map BkD.cells)) := hide (by rw [← hA]; exact hd.blocks)
  have hcap : d.blocksc ≤ 9223372036854775807 := by have h := hd.blocks.room.2; unfold maxLen at h; omega
  have hcapi : b.insc ≤ 9223372036854775807 := by have h := (hd.blocksO b (List.mem_of_getElem? hb)).ins.room.2; unfold maxLen at h; omega
  have HBi := hide hb
  have HXk := hide hx
  obtain ⟨IA, hIA⟩ : ∃ IA, b.insA = IA := ⟨_, rfl⟩
  have HIn : Hid (RdN w 8 (.slice IA b.ins.length b.insc) (b.ins.map InD.cells)) := hide (by rw [← hIA]; exact (hd.blocksO b (List.mem_of_getElem? hb)).ins)
  have HXO : Hid (x.ok w) := hide ((hd.blocksO b (List.mem_of_getElem? hb)).insO x (List.mem_of_getElem? hx))
  have hIA' := hide hIA
  clear hb hx hIA
  obtain ⟨bi, hbi⟩ : ∃ bi : Int, (i : Int) = bi := ⟨_, rfl⟩
  obtain ⟨ix, hix⟩ : ∃ ix : Int, (k : Int) = ix := ⟨_, rfl⟩
  rw [hbi, hix] at hhas
  rw [hbi, hix]
  have HBI := hide hbi
  have HIX := hide hix
  have h0 : ix ≥ 0 := by omega
  have h0' : decide (ix < 0) = false := by simp; omega
  clear hbi hix
  have HX := hide hd
  obtain ⟨q, hq⟩ : ∃ q, w.heap.size = q := ⟨_, rfl⟩
  obtain ⟨w1, hw1⟩ : ∃ z, (w.alloc (.cells d.cells.toArray 27)).alloc (.cells #[.int .i64 bi, .int .i64 ix] 37) = z := ⟨_, rfl⟩
  have HB : Hid (Below w.heap.size w w1) := hide (by rw [← hw1]; exact ((Below.refl _ _).alloc (Nat.le_refl _) _).alloc (by simp) _)
  have HA : Hid (Whole w1 q 27 d.cells.toArray) := hide (by rw [← hw1, ← hq]; exact (Whole.new w _ _).alloc _)
  have HP : Hid (Whole w1 (q + 1) 37 #[.int .i64 bi, .int .i64 ix]) := hide (by
    rw [← hw1, ← hq, show w.heap.size + 1 = (w.alloc (.cells d.cells.toArray 27)).heap.size by simp]; exact Whole.new _ _ _)
  have hqs : Hid (q + 2 ≤ w1.heap.size) := hide (by rw [← hw1, ← hq]; simp)
  have hQ : Hid (w.heap.size = q) := hide hq
  have hu := Try.underlying27
  have hi : (Try.prog.info? 27).map (·.size) = some 5 := by kernel_rfl
  have hi7 : (Try.prog.info? 54).map (·.size) = some 7 := by kernel_rfl
  have hi2 : (Try.prog.info? 56).map (·.size) = some 2 := by kernel_rfl
  have HU := hide hu
  have HI := hide hi
  have HU7 := hide Try.underlying54
  have HI7 := hide hi7
  have HU2 := hide Try.underlying56
  have HI2 := hide hi2
  have p0 : w1.cell? ⟨q + 1, 0, none⟩ = some (.int .i64 bi) := HP.out.cell 0
  have p1 : w1.cell? ⟨q + 1, 1, none⟩ = some (.int .i64 ix) := HP.out.cell 1
  clear hd hu hi hi7 hi2
  go_enter Try.func20, Try.ntmps20
  go_upto_region 1 with fail
  clear hw1 hq
  refine wp_region_lit ?_
  refine wpList_load_mid (by rfl) _ _ rfl q 0 (by rfl) d.cells _ HA.out.range HU.out rfl HI.out ?_
  go_step; go_step; go_step
  go_step; go_step
  refine (contains_any d bi ix _ (HX.out.below HB.out)).mono ?_
  rintro en w2 ⟨rfl, hb⟩
  rw [hhas]
  replace HA := hide (HA.out.below' hb)
  replace HP := hide (HP.out.below' hb)
  replace hqs := hide (Nat.le_trans hqs.out hb.size)
  replace HB := hide (Below.all HB.out hb)
  clear hb p0 p1 hhas
  have p0 : w2.cell? ⟨q + 1, 0, none⟩ = some (.int .i64 bi) := HP.out.cell 0
  have p1 : w2.cell? ⟨q + 1, 1, none⟩ = some (.int .i64 ix) := HP.out.cell 1
  obtain rfl := HBI.out
  obtain rfl := HIX.out
  go_upto_region 3 with fail
  have c4 : w2.cell? ⟨q, 4, none⟩ = some (.slice A d.blocks.length d.blocksc) := by rw [← hA]; exact HA.out.cell 4
  obtain ⟨bb, off, rfl, hlb, hrow⟩ := (HBl.out.below' HB.out).row (i := i) (r := b.cells) (by rw [List.getElem?_map, HBi.out]; rfl)
  have HRow : Hid (w2.rangeAt bb (off + i * 7) b.cells) := hide hrow
  have HHA := hide hA
  clear hlb hrow hA
  refine wp_region_lit ?_
  go_step; go_step; go_step
  go_step; go_step; go_step
  go_step; go_step; go_step
  go_step; go_step; go_step
  go_step; go_step; go_step
  refine wpList_load_mid (by rfl) _ _ rfl bb (off + i * 7) (by rfl) b.cells _ HRow.out HU7.out rfl HI7.out ?_
  go_step; go_step; go_step
  refine wpList_store_new (by rfl) _ _ _ rfl _ _ b.cells (by rfl) (by rfl) (by rfl) HI7.out BkD.all1' ?_
  obtain ⟨bv, hbv⟩ : ∃ bv, w2.heap.size = bv := ⟨_, rfl⟩
  rw [hbv]
  obtain ⟨w3, hw3⟩ : ∃ z, w2.alloc (.cells b.cells.toArray 54) = z := ⟨_, rfl⟩
  have b23 : Below w2.heap.size w2 w3 := by rw [← hw3]; exact (Below.refl _ _).alloc (Nat.le_refl _) _
  have HV : Hid (Whole w3 bv 54 b.cells.toArray) := hide (by rw [← hw3, ← hbv]; exact Whole.new w2 _ _)
  have hbq : Hid (q + 2 ≤ bv) := hide (by rw [← hbv]; exact hqs.out)
  rw [hw3]
  replace HP := hide (HP.out.below' b23)
  replace HB := hide (Below.all HB.out b23)
  have hbs : Hid (bv < w3.heap.size) := hide HV.out.lt
  clear hw3 b23 HRow c4 p0 p1 hbv HA
  have p1 : w3.cell? ⟨q + 1, 1, none⟩ = some (.int .i64 (k : Int)) := HP.out.cell 1
  have p0 : w3.cell? ⟨q + 1, 0, none⟩ = some (.int .i64 (i : Int)) := HP.out.cell 0
  obtain ⟨b2, off2, rfl, hlb, hrow⟩ := (HIn.out.below' HB.out).row (i := k) (r := x.cells) (by rw [List.getElem?_map, HXk.out]; rfl)
  have v1 : w3.cell? ⟨bv, 1, none⟩ = some (.slice (some ⟨b2, off2, none⟩) b.ins.length b.insc) := by rw [← hIA'.out]; exact HV.out.cell 1
  have v3 : w3.cell? ⟨b2, off2 + k * 8 + 3, none⟩ = some (.slice x.argsA x.args.length x.argsc) := hrow 3 _ rfl
  clear hlb hrow
  go_wp2_with (go_at_call 38; refine (copied_int _ _ (intsN .i64 x.args) [] _ (HXO.out.args.below' HB.out).toN (RdN.nil 1) (intsN_one _ _) (fun _ h => by cases h) (by rw [intsN_len]; have h7 := HXO.out.argsB; unfold Fits at h7; simp; omega)).mono ?_; rintro en w4 ⟨A2, n2, rfl, hn, hM, hR, hb2⟩; rw [List.append_nil] at hR; have HR := hide hR.toI; have HFr := hide (fresh_of hM HB.out.size); replace HB := hide (Below.all HB.out hb2); clear hb2 hM hR hn)
  go_ret
  exact ⟨_, rfl, HR.out, HFr.out, HB.out⟩
end Go.Proofs.Ythnehmfdadgklaa

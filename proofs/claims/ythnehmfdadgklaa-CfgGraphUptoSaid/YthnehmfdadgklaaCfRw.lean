/-
  Layer 20 (cfg): the reference's Writes.
-/
import Derived.Test.YthnehmfdadgklaaCfRr
namespace Go.Proofs.Ythnehmfdadgklaa
open Go.RowKit Go.Deep

set_option maxRecDepth 100000 in
set_option maxHeartbeats 4000000 in
theorem rwrites_no (d : FnD) (bi ix : Int) (w : World) (hd : d.ok w) (hhas : d.has bi ix = false) :
    Calls Try.prog 23 #[.agg d.cells.toArray, .agg #[.int .i64 bi, .int .i64 ix]] w fun e w' => e = .returned (.slice none 0 0) ∧ Below w.heap.size w w' := by
  have HX := hide hd
  obtain ⟨q, hq⟩ : ∃ q, w.heap.size = q := ⟨_, rfl⟩
  obtain ⟨w1, hw1⟩ : ∃ z, (w.alloc (.cells d.cells.toArray 27)).alloc (.cells #[.int .i64 bi, .int .i64 ix] 37) = z := ⟨_, rfl⟩
  have HB : Hid (Below w.heap.size w w1) := hide (by rw [← hw1]; exact ((Below.refl _ _).alloc (Nat.le_refl _) _).alloc (by simp) _)
  have HA : Hid (Whole w1 q 27 d.cells.toArray) := hide (by rw [← hw1, ← hq]; exact (Whole.new w _ _).alloc _)
  have HP : Hid (Whole w1 (q + 1) 37 #[.int .i64 bi, .int .i64 ix]) := hide (by
    rw [← hw1, ← hq, show w.heap.size + 1 = (w.alloc (.cells d.cells.toArray 27)).heap.size by simp]; exact Whole.new _ _ _)
  have hqs : Hid (q + 2 ≤ w1.heap.size) := hide (by rw [← hw1, ← hq]; simp)
  have hQ : Hid (w.heap.size = q) := hide hq
  have hu := Try.underlying27
  have hi : (Try.prog.info? 27).map (·.size) = some 5 := by kernel_rfl
  have hi7 : (Try.prog.info? 54).map (·.size) = some 7 := by kernel_rfl
  have hi2 : (Try.prog.info? 56).map (·.size) = some 2 := by kernel_rfl
  have HU := hide hu
  have HI := hide hi
  have HU7 := hide Try.underlying54
  have HI7 := hide hi7
  have HU2 := hide Try.underlying56
  have HI2 := hide hi2
  have p0 : w1.cell? ⟨q + 1, 0, none⟩ = some (.int .i64 bi) := HP.out.cell 0
  have p1 : w1.cell? ⟨q + 1, 1, none⟩ = some (.int .i64 ix) := HP.out.cell 1
  clear hd hu hi hi7 hi2
  go_enter Try.func23, Try.ntmps23
  go_upto_region 2 with fail
  clear hw1 hq
  refine wp_region_lit ?_
  refine wpList_load_mid (by rfl) _ _ rfl q 0 (by rfl) d.cells _ HA.out.range HU.out rfl HI.out ?_
  go_step; go_step; go_step
  go_step; go_step
  refine (rin_any d bi ix _ (HX.out.below HB.out)).mono ?_
  rintro en w2 ⟨rfl, hb⟩
  rw [hhas]
  replace HA := hide (HA.out.below' hb)
  replace HP := hide (HP.out.below' hb)
  replace hqs := hide (Nat.le_trans hqs.out hb.size)
  replace HB := hide (Below.all HB.out hb)
  clear hb p0 p1
  have p0 : w2.cell? ⟨q + 1, 0, none⟩ = some (.int .i64 bi) := HP.out.cell 0
  have p1 : w2.cell? ⟨q + 1, 1, none⟩ = some (.int .i64 ix) := HP.out.cell 1
  go_wp2_with fail
  go_ret
  exact ⟨rfl, HB.out⟩
set_option maxRecDepth 100000 in
set_option maxHeartbeats 4000000 in
theorem rwrites_first (d : FnD) (i : Nat) (b : BkD) (w : World) (hd : d.ok w) (hhas : d.has i (-1) = true) (hb : d.blocks[i]? = some b) (h0 : (i : Int) = 0) (hf : d.params.length + b.params.length ≤ 17592186044416) :
    Calls Try.prog 23 #[.agg d.cells.toArray, .agg #[.int .i64 (i : Int), .int .i64 (-1)]] w fun e w' => ∃ v, e = .returned v ∧ Rd w' .i64 v (d.params ++ b.params) ∧ Fresh v w.heap.size ∧ Below w.heap.size w w' := by
  have hil : i < d.blocks.length := (List.getElem?_eq_some_iff.1 hb).1
  obtain ⟨A, hA⟩ : ∃ A, d.blocksA = A := ⟨_, rfl⟩
  have HBl : Hid (RdN w 7 (.slice A d.blocks.length d.blocksc) (d.blocks.map BkD.cells)) := hide (by rw [← hA]; exact hd.blocks)
  have hcap : d.blocksc ≤ 9223372036854775807 := by have h := hd.blocks.room.2; unfold maxLen at h; omega
  have hok := hd.blocksO b (List.mem_of_getElem? hb)
  have hcapi : b.insc ≤ 9223372036854775807 := by have h := hok.ins.room.2; unfold maxLen at h; omega
  have HBi := hide hb
  have HBO := hide hok
  have HF := hide hf
  have HZ0 : Hid ((i : Int) = 0) := hide h0
  have h0b : (((i : Int)) == 0) = true := by simpa using h0
  clear hf h0
  clear hb hok
  obtain ⟨bi, hbi⟩ : ∃ bi : Int, (i : Int) = bi := ⟨_, rfl⟩
  obtain ⟨ix, hix⟩ : ∃ ix : Int, (-1 : Int) = ix := ⟨_, rfl⟩
  rw [hbi, hix] at hhas
  rw [hbi, hix]
  have HBI := hide hbi
  have HIX := hide hix
  clear hbi hix
  have HX := hide hd
  obtain ⟨q, hq⟩ : ∃ q, w.heap.size = q := ⟨_, rfl⟩
  obtain ⟨w1, hw1⟩ : ∃ z, (w.alloc (.cells d.cells.toArray 27)).alloc (.cells #[.int .i64 bi, .int .i64 ix] 37) = z := ⟨_, rfl⟩
  have HB : Hid (Below w.heap.size w w1) := hide (by rw [← hw1]; exact ((Below.refl _ _).alloc (Nat.le_refl _) _).alloc (by simp) _)
  have HA : Hid (Whole w1 q 27 d.cells.toArray) := hide (by rw [← hw1, ← hq]; exact (Whole.new w _ _).alloc _)
  have HP : Hid (Whole w1 (q + 1) 37 #[.int .i64 bi, .int .i64 ix]) := hide (by
    rw [← hw1, ← hq, show w.heap.size + 1 = (w.alloc (.cells d.cells.toArray 27)).heap.size by simp]; exact Whole.new _ _ _)
  have hqs : Hid (q + 2 ≤ w1.heap.size) := hide (by rw [← hw1, ← hq]; simp)
  have hQ : Hid (w.heap.size = q) := hide hq
  have hu := Try.underlying27
  have hi : (Try.prog.info? 27).map (·.size) = some 5 := by kernel_rfl
  have hi7 : (Try.prog.info? 54).map (·.size) = some 7 := by kernel_rfl
  have hi2 : (Try.prog.info? 56).map (·.size) = some 2 := by kernel_rfl
  have HU := hide hu
  have HI := hide hi
  have HU7 := hide Try.underlying54
  have HI7 := hide hi7
  have HU2 := hide Try.underlying56
  have HI2 := hide hi2
  have p0 : w1.cell? ⟨q + 1, 0, none⟩ = some (.int .i64 bi) := HP.out.cell 0
  have p1 : w1.cell? ⟨q + 1, 1, none⟩ = some (.int .i64 ix) := HP.out.cell 1
  clear hd hu hi hi7 hi2
  go_enter Try.func23, Try.ntmps23
  go_upto_region 2 with fail
  clear hw1 hq
  refine wp_region_lit ?_
  refine wpList_load_mid (by rfl) _ _ rfl q 0 (by rfl) d.cells _ HA.out.range HU.out rfl HI.out ?_
  go_step; go_step; go_step
  go_step; go_step
  refine (rin_any d bi ix _ (HX.out.below HB.out)).mono ?_
  rintro en w2 ⟨rfl, hb⟩
  rw [hhas]
  replace HA := hide (HA.out.below' hb)
  replace HP := hide (HP.out.below' hb)
  replace hqs := hide (Nat.le_trans hqs.out hb.size)
  replace HB := hide (Below.all HB.out hb)
  clear hb p0 p1 hhas
  have p0 : w2.cell? ⟨q + 1, 0, none⟩ = some (.int .i64 bi) := HP.out.cell 0
  have p1 : w2.cell? ⟨q + 1, 1, none⟩ = some (.int .i64 ix) := HP.out.cell 1
  obtain rfl := HBI.out
  obtain rfl := HIX.out
  go_upto_region 4 with fail
  have c4 : w2.cell? ⟨q, 4, none⟩ = some (.slice A d.blocks.length d.blocksc) := by rw [← hA]; exact HA.out.cell 4
  obtain ⟨bb, off, rfl, hlb, hrow⟩ := (HBl.out.below' HB.out).row (i := i) (r := b.cells) (by rw [List.getElem?_map, HBi.out]; rfl)
  have HRow : Hid (w2.rangeAt bb (off + i * 7) b.cells) := hide hrow
  have HHA := hide hA
  clear hlb hrow hA
  refine wp_region_lit ?_
  go_step; go_step; go_step
  go_step; go_step; go_step
  go_step; go_step; go_step
  go_step; go_step; go_step
  go_step; go_step; go_step
  refine wpList_load_mid (by rfl) _ _ rfl bb (off + i * 7) (by rfl) b.cells _ HRow.out HU7.out rfl HI7.out ?_
  go_step; go_step; go_step
  refine wpList_store_new (by rfl) _ _ _ rfl _ _ b.cells (by rfl) (by rfl) (by rfl) HI7.out BkD.all1' ?_
  obtain ⟨bv, hbv⟩ : ∃ bv, w2.heap.size = bv := ⟨_, rfl⟩
  rw [hbv]
  obtain ⟨w3, hw3⟩ : ∃ z, w2.alloc (.cells b.cells.toArray 54) = z := ⟨_, rfl⟩
  have b23 : Below w2.heap.size w2 w3 := by rw [← hw3]; exact (Below.refl _ _).alloc (Nat.le_refl _) _
  have HV : Hid (Whole w3 bv 54 b.cells.toArray) := hide (by rw [← hw3, ← hbv]; exact Whole.new w2 _ _)
  have hbq : Hid (q + 2 ≤ bv) := hide (by rw [← hbv]; exact hqs.out)
  rw [hw3]
  replace HA := hide (HA.out.below' b23)
  replace HP := hide (HP.out.below' b23)
  replace HB := hide (Below.all HB.out b23)
  have hbs : Hid (bv < w3.heap.size) := hide HV.out.lt
  clear hw3 b23 HRow c4 p0 p1 hbv
  have p1 : w3.cell? ⟨q + 1, 1, none⟩ = some (.int .i64 (-1)) := HP.out.cell 1
  have p0 : w3.cell? ⟨q + 1, 0, none⟩ = some (.int .i64 (i : Int)) := HP.out.cell 0
  have v0 : w3.cell? ⟨bv, 0, none⟩ = some (.slice b.paramsA b.params.length b.paramsc) := HV.out.cell 0
  have q1 : w3.cell? ⟨q, 1, none⟩ = some (.slice d.paramsA d.params.length d.paramsc) := HA.out.cell 1
  have HArg1 := hide (HX.out.params.below' HB.out)
  have HArg2 := hide (HBO.out.params.below' HB.out)
  go_wp2_with (refine wpList_append_rd _ rfl _ _ 22 rfl w3.heap.size 3 .i64 8 intEI _ _ rfl Own.nil _ d.params rfl HArg1.out ?b0 ?b1 (Nat.le_refl _) ?_)
  case b0 => have := HF.out; simp; omega
  case b1 => have := HF.out; unfold maxLen; simp; omega
  rintro pv w4 ho hg hbl -
  have HO4 : Hid (Own w4 w3.heap.size 3 .i64 pv d.params) := hide (by simpa using ho)
  have HB4 : Hid (Below w3.heap.size w3 w4) := hide hbl
  have hs4 : w3.heap.size ≤ w4.heap.size := hbl.size
  have v0' : w4.cell? ⟨bv, 0, none⟩ = some (.slice b.paramsA b.params.length b.paramsc) := (HB4.out.cell (p := ⟨bv, 0, none⟩) hbs.out).trans v0
  replace HArg2 := hide (HArg2.out.below' HB4.out)
  clear ho hg hbl p0 p1 v0 q1
  go_wp2_with (refine wpList_append_rd _ rfl _ _ 22 rfl w3.heap.size 3 .i64 8 intEI _ _ rfl HO4.out _ b.params rfl HArg2.out ?b2 ?b3 hs4 ?_)
  case b2 => have := HF.out; omega
  case b3 => have := HF.out; unfold maxLen; omega
  rintro pv2 w5 ho hg hbl -
  have HR := hide ho.rd
  have HFr := hide (own_fresh ho HB.out.size)
  have HBx := hide (HB.out.trans ((HB4.out.trans hbl).mono HB.out.size))
  clear ho hg hbl v0'
  go_wp2_with fail
  go_ret
  exact ⟨_, rfl, HR.out, HFr.out, HBx.out⟩
set_option maxRecDepth 100000 in
set_option maxHeartbeats 4000000 in
theorem rwrites_head (d : FnD) (i : Nat) (b : BkD) (w : World) (hd : d.ok w) (hhas : d.has i (-1) = true) (hb : d.blocks[i]? = some b) (h0 : ¬ (i : Int) = 0) :
    Calls Try.prog 23 #[.agg d.cells.toArray, .agg #[.int .i64 (i : Int), .int .i64 (-1)]] w fun e w' => ∃ v, e = .returned v ∧ Rd w' .i64 v b.params ∧ Fresh v w.heap.size ∧ Below w.heap.size w w' := by
  have hil : i < d.blocks.length := (List.getElem?_eq_some_iff.1 hb).1
  obtain ⟨A, hA⟩ : ∃ A, d.blocksA = A := ⟨_, rfl⟩
  have HBl : Hid (RdN w 7 (.slice A d.blocks.length d.blocksc) (d.blocks.map BkD.cells)) := hide (by rw [← hA]; exact hd.blocks)
  have hcap : d.blocksc ≤ 9223372036854775807 := by have h := hd.blocks.room.2; unfold maxLen at h; omega
  have hok := hd.blocksO b (List.mem_of_getElem? hb)
  have hcapi : b.insc ≤ 9223372036854775807 := by have h := hok.ins.room.2; unfold maxLen at h; omega
  have HBi := hide hb
  have HBO := hide hok
  have h0b : (((i : Int)) == 0) = false := by simpa using h0
  clear h0
  clear hb hok
  obtain ⟨bi, hbi⟩ : ∃ bi : Int, (i : Int) = bi := ⟨_, rfl⟩
  obtain ⟨ix, hix⟩ : ∃ ix : Int, (-1 : Int) = ix := ⟨_, rfl⟩
  rw [hbi, hix] at hhas
  rw [hbi, hix]
  have HBI := hide hbi
  have HIX := hide hix
  clear hbi hix
  have HX := hide hd
  obtain ⟨q, hq⟩ : ∃ q, w.heap.size = q := ⟨_, rfl⟩
  obtain ⟨w1, hw1⟩ : ∃ z, (w.alloc (.cells d.cells.toArray 27)).alloc (.cells #[.int .i64 bi, .int .i64 ix] 37) = z := ⟨_, rfl⟩
  have HB : Hid (Below w.heap.size w w1) := hide (by rw [← hw1]; exact ((Below.refl _ _).alloc (Nat.le_refl _) _).alloc (by simp) _)
  have HA : Hid (Whole w1 q 27 d.cells.toArray) := hide (by rw [← hw1, ← hq]; exact (Whole.new w _ _).alloc _)
  have HP : Hid (Whole w1 (q + 1) 37 #[.int .i64 bi, .int .i64 ix]) := hide (by
    rw [← hw1, ← hq, show w.heap.size + 1 = (w.alloc (.cells d.cells.toArray 27)).heap.size by simp]; exact Whole.new _ _ _)
  have hqs : Hid (q + 2 ≤ w1.heap.size) := hide (by rw [← hw1, ← hq]; simp)
  have hQ : Hid (w.heap.size = q) := hide hq
  have hu := Try.underlying27
  have hi : (Try.prog.info? 27).map (·.size) = some 5 := by kernel_rfl
  have hi7 : (Try.prog.info? 54).map (·.size) = some 7 := by kernel_rfl
  have hi2 : (Try.prog.info? 56).map (·.size) = some 2 := by kernel_rfl
  have HU := hide hu
  have HI := hide hi
  have HU7 := hide Try.underlying54
  have HI7 := hide hi7
  have HU2 := hide Try.underlying56
  have HI2 := hide hi2
  have p0 : w1.cell? ⟨q + 1, 0, none⟩ = some (.int .i64 bi) := HP.out.cell 0
  have p1 : w1.cell? ⟨q + 1, 1, none⟩ = some (.int .i64 ix) := HP.out.cell 1
  clear hd hu hi hi7 hi2
  go_enter Try.func23, Try.ntmps23
  go_upto_region 2 with fail
  clear hw1 hq
  refine wp_region_lit ?_
  refine wpList_load_mid (by rfl) _ _ rfl q 0 (by rfl) d.cells _ HA.out.range HU.out rfl HI.out ?_
  go_step; go_step; go_step
  go_step; go_step
  refine (rin_any d bi ix _ (HX.out.below HB.out)).mono ?_
  rintro en w2 ⟨rfl, hb⟩
  rw [hhas]
  replace HA := hide (HA.out.below' hb)
  replace HP := hide (HP.out.below' hb)
  replace hqs := hide (Nat.le_trans hqs.out hb.size)
  replace HB := hide (Below.all HB.out hb)
  clear hb p0 p1 hhas
  have p0 : w2.cell? ⟨q + 1, 0, none⟩ = some (.int .i64 bi) := HP.out.cell 0
  have p1 : w2.cell? ⟨q + 1, 1, none⟩ = some (.int .i64 ix) := HP.out.cell 1
  obtain rfl := HBI.out
  obtain rfl := HIX.out
  go_upto_region 4 with fail
  have c4 : w2.cell? ⟨q, 4, none⟩ = some (.slice A d.blocks.length d.blocksc) := by rw [← hA]; exact HA.out.cell 4
  obtain ⟨bb, off, rfl, hlb, hrow⟩ := (HBl.out.below' HB.out).row (i := i) (r := b.cells) (by rw [List.getElem?_map, HBi.out]; rfl)
  have HRow : Hid (w2.rangeAt bb (off + i * 7) b.cells) := hide hrow
  have HHA := hide hA
  clear hlb hrow hA
  refine wp_region_lit ?_
  go_step; go_step; go_step
  go_step; go_step; go_step
  go_step; go_step; go_step
  go_step; go_step; go_step
  go_step; go_step; go_step
  refine wpList_load_mid (by rfl) _ _ rfl bb (off + i * 7) (by rfl) b.cells _ HRow.out HU7.out rfl HI7.out ?_
  go_step; go_step; go_step
  refine wpList_store_new (by rfl) _ _ _ rfl _ _ b.cells (by rfl) (by rfl) (by rfl) HI7.out BkD.all1' ?_
  obtain ⟨bv, hbv⟩ : ∃ bv, w2.heap.size = bv := ⟨_, rfl⟩
  rw [hbv]
  obtain ⟨w3, hw3⟩ : ∃ z, w2.alloc (.cells b.cells.toArray 54) = z := ⟨_, rfl⟩
  have b23 : Below w2.heap.size w2 w3 := by rw [← hw3]; exact (Below.refl _ _).alloc (Nat.le_refl _) _
  have HV : Hid (Whole w3 bv 54 b.cells.toArray) := hide (by rw [← hw3, ← hbv]; exact Whole.new w2 _ _)
  have hbq : Hid (q + 2 ≤ bv) := hide (by rw [← hbv]; exact hqs.out)
  rw [hw3]
  replace HP := hide (HP.out.below' b23)
  replace HB := hide (Below.all HB.out b23)
  have hbs : Hid (bv < w3.heap.size) := hide HV.out.lt
  clear hw3 b23 HRow c4 p0 p1 hbv HA
  have p1 : w3.cell? ⟨q + 1, 1, none⟩ = some (.int .i64 (-1)) := HP.out.cell 1
  have p0 : w3.cell? ⟨q + 1, 0, none⟩ = some (.int .i64 (i : Int)) := HP.out.cell 0
  have v0 : w3.cell? ⟨bv, 0, none⟩ = some (.slice b.paramsA b.params.length b.paramsc) := HV.out.cell 0
  have HArg2 := hide (HBO.out.params.below' HB.out)
  have HAl : Hid (b.params.length ≤ 17592186044416) := hide (by have h7 := HBO.out.paramsB; unfold Fits at h7; omega)
  go_wp2_with (refine wpList_append_rd _ rfl _ _ 22 rfl w3.heap.size 3 .i64 8 intEI _ _ rfl Own.nil _ b.params rfl HArg2.out ?b0 ?b1 (Nat.le_refl _) ?_)
  case b0 => have := HAl.out; simp; omega
  case b1 => have := HAl.out; unfold maxLen; simp; omega
  rintro pv w4 ho hg hbl -
  have HR := hide ho.rd
  have HFr := hide (own_fresh ho HB.out.size)
  have HBx := hide (HB.out.trans ((show Below w3.heap.size w3 w4 from hbl).mono HB.out.size))
  clear ho hg hbl p0 p1 v0
  go_wp2_with fail
  go_ret
  exact ⟨_, rfl, HR.out, HFr.out, HBx.out⟩
set_option maxRecDepth 100000 in
set_option maxHeartbeats 4000000 in
theorem rwrites_dst (d : FnD) (i k : Nat) (b : BkD) (x : InD) (w : World) (hd : d.ok w) (hhas : d.has i k = true) (hb : d.blocks[i]? = some b) (hx : b.ins[k]? = some x) (h0 : 0 ≤ x.dst) :
    Calls Try.prog 23 #[.agg d.cells.toArray, .agg #[.int .i64 (i : Int), .int .i64 (k : Int)]] w fun e w' => ∃ v, e = .returned v ∧ Rd w' .i64 v [x.dst] ∧ Fresh v w.heap.size ∧ Below w.heap.size w w' := by
  have hil : i < d.blocks.length := (List.getElem?_eq_some_iff.1 hb).1
  obtain ⟨A, hA⟩ : ∃ A, d.blocksA = A := ⟨_, rfl⟩
  have HBl : Hid (RdN w 7 (.slice A d.blocks.length d.blocksc) (d.blocks.map BkD.cells)) := hide (by rw [← hA]; exact hd.blocks)
  have hcap : d.blocksc ≤ 9223372036854775807 := by have h := hd.blocks.room.2; unfold maxLen at h; omega
  have hok := hd.blocksO b (List.mem_of_getElem? hb)
  have hcapi : b.insc ≤ 9223372036854775807 := by have h := hok.ins.room.2; unfold maxLen at h; omega
  have HBi := hide hb
  have HBO := hide hok
  have hkl : k < b.ins.length := (List.getElem?_eq_some_iff.1 hx).1
  have h0' : x.dst ≥ 0 := h0
  obtain ⟨IA, hIA⟩ : ∃ IA, b.insA = IA := ⟨_, rfl⟩
  have HIn : Hid (RdN w 8 (.slice IA b.ins.length b.insc) (b.ins.map InD.cells)) := hide (by rw [← hIA]; exact hok.ins)
  have hIA' := hide hIA
  have HXk := hide hx
  clear hx hIA
  clear hb hok
  obtain ⟨bi, hbi⟩ : ∃ bi : Int, (i : Int) = bi := ⟨_, rfl⟩
  obtain ⟨ix, hix⟩ : ∃ ix : Int, (k : Int) = ix := ⟨_, rfl⟩
  rw [hbi, hix] at hhas
  rw [hbi, hix]
  have HBI := hide hbi
  have HIX := hide hix
  clear hbi hix
  have HX := hide hd
  obtain ⟨q, hq⟩ : ∃ q, w.heap.size = q := ⟨_, rfl⟩
  obtain ⟨w1, hw1⟩ : ∃ z, (w.alloc (.cells d.cells.toArray 27)).alloc (.cells #[.int .i64 bi, .int .i64 ix] 37) = z := ⟨_, rfl⟩
  have HB : Hid (Below w.heap.size w w1) := hide (by rw [← hw1]; exact ((Below.refl _ _).alloc (Nat.le_refl _) _).alloc (by simp) _)
  have HA : Hid (Whole w1 q 27 d.cells.toArray) := hide (by rw [← hw1, ← hq]; exact (Whole.new w _ _).alloc _)
  have HP : Hid (Whole w1 (q + 1) 37 #[.int .i64 bi, .int .i64 ix]) := hide (by
    rw [← hw1, ← hq, show w.heap.size + 1 = (w.alloc (.cells d.cells.toArray 27)).heap.size by simp]; exact Whole.new _ _ _)
  have hqs : Hid (q + 2 ≤ w1.heap.size) := hide (by rw [← hw1, ← hq]; simp)
  have hQ : Hid (w.heap.size = q) := hide hq
  have hu := Try.underlying27
  have hi : (Try.prog.info? 27).map (·.size) = some 5 := by kernel_rfl
  have hi7 : (Try.prog.info? 54).map (·.size) = some 7 := by kernel_rfl
  have hi2 : (Try.prog.info? 56).map (·.size) = some 2 := by kernel_rfl
  have HU := hide hu
  have HI := hide hi
  have HU7 := hide Try.underlying54
  have HI7 := hide hi7
  have HU2 := hide Try.underlying56
  have HI2 := hide hi2
  have p0 : w1.cell? ⟨q + 1, 0, none⟩ = some (.int .i64 bi) := HP.out.cell 0
  have p1 : w1.cell? ⟨q + 1, 1, none⟩ = some (.int .i64 ix) := HP.out.cell 1
  clear hd hu hi hi7 hi2
  go_enter Try.func23, Try.ntmps23
  go_upto_region 2 with fail
  clear hw1 hq
  refine wp_region_lit ?_
  refine wpList_load_mid (by rfl) _ _ rfl q 0 (by rfl) d.cells _ HA.out.range HU.out rfl HI.out ?_
  go_step; go_step; go_step
  go_step; go_step
  refine (rin_any d bi ix _ (HX.out.below HB.out)).mono ?_
  rintro en w2 ⟨rfl, hb⟩
  rw [hhas]
  replace HA := hide (HA.out.below' hb)
  replace HP := hide (HP.out.below' hb)
  replace hqs := hide (Nat.le_trans hqs.out hb.size)
  replace HB := hide (Below.all HB.out hb)
  clear hb p0 p1 hhas
  have p0 : w2.cell? ⟨q + 1, 0, none⟩ = some (.int .i64 bi) := HP.out.cell 0
  have p1 : w2.cell? ⟨q + 1, 1, none⟩ = some (.int .i64 ix) := HP.out.cell 1
  obtain rfl := HBI.out
  obtain rfl := HIX.out
  go_upto_region 4 with fail
  have c4 : w2.cell? ⟨q, 4, none⟩ = some (.slice A d.blocks.length d.blocksc) := by rw [← hA]; exact HA.out.cell 4
  obtain ⟨bb, off, rfl, hlb, hrow⟩ := (HBl.out.below' HB.out).row (i := i) (r := b.cells) (by rw [List.getElem?_map, HBi.out]; rfl)
  have HRow : Hid (w2.rangeAt bb (off + i * 7) b.cells) := hide hrow
  have HHA := hide hA
  clear hlb hrow hA
  refine wp_region_lit ?_
  go_step; go_step; go_step
  go_step; go_step; go_step
  go_step; go_step; go_step
  go_step; go_step; go_step
  go_step; go_step; go_step
  refine wpList_load_mid (by rfl) _ _ rfl bb (off + i * 7) (by rfl) b.cells _ HRow.out HU7.out rfl HI7.out ?_
  go_step; go_step; go_step
  refine wpList_store_new (by rfl) _ _ _ rfl _ _ b.cells (by rfl) (by rfl) (by rfl) HI7.out BkD.all1' ?_
  obtain ⟨bv, hbv⟩ : ∃ bv, w2.heap.size = bv := ⟨_, rfl⟩
  rw [hbv]
  obtain ⟨w3, hw3⟩ : ∃ z, w2.alloc (.cells b.cells.toArray 54) = z := ⟨_, rfl⟩
  have b23 : Below w2.heap.size w2 w3 := by rw [← hw3]; exact (Below.refl _ _).alloc (Nat.le_refl _) _
  have HV : Hid (Whole w3 bv 54 b.cells.toArray) := hide (by rw [← hw3, ← hbv]; exact Whole.new w2 _ _)
  have hbq : Hid (q + 2 ≤ bv) := hide (by rw [← hbv]; exact hqs.out)
  rw [hw3]
  replace HP := hide (HP.out.below' b23)
  replace HB := hide (Below.all HB.out b23)
  have hbs : Hid (bv < w3.heap.size) := hide HV.out.lt
  clear hw3 b23 HRow c4 p0 p1 hbv HA
  have p1 : w3.cell? ⟨q + 1, 1, none⟩ = some (.int .i64 (k : Int)) := HP.out.cell 1
  have p0 : w3.cell? ⟨q + 1, 0, none⟩ = some (.int .i64 (i : Int)) := HP.out.cell 0
  obtain ⟨b2, off2, rfl, hlb, hrow⟩ := (HIn.out.below' HB.out).row (i := k) (r := x.cells) (by rw [List.getElem?_map, HXk.out]; rfl)
  have v1 : w3.cell? ⟨bv, 1, none⟩ = some (.slice (some ⟨b2, off2, none⟩) b.ins.length b.insc) := by rw [← hIA'.out]; exact HV.out.cell 1
  have v3 : w3.cell? ⟨b2, off2 + k * 8 + 2, none⟩ = some (.int .i64 x.dst) := hrow 2 _ rfl
  clear hlb hrow
  have hal : Below w3.heap.size w3 (w3.alloc (.cells #[.int .i64 x.dst] 3)) := (Below.refl _ _).alloc (Nat.le_refl _) _
  have HAl := hide hal
  have hs4 : w3.heap.size ≤ (w3.alloc (.cells #[.int .i64 x.dst] 3)).heap.size := hal.size
  clear hal
  go_wp2_with (refine wpList_append_rd _ rfl _ _ 22 rfl w3.heap.size 3 .i64 8 intEI _ _ rfl Own.nil _ [x.dst] rfl (rd_one _ _ _) ?b0 ?b1 hs4 ?_)
  case b0 => simp
  case b1 => unfold maxLen; simp
  rintro pv w4 ho hg hbl -
  have HR := hide ho.rd
  have HFr := hide (own_fresh ho HB.out.size)
  have HBx := hide (HB.out.trans ((HAl.out.trans hbl).mono HB.out.size))
  clear ho hg hbl p0 p1 hs4
  go_wp2_with fail
  go_ret
  exact ⟨_, rfl, HR.out, HFr.out, HBx.out⟩
set_option maxRecDepth 100000 in
set_option maxHeartbeats 4000000 in
theorem rwrites_none (d : FnD) (i k : Nat) (b : BkD) (x : InD) (w : World) (hd : d.ok w) (hhas : d.has i k = true) (hb : d.blocks[i]? = some b) (hx : b.ins[k]? = some x) (h0 : ¬ 0 ≤ x.dst) :
    Calls Try.prog 23 #[.agg d.cells.toArray, .agg #[.int .i64 (i : Int), .int .i64 (k : Int)]] w fun e w' => e = .returned (.slice none 0 0) ∧ Below w.heap.size w w' := by
  have hil : i < d.blocks.length := (List.getElem?_eq_some_iff.1 hb).1
  obtain ⟨A, hA⟩ : ∃ A, d.blocksA = A := ⟨_, rfl⟩
  have HBl : Hid (RdN w 7 (.slice A d.blocks.length d.blocksc) (d.blocks.map BkD.cells)) := hide (by rw [← hA]; exact hd.blocks)
  have hcap : d.blocksc ≤ 9223372036854775807 := by have h := hd.blocks.room.2; unfold maxLen at h; omega
  have hok := hd.blocksO b (List.mem_of_getElem? hb)
  have hcapi : b.insc ≤ 9223372036854775807 := by have h := hok.ins.room.2; unfold maxLen at h; omega
  have HBi := hide hb
  have HBO := hide hok
  have hkl : k < b.ins.length := (List.getElem?_eq_some_iff.1 hx).1
  have h0' : ¬ x.dst ≥ 0 := h0
  have h0'' : decide (0 ≤ x.dst) = false := by simpa using h0
  obtain ⟨IA, hIA⟩ : ∃ IA, b.insA = IA := ⟨_, rfl⟩
  have HIn : Hid (RdN w 8 (.slice IA b.ins.length b.insc) (b.ins.map InD.cells)) := hide (by rw [← hIA]; exact hok.ins)
  have hIA' := hide hIA
  have HXk := hide hx
  clear hx hIA
  clear hb hok
  obtain ⟨bi, hbi⟩ : ∃ bi : Int, (i : Int) = bi := ⟨_, rfl⟩
  obtain ⟨ix, hix⟩ : ∃ ix : Int, (k : Int) = ix := ⟨_, rfl⟩
  rw [hbi, hix] at hhas
  rw [hbi, hix]
  have HBI := hide hbi
  have HIX := hide hix
  clear hbi hix
  have HX := hide hd
  obtain ⟨q, hq⟩ : ∃ q, w.heap.size = q := ⟨_, rfl⟩
  obtain ⟨w1, hw1⟩ : ∃ z, (w.alloc (.cells d.cells.toArray 27)).alloc (.cells #[.int .i64 bi, .int .i64 ix] 37) = z := ⟨_, rfl⟩
  have HB : Hid (Below w.heap.size w w1) := hide (by rw [← hw1]; exact ((Below.refl _ _).alloc (Nat.le_refl _) _).alloc (by simp) _)
  have HA : Hid (Whole w1 q 27 d.cells.toArray) := hide (by rw [← hw1, ← hq]; exact (Whole.new w _ _).alloc _)
  have HP : Hid (Whole w1 (q + 1) 37 #[.int .i64 bi, .int .i64 ix]) := hide (by
    rw [← hw1, ← hq, show w.heap.size + 1 = (w.alloc (.cells d.cells.toArray 27)).heap.size by simp]; exact Whole.new _ _ _)
  have hqs : Hid (q + 2 ≤ w1.heap.size) := hide (by rw [← hw1, ← hq]; simp)
  have hQ : Hid (w.heap.size = q) := hide hq
  have hu := Try.underlying27
  have hi : (Try.prog.info? 27).map (·.size) = some 5 := by kernel_rfl
  have hi7 : (Try.prog.info? 54).map (·.size) = some 7 := by kernel_rfl
  have hi2 : (Try.prog.info? 56).map (·.size) = some 2 := by kernel_rfl
  have HU := hide hu
  have HI := hide hi
  have HU7 := hide Try.underlying54
  have HI7 := hide hi7
  have HU2 := hide Try.underlying56
  have HI2 := hide hi2
  have p0 : w1.cell? ⟨q + 1, 0, none⟩ = some (.int .i64 bi) := HP.out.cell 0
  have p1 : w1.cell? ⟨q + 1, 1, none⟩ = some (.int .i64 ix) := HP.out.cell 1
  clear hd hu hi hi7 hi2
  go_enter Try.func23, Try.ntmps23
  go_upto_region 2 with fail
  clear hw1 hq
  refine wp_region_lit ?_
  refine wpList_load_mid (by rfl) _ _ rfl q 0 (by rfl) d.cells _ HA.out.range HU.out rfl HI.out ?_
  go_step; go_step; go_step
  go_step; go_step
  refine (rin_any d bi ix _ (HX.out.below HB.out)).mono ?_
  rintro en w2 ⟨rfl, hb⟩
  rw [hhas]
  replace HA := hide (HA.out.below' hb)
  replace HP := hide (HP.out.below' hb)
  replace hqs := hide (Nat.le_trans hqs.out hb.size)
  replace HB := hide (Below.all HB.out hb)
  clear hb p0 p1 hhas
  have p0 : w2.cell? ⟨q + 1, 0, none⟩ = some (.int .i64 bi) := HP.out.cell 0
  have p1 : w2.cell? ⟨q + 1, 1, none⟩ = some (.int .i64 ix) := HP.out.cell 1
  obtain rfl := HBI.out
  obtain rfl := HIX.out
  go_upto_region 4 with fail
  have c4 : w2.cell? ⟨q, 4, none⟩ = some (.slice A d.blocks.length d.blocksc) := by rw [← hA]; exact HA.out.cell 4
  obtain ⟨bb, off, rfl, hlb, hrow⟩ := (HBl.out.below' HB.out).row (i := i) (r := b.cells) (by rw [List.getElem?_map, HBi.out]; rfl)
  have HRow : Hid (w2.rangeAt bb (off + i * 7) b.cells) := hide hrow
  have HHA := hide hA
  clear hlb hrow hA
  refine wp_region_lit ?_
  go_step; go_step; go_step
  go_step; go_step; go_step
  go_step; go_step; go_step
  go_step; go_step; go_step
  go_step; go_step; go_step
  refine wpList_load_mid (by rfl) _ _ rfl bb (off + i * 7) (by rfl) b.cells _ HRow.out HU7.out rfl HI7.out ?_
  go_step; go_step; go_step
  refine wpList_store_new (by rfl) _ _ _ rfl _ _ b.cells (by rfl) (by rfl) (by rfl) HI7.out BkD.all1' ?_
  obtain ⟨bv, hbv⟩ : ∃ bv, w2.heap.size = bv := ⟨_, rfl⟩
  rw [hbv]
  obtain ⟨w3, hw3⟩ : ∃ z, w2.alloc (.cells b.cells.toArray 54) = z := ⟨_, rfl⟩
  have b23 : Below w2.heap.size w2 w3 := by rw [← hw3]; exact (Below.refl _ _).alloc (Nat.le_refl _) _
  have HV : Hid (Whole w3 bv 54 b.cells.toArray) := hide (by rw [← hw3, ← hbv]; exact Whole.new w2 _ _)
  have hbq : Hid (q + 2 ≤ bv) := hide (by rw [← hbv]; exact hqs.out)
  rw [hw3]
  replace HP := hide (HP.out.below' b23)
  replace HB := hide (Below.all HB.out b23)
  have hbs : Hid (bv < w3.heap.size) := hide HV.out.lt
  clear hw3 b23 HRow c4 p0 p1 hbv HA
  have p1 : w3.cell? ⟨q + 1, 1, none⟩ = some (.int .i64 (k : Int)) := HP.out.cell 1
  have p0 : w3.cell? ⟨q + 1, 0, none⟩ = some (.int .i64 (i : Int)) := HP.out.cell 0
  obtain ⟨b2, off2, rfl, hlb, hrow⟩ := (HIn.out.below' HB.out).row (i := k) (r := x.cells) (by rw [List.getElem?_map, HXk.out]; rfl)
  have v1 : w3.cell? ⟨bv, 1, none⟩ = some (.slice (some ⟨b2, off2, none⟩) b.ins.length b.insc) := by rw [← hIA'.out]; exact HV.out.cell 1
  have v3 : w3.cell? ⟨b2, off2 + k * 8 + 2, none⟩ = some (.int .i64 x.dst) := hrow 2 _ rfl
  clear hlb hrow
  go_wp2_with fail
  go_ret
  exact ⟨rfl, HB.out⟩
set_option maxRecDepth 100000 in
set_option maxHeartbeats 4000000 in
theorem rwrites_term (d : FnD) (i : Nat) (b : BkD) (w : World) (hd : d.ok w) (hhas : d.has i (b.ins.length : Nat) = true) (hb : d.blocks[i]? = some b) :
    Calls Try.prog 23 #[.agg d.cells.toArray, .agg #[.int .i64 (i : Int), .int .i64 (b.ins.length : Int)]] w fun e w' => e = .returned (.slice none 0 0) ∧ Below w.heap.size w w' := by
  have hil : i < d.blocks.length := (List.getElem?_eq_some_iff.1 hb).1
  obtain ⟨A, hA⟩ : ∃ A, d.blocksA = A := ⟨_, rfl⟩
  have HBl : Hid (RdN w 7 (.slice A d.blocks.length d.blocksc) (d.blocks.map BkD.cells)) := hide (by rw [← hA]; exact hd.blocks)
  have hcap : d.blocksc ≤ 9223372036854775807 := by have h := hd.blocks.room.2; unfold maxLen at h; omega
  have hok := hd.blocksO b (List.mem_of_getElem? hb)
  have hcapi : b.insc ≤ 9223372036854775807 := by have h := hok.ins.room.2; unfold maxLen at h; omega
  have HBi := hide hb
  have HBO := hide hok
  clear hb hok
  obtain ⟨bi, hbi⟩ : ∃ bi : Int, (i : Int) = bi := ⟨_, rfl⟩
  obtain ⟨ix, hix⟩ : ∃ ix : Int, (b.ins.length : Int) = ix := ⟨_, rfl⟩
  rw [hbi, hix] at hhas
  rw [hbi, hix]
  have HBI := hide hbi
  have HIX := hide hix
  clear hbi hix
  have HX := hide hd
  obtain ⟨q, hq⟩ : ∃ q, w.heap.size = q := ⟨_, rfl⟩
  obtain ⟨w1, hw1⟩ : ∃ z, (w.alloc (.cells d.cells.toArray 27)).alloc (.cells #[.int .i64 bi, .int .i64 ix] 37) = z := ⟨_, rfl⟩
  have HB : Hid (Below w.heap.size w w1) := hide (by rw [← hw1]; exact ((Below.refl _ _).alloc (Nat.le_refl _) _).alloc (by simp) _)
  have HA : Hid (Whole w1 q 27 d.cells.toArray) := hide (by rw [← hw1, ← hq]; exact (Whole.new w _ _).alloc _)
  have HP : Hid (Whole w1 (q + 1) 37 #[.int .i64 bi, .int .i64 ix]) := hide (by
    rw [← hw1, ← hq, show w.heap.size + 1 = (w.alloc (.cells d.cells.toArray 27)).heap.size by simp]; exact Whole.new _ _ _)
  have hqs : Hid (q + 2 ≤ w1.heap.size) := hide (by rw [← hw1, ← hq]; simp)
  have hQ : Hid (w.heap.size = q) := hide hq
  have hu := Try.underlying27
  have hi : (Try.prog.info? 27).map (·.size) = some 5 := by kernel_rfl
  have hi7 : (Try.prog.info? 54).map (·.size) = some 7 := by kernel_rfl
  have hi2 : (Try.prog.info? 56).map (·.size) = some 2 := by kernel_rfl
  have HU := hide hu
  have HI := hide hi
  have HU7 := hide Try.underlying54
  have HI7 := hide hi7
  have HU2 := hide Try.underlying56
  have HI2 := hide hi2
  have p0 : w1.cell? ⟨q + 1, 0, none⟩ = some (.int .i64 bi) := HP.out.cell 0
  have p1 : w1.cell? ⟨q + 1, 1, none⟩ = some (.int .i64 ix) := HP.out.cell 1
  clear hd hu hi hi7 hi2
  go_enter Try.func23, Try.ntmps23
  go_upto_region 2 with fail
  clear hw1 hq
  refine wp_region_lit ?_
  refine wpList_load_mid (by rfl) _ _ rfl q 0 (by rfl) d.cells _ HA.out.range HU.out rfl HI.out ?_
  go_step; go_step; go_step
  go_step; go_step
  refine (rin_any d bi ix _ (HX.out.below HB.out)).mono ?_
  rintro en w2 ⟨rfl, hb⟩
  rw [hhas]
  replace HA := hide (HA.out.below' hb)
  replace HP := hide (HP.out.below' hb)
  replace hqs := hide (Nat.le_trans hqs.out hb.size)
  replace HB := hide (Below.all HB.out hb)
  clear hb p0 p1 hhas
  have p0 : w2.cell? ⟨q + 1, 0, none⟩ = some (.int .i64 bi) := HP.out.cell 0
  have p1 : w2.cell? ⟨q + 1, 1, none⟩ = some (.int .i64 ix) := HP.out.cell 1
  obtain rfl := HBI.out
  obtain rfl := HIX.out
  go_upto_region 4 with fail
  have c4 : w2.cell? ⟨q, 4, none⟩ = some (.slice A d.blocks.length d.blocksc) := by rw [← hA]; exact HA.out.cell 4
  obtain ⟨bb, off, rfl, hlb, hrow⟩ := (HBl.out.below' HB.out).row (i := i) (r := b.cells) (by rw [List.getElem?_map, HBi.out]; rfl)
  have HRow : Hid (w2.rangeAt bb (off + i * 7) b.cells) := hide hrow
  have HHA := hide hA
  clear hlb hrow hA
  refine wp_region_lit ?_
  go_step; go_step; go_step
  go_step; go_step; go_step
  go_step; go_step; go_step
  go_step; go_step; go_step
  go_step; go_step; go_step
  refine wpList_load_mid (by rfl) _ _ rfl bb (off + i * 7) (by rfl) b.cells _ HRow.out HU7.out rfl HI7.out ?_
  go_step; go_step; go_step
  refine wpList_store_new (by rfl) _ _ _ rfl _ _ b.cells (by rfl) (by rfl) (by rfl) HI7.out BkD.all1' ?_
  obtain ⟨bv, hbv⟩ : ∃ bv, w2.heap.size = bv := ⟨_, rfl⟩
  rw [hbv]
  obtain ⟨w3, hw3⟩ : ∃ z, w2.alloc (.cells b.cells.toArray 54) = z := ⟨_, rfl⟩
  have b23 : Below w2.heap.size w2 w3 := by rw [← hw3]; exact (Below.refl _ _).alloc (Nat.le_refl _) _
  have HV : Hid (Whole w3 bv 54 b.cells.toArray) := hide (by rw [← hw3, ← hbv]; exact Whole.new w2 _ _)
  have hbq : Hid (q + 2 ≤ bv) := hide (by rw [← hbv]; exact hqs.out)
  rw [hw3]
  replace HP := hide (HP.out.below' b23)
  replace HB := hide (Below.all HB.out b23)
  have hbs : Hid (bv < w3.heap.size) := hide HV.out.lt
  clear hw3 b23 HRow c4 p0 p1 hbv HA
  have p1 : w3.cell? ⟨q + 1, 1, none⟩ = some (.int .i64 (b.ins.length : Int)) := HP.out.cell 1
  have p0 : w3.cell? ⟨q + 1, 0, none⟩ = some (.int .i64 (i : Int)) := HP.out.cell 0
  have v1 : w3.cell? ⟨bv, 1, none⟩ = some (.slice b.insA b.ins.length b.insc) := HV.out.cell 1
  go_wp2_with fail
  go_ret
  exact ⟨rfl, HB.out⟩
theorem rwrites_any (d : FnD) (bi ix : Int) (w : World) (hd : d.ok w) (hf : ∀ b ∈ d.blocks, d.params.length + b.params.length ≤ 17592186044416) :
    Calls Try.prog 23 #[.agg d.cells.toArray, .agg #[.int .i64 bi, .int .i64 ix]] w fun e w' => ∃ v, e = .returned v ∧ Rd w' .i64 v (d.writes bi ix) ∧ Fresh v w.heap.size ∧ Below w.heap.size w w' := by
  cases hhas : d.has bi ix with
  | false =>
    have e0 : d.writes bi ix = [] := by unfold FnD.writes; rw [if_neg (by rw [hhas]; simp)]
    rw [e0]
    exact (rwrites_no d bi ix w hd hhas).mono fun e w' ⟨h1, h2⟩ => ⟨_, h1, Rd.nil, fresh_nil _, h2⟩
  | true =>
    obtain ⟨i, b, rfl, hb, h1, h2⟩ := FnD.has_at hhas
    have e0 : d.writes i ix = (if ix < 0 ∧ (i : Int) = 0 then d.params else []) ++ b.writes ix := by
      unfold FnD.writes
      rw [if_pos hhas, Int.toNat_natCast, hb]
    rw [e0]
    by_cases h0 : ix < 0
    · obtain rfl : ix = -1 := by omega
      have e1 : b.writes (-1) = b.params := by unfold BkD.writes; rw [if_pos (by omega)]
      rw [e1]
      by_cases hi : (i : Int) = 0
      · rw [if_pos ⟨by omega, hi⟩]
        exact rwrites_first d i b w hd hhas hb hi (hf b (List.mem_of_getElem? hb))
      · rw [if_neg (fun h => hi h.2), List.nil_append]
        exact rwrites_head d i b w hd hhas hb hi
    · rw [if_neg (fun h => h0 h.1), List.nil_append]
      obtain ⟨k, rfl⟩ : ∃ k : Nat, ix = k := ⟨ix.toNat, by omega⟩
      unfold BkD.writes
      rw [if_neg h0, Int.toNat_natCast]
      cases hx : b.ins[k]? with
      | some x =>
        by_cases hd0 : 0 ≤ x.dst
        · simp only [if_pos hd0]
          exact rwrites_dst d i k b x w hd hhas hb hx hd0
        · simp only [if_neg hd0]
          exact (rwrites_none d i k b x w hd hhas hb hx hd0).mono fun e w' ⟨h1, h2⟩ => ⟨_, h1, Rd.nil, fresh_nil _, h2⟩
      | none =>
        have hk : k = b.ins.length := by have := List.getElem?_eq_none_iff.1 hx; omega
        subst hk
        exact (rwrites_term d i b w hd hhas hb).mono fun e w' ⟨h1, h2⟩ => ⟨_, h1, Rd.nil, fresh_nil _, h2⟩
end Go.Proofs.Ythnehmfdadgklaa

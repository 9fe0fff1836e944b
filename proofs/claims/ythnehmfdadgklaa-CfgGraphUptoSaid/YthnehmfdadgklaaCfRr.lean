/-
  Layer 20 (cfg): the reference's Reads.
-/
import Derived.Test.YthnehmfdadgklaaCfRi
namespace Go.Proofs.Ythnehmfdadgklaa
open Go.RowKit Go.Deep

theorem own_fresh {w : World} {base B : Nat} {e : TypeId} {k : IntKind} {v : Value} {l : List Int} (h : Own w base e k v l) (hB : B ≤ base) : Fresh v B := fun A n c e1 b hb => by
  subst e1
  rcases Nat.eq_zero_or_pos n with h0 | h0
  · subst h0
    cases A <;> simp [slB] at hb
  · have hl : n = l.length := by
      obtain ⟨_, _, e2, _⟩ := h.rd
      injection e2
    obtain ⟨g, cap, e2, _, _, h3, _⟩ := h.form (by omega)
    injection e2 with e2 _ _
    subst e2
    simp only [slB] at hb
    split at hb
    · cases hb
    · rw [List.mem_singleton.1 hb]
      show B ≤ g
      omega
set_option maxRecDepth 100000 in
set_option maxHeartbeats 2000000 in
theorem rreads_no (d : FnD) (bi ix : Int) (w : World) (hd : d.ok w) (hhas : d.has bi ix = false) :
    Calls Try.prog 21 #[.agg d.cells.toArray, .agg #[.int .i64 bi, .int .i64 ix]] w fun e w' => e = .returned (.slice none 0 0) ∧ Below w.heap.size w w' := by
  have HX := hide hd
  obtain ⟨q, hq⟩ : ∃ q, w.heap.size = q := ⟨_, rfl⟩
  obtain ⟨w1, hw1⟩ : ∃ z, (w.alloc (.cells d.cells.toArray 27)).alloc (.cells #[.int .i64 bi, .int .i64 ix] 37) = z := ⟨_, rfl⟩
  have HB : Hid (Below w.heap.size w w1) := hide (by rw [← hw1]; exact ((Below.refl _ _).alloc (Nat.le_refl _) _).alloc (by simp) _)
  have HA : Hid (Whole w1 q 27 d.cells.toArray) := hide (by rw [← hw1, ← hq]; exact (Whole.new w _ _).alloc _)
  have HP : Hid (Whole w1 (q + 1) 37 #[.int .i64 bi, .int .i64 ix]) := hide (by
    rw [← hw1, ← hq, show w.heap.size + 1 = (w.alloc (.cells d.cells.toArray 27)).heap.size by simp]; exact Whole.new _ _ _)
  have hqs : Hid (q + 2 ≤ w1.heap.size) := hide (by rw [← hw1, ← hq]; simp)
  have hQ : Hid (w.heap.size = q) := hide hq
  have hu := Try.underlying27
  have hi : (Try.prog.info? 27).map (·.size) = some 5 := by kernel_rfl
  have hi7 : (Try.prog.info? 54).map (·.size) = some 7 := by kernel_rfl
  have hi2 : (Try.prog.info? 56).map (·.size) = some 2 := by kernel_rfl
  have HU := hide hu
  have HI := hide hi
  have HU7 := hide Try.underlying54
  have HI7 := hide hi7
  have HU2 := hide Try.underlying56
  have HI2 := hide hi2
  have p0 : w1.cell? ⟨q + 1, 0, none⟩ = some (.int .i64 bi) := HP.out.cell 0
  have p1 : w1.cell? ⟨q + 1, 1, none⟩ = some (.int .i64 ix) := HP.out.cell 1
  clear hd hu hi hi7 hi2
  go_enter Try.func21, Try.ntmps21
  go_upto_region 2 with fail
  clear hw1 hq
  refine wp_region_lit ?_
  refine wpList_load_mid (by rfl) _ _ rfl q 0 (by rfl) d.cells _ HA.out.range HU.out rfl HI.out ?_
  go_step; go_step; go_step
  go_step; go_step
  refine (rin_any d bi ix _ (HX.out.below HB.out)).mono ?_
  rintro en w2 ⟨rfl, hb⟩
  rw [hhas]
  replace HA := hide (HA.out.below' hb)
  replace HP := hide (HP.out.below' hb)
  replace hqs := hide (Nat.le_trans hqs.out hb.size)
  replace HB := hide (Below.all HB.out hb)
  clear hb p0 p1
  have p0 : w2.cell? ⟨q + 1, 0, none⟩ = some (.int .i64 bi) := HP.out.cell 0
  have p1 : w2.cell? ⟨q + 1, 1, none⟩ = some (.int .i64 ix) := HP.out.cell 1
  go_wp2_with fail
  go_ret
  exact ⟨rfl, HB.out⟩
set_option maxRecDepth 100000 in
set_option maxHeartbeats 2000000 in
theorem rreads_neg (d : FnD) (bi ix : Int) (w : World) (hd : d.ok w) (hhas : d.has bi ix = true) (h0 : ix < 0) :
    Calls Try.prog 21 #[.agg d.cells.toArray, .agg #[.int .i64 bi, .int .i64 ix]] w fun e w' => e = .returned (.slice none 0 0) ∧ Below w.heap.size w w' := by
  have HX := hide hd
  obtain ⟨q, hq⟩ : ∃ q, w.heap.size = q := ⟨_, rfl⟩
  obtain ⟨w1, hw1⟩ : ∃ z, (w.alloc (.cells d.cells.toArray 27)).alloc (.cells #[.int .i64 bi, .int .i64 ix] 37) = z := ⟨_, rfl⟩
  have HB : Hid (Below w.heap.size w w1) := hide (by rw [← hw1]; exact ((Below.refl _ _).alloc (Nat.le_refl _) _).alloc (by simp) _)
  have HA : Hid (Whole w1 q 27 d.cells.toArray) := hide (by rw [← hw1, ← hq]; exact (Whole.new w _ _).alloc _)
  have HP : Hid (Whole w1 (q + 1) 37 #[.int .i64 bi, .int .i64 ix]) := hide (by
    rw [← hw1, ← hq, show w.heap.size + 1 = (w.alloc (.cells d.cells.toArray 27)).heap.size by simp]; exact Whole.new _ _ _)
  have hqs : Hid (q + 2 ≤ w1.heap.size) := hide (by rw [← hw1, ← hq]; simp)
  have hQ : Hid (w.heap.size = q) := hide hq
  have hu := Try.underlying27
  have hi : (Try.prog.info? 27).map (·.size) = some 5 := by kernel_rfl
  have hi7 : (Try.prog.info? 54).map (·.size) = some 7 := by kernel_rfl
  have hi2 : (Try.prog.info? 56).map (·.size) = some 2 := by kernel_rfl
  have HU := hide hu
  have HI := hide hi
  have HU7 := hide Try.underlying54
  have HI7 := hide hi7
  have HU2 := hide Try.underlying56
  have HI2 := hide hi2
  have p0 : w1.cell? ⟨q + 1, 0, none⟩ = some (.int .i64 bi) := HP.out.cell 0
  have p1 : w1.cell? ⟨q + 1, 1, none⟩ = some (.int .i64 ix) := HP.out.cell 1
  clear hd hu hi hi7 hi2
  go_enter Try.func21, Try.ntmps21
  go_upto_region 2 with fail
  clear hw1 hq
  refine wp_region_lit ?_
  refine wpList_load_mid (by rfl) _ _ rfl q 0 (by rfl) d.cells _ HA.out.range HU.out rfl HI.out ?_
  go_step; go_step; go_step
  go_step; go_step
  refine (rin_any d bi ix _ (HX.out.below HB.out)).mono ?_
  rintro en w2 ⟨rfl, hb⟩
  rw [hhas]
  replace HA := hide (HA.out.below' hb)
  replace HP := hide (HP.out.below' hb)
  replace hqs := hide (Nat.le_trans hqs.out hb.size)
  replace HB := hide (Below.all HB.out hb)
  clear hb p0 p1
  have p0 : w2.cell? ⟨q + 1, 0, none⟩ = some (.int .i64 bi) := HP.out.cell 0
  have p1 : w2.cell? ⟨q + 1, 1, none⟩ = some (.int .i64 ix) := HP.out.cell 1
  go_wp2_with fail
  go_ret
  exact ⟨rfl, HB.out⟩
set_option maxRecDepth 100000 in
set_option maxHeartbeats 4000000 in
theorem rreads_ins (d : FnD) (i k : Nat) (b : BkD) (x : InD) (w : World) (hd : d.ok w) (hhas : d.has i k = true) (hb : d.blocks[i]? = some b) (hx : b.ins[k]? = some x) :
    Calls Try.prog 21 #[.agg d.cells.toArray, .agg #[.int .i64 (i : Int), .int .i64 (k : Int)]] w fun e w' => ∃ v, e = .returned v ∧ Rd w' .i64 v x.args ∧ Fresh v w.heap.size ∧ Below w.heap.size w w' := by
  have hil : i < d.blocks.length := (List.getElem?_eq_some_iff.1 hb).1
  have hkl : k < b.ins.length := (List.getElem?_eq_some_iff.1 hx).1
  obtain ⟨A, hA⟩ : ∃ A, d.blocksA = A := ⟨_, rfl⟩
  have HBl : Hid (RdN w 7 (.slice A d.blocks.length d.blocksc) (d.blocks.map BkD.cells)) := hide (by rw [← hA]; exact hd.blocks)
  have hcap : d.blocksc ≤ 9223372036854775807 := by have h := hd.blocks.room.2; unfold maxLen at h; omega
  have hcapi : b.insc ≤ 9223372036854775807 := by have h := (hd.blocksO b (List.mem_of_getElem? hb)).ins.room.2; unfold maxLen at h; omega
  have HBi := hide hb
  have HXk := hide hx
  obtain ⟨IA, hIA⟩ : ∃ IA, b.insA = IA := ⟨_, rfl⟩
  have HIn : Hid (RdN w 8 (.slice IA b.ins.length b.insc) (b.ins.map InD.cells)) := hide (by rw [← hIA]; exact (hd.blocksO b (List.mem_of_getElem? hb)).ins)
  have HXO : Hid (x.ok w) := hide ((hd.blocksO b (List.mem_of_getElem? hb)).insO x (List.mem_of_getElem? hx))
  have hIA' := hide hIA
  clear hb hx hIA
  obtain ⟨bi, hbi⟩ : ∃ bi : Int, (i : Int) = bi := ⟨_, rfl⟩
  obtain ⟨ix, hix⟩ : ∃ ix : Int, (k : Int) = ix := ⟨_, rfl⟩
  rw [hbi, hix] at hhas
  rw [hbi, hix]
  have HBI := hide hbi
  have HIX := hide hix
  have h0 : ix ≥ 0 := by omega
  have h0' : decide (ix < 0) = false := by simp; omega
  clear hbi hix
  have HX := hide hd
  obtain ⟨q, hq⟩ : ∃ q, w.heap.size = q := ⟨_, rfl⟩
  obtain ⟨w1, hw1⟩ : ∃ z, (w.alloc (.cells d.cells.toArray 27)).alloc (.cells #[.int .i64 bi, .int .i64 ix] 37) = z := ⟨_, rfl⟩
  have HB : Hid (Below w.heap.size w w1) := hide (by rw [← hw1]; exact ((Below.refl _ _).alloc (Nat.le_refl _) _).alloc (by simp) _)
  have HA : Hid (Whole w1 q 27 d.cells.toArray) := hide (by rw [← hw1, ← hq]; exact (Whole.new w _ _).alloc _)
  have HP : Hid (Whole w1 (q + 1) 37 #[.int .i64 bi, .int .i64 ix]) := hide (by
    rw [← hw1, ← hq, show w.heap.size + 1 = (w.alloc (.cells d.cells.toArray 27)).heap.size by simp]; exact Whole.new _ _ _)
  have hqs : Hid (q + 2 ≤ w1.heap.size) := hide (by rw [← hw1, ← hq]; simp)
  have hQ : Hid (w.heap.size = q) := hide hq
  have hu := Try.underlying27
  have hi : (Try.prog.info? 27).map (·.size) = some 5 := by kernel_rfl
  have hi7 : (Try.prog.info? 54).map (·.size) = some 7 := by kernel_rfl
  have hi2 : (Try.prog.info? 56).map (·.size) = some 2 := by kernel_rfl
  have HU := hide hu
  have HI := hide hi
  have HU7 := hide Try.underlying54
  have HI7 := hide hi7
  have HU2 := hide Try.underlying56
  have HI2 := hide hi2
  have p0 : w1.cell? ⟨q + 1, 0, none⟩ = some (.int .i64 bi) := HP.out.cell 0
  have p1 : w1.cell? ⟨q + 1, 1, none⟩ = some (.int .i64 ix) := HP.out.cell 1
  clear hd hu hi hi7 hi2
  go_enter Try.func21, Try.ntmps21
  go_upto_region 2 with fail
  clear hw1 hq
  refine wp_region_lit ?_
  refine wpList_load_mid (by rfl) _ _ rfl q 0 (by rfl) d.cells _ HA.out.range HU.out rfl HI.out ?_
  go_step; go_step; go_step
  go_step; go_step
  refine (rin_any d bi ix _ (HX.out.below HB.out)).mono ?_
  rintro en w2 ⟨rfl, hb⟩
  rw [hhas]
  replace HA := hide (HA.out.below' hb)
  replace HP := hide (HP.out.below' hb)
  replace hqs := hide (Nat.le_trans hqs.out hb.size)
  replace HB := hide (Below.all HB.out hb)
  clear hb p0 p1 hhas
  have p0 : w2.cell? ⟨q + 1, 0, none⟩ = some (.int .i64 bi) := HP.out.cell 0
  have p1 : w2.cell? ⟨q + 1, 1, none⟩ = some (.int .i64 ix) := HP.out.cell 1
  obtain rfl := HBI.out
  obtain rfl := HIX.out
  go_upto_region 4 with fail
  have c4 : w2.cell? ⟨q, 4, none⟩ = some (.slice A d.blocks.length d.blocksc) := by rw [← hA]; exact HA.out.cell 4
  obtain ⟨bb, off, rfl, hlb, hrow⟩ := (HBl.out.below' HB.out).row (i := i) (r := b.cells) (by rw [List.getElem?_map, HBi.out]; rfl)
  have HRow : Hid (w2.rangeAt bb (off + i * 7) b.cells) := hide hrow
  have HHA := hide hA
  clear hlb hrow hA
  refine wp_region_lit ?_
  go_step; go_step; go_step
  go_step; go_step; go_step
  go_step; go_step; go_step
  go_step; go_step; go_step
  go_step; go_step; go_step
  refine wpList_load_mid (by rfl) _ _ rfl bb (off + i * 7) (by rfl) b.cells _ HRow.out HU7.out rfl HI7.out ?_
  go_step; go_step; go_step
  refine wpList_store_new (by rfl) _ _ _ rfl _ _ b.cells (by rfl) (by rfl) (by rfl) HI7.out BkD.all1' ?_
  obtain ⟨bv, hbv⟩ : ∃ bv, w2.heap.size = bv := ⟨_, rfl⟩
  rw [hbv]
  obtain ⟨w3, hw3⟩ : ∃ z, w2.alloc (.cells b.cells.toArray 54) = z := ⟨_, rfl⟩
  have b23 : Below w2.heap.size w2 w3 := by rw [← hw3]; exact (Below.refl _ _).alloc (Nat.le_refl _) _
  have HV : Hid (Whole w3 bv 54 b.cells.toArray) := hide (by rw [← hw3, ← hbv]; exact Whole.new w2 _ _)
  have hbq : Hid (q + 2 ≤ bv) := hide (by rw [← hbv]; exact hqs.out)
  rw [hw3]
  replace HP := hide (HP.out.below' b23)
  replace HB := hide (Below.all HB.out b23)
  have hbs : Hid (bv < w3.heap.size) := hide HV.out.lt
  clear hw3 b23 HRow c4 p0 p1 hbv HA
  have p1 : w3.cell? ⟨q + 1, 1, none⟩ = some (.int .i64 (k : Int)) := HP.out.cell 1
  have p0 : w3.cell? ⟨q + 1, 0, none⟩ = some (.int .i64 (i : Int)) := HP.out.cell 0
  obtain ⟨b2, off2, rfl, hlb, hrow⟩ := (HIn.out.below' HB.out).row (i := k) (r := x.cells) (by rw [List.getElem?_map, HXk.out]; rfl)
  have v1 : w3.cell? ⟨bv, 1, none⟩ = some (.slice (some ⟨b2, off2, none⟩) b.ins.length b.insc) := by rw [← hIA'.out]; exact HV.out.cell 1
  have v3 : w3.cell? ⟨b2, off2 + k * 8 + 3, none⟩ = some (.slice x.argsA x.args.length x.argsc) := hrow 3 _ rfl
  clear hlb hrow
  have HArg := hide (HXO.out.args.below' HB.out)
  have HAl : Hid (x.args.length ≤ 17592186044416) := hide (by have h7 := HXO.out.argsB; unfold Fits at h7; omega)
  go_wp2_with (refine wpList_append_rd _ rfl _ _ 22 rfl w3.heap.size 3 .i64 8 intEI _ _ rfl Own.nil _ x.args rfl HArg.out ?b0 ?b1 (Nat.le_refl _) ?_)
  case b0 => have := HAl.out; simp; omega
  case b1 => have := HAl.out; unfold maxLen; simp; omega
  rintro v' w' ho hg hbl -
  have HR := hide ho.rd
  have HFr := hide (own_fresh ho HB.out.size)
  have HBx := hide (HB.out.trans ((show Below w3.heap.size w3 w' from hbl).mono HB.out.size))
  clear ho hg hbl
  go_wp2_with fail
  go_ret
  exact ⟨_, rfl, HR.out, HFr.out, HBx.out⟩
set_option maxRecDepth 100000 in
set_option maxHeartbeats 4000000 in
theorem rreads_term (d : FnD) (i : Nat) (b : BkD) (w : World) (hd : d.ok w) (hhas : d.has i (b.ins.length : Nat) = true) (hb : d.blocks[i]? = some b) (hf : b.fits) :
    Calls Try.prog 21 #[.agg d.cells.toArray, .agg #[.int .i64 (i : Int), .int .i64 (b.ins.length : Int)]] w fun e w' => ∃ v, e = .returned v ∧ Rd w' .i64 v (b.term.args ++ b.term.succs.flatMap EdD.args) ∧ Fresh v w.heap.size ∧ Below w.heap.size w w' := by
  have hil : i < d.blocks.length := (List.getElem?_eq_some_iff.1 hb).1
  obtain ⟨A, hA⟩ : ∃ A, d.blocksA = A := ⟨_, rfl⟩
  have HBl : Hid (RdN w 7 (.slice A d.blocks.length d.blocksc) (d.blocks.map BkD.cells)) := hide (by rw [← hA]; exact hd.blocks)
  have hcap : d.blocksc ≤ 9223372036854775807 := by have h := hd.blocks.room.2; unfold maxLen at h; omega
  have hok := hd.blocksO b (List.mem_of_getElem? hb)
  have hcaps : b.term.succsc ≤ 9223372036854775807 := by have h := hok.term.succs.room.2; unfold maxLen at h; omega
  have hsl : b.term.succs.length ≤ 17592186044416 := hok.term.succsB
  have HBi := hide hb
  have HFi := hide hf
  obtain ⟨SA, hSA⟩ : ∃ SA, b.term.succsA = SA := ⟨_, rfl⟩
  have HSu : Hid (RdN w 2 (.slice SA b.term.succs.length b.term.succsc) (b.term.succs.map EdD.cells)) := hide (by rw [← hSA]; exact hok.term.succs)
  have hSA' := hide hSA
  have HTo := hide hok.term
  clear hb hSA hok hf
  obtain ⟨bi, hbi⟩ : ∃ bi : Int, (i : Int) = bi := ⟨_, rfl⟩
  obtain ⟨ix, hix⟩ : ∃ ix : Int, (b.ins.length : Int) = ix := ⟨_, rfl⟩
  rw [hbi, hix] at hhas
  rw [hbi, hix]
  have HBI := hide hbi
  have HIX := hide hix
  have h0 : ix ≥ 0 := by omega
  have h0' : decide (ix < 0) = false := by simp; omega
  clear hbi hix
  have HX := hide hd
  obtain ⟨q, hq⟩ : ∃ q, w.heap.size = q := ⟨_, rfl⟩
  obtain ⟨w1, hw1⟩ : ∃ z, (w.alloc (.cells d.cells.toArray 27)).alloc (.cells #[.int .i64 bi, .int .i64 ix] 37) = z := ⟨_, rfl⟩
  have HB : Hid (Below w.heap.size w w1) := hide (by rw [← hw1]; exact ((Below.refl _ _).alloc (Nat.le_refl _) _).alloc (by simp) _)
  have HA : Hid (Whole w1 q 27 d.cells.toArray) := hide (by rw [← hw1, ← hq]; exact (Whole.new w _ _).alloc _)
  have HP : Hid (Whole w1 (q + 1) 37 #[.int .i64 bi, .int .i64 ix]) := hide (by
    rw [← hw1, ← hq, show w.heap.size + 1 = (w.alloc (.cells d.cells.toArray 27)).heap.size by simp]; exact Whole.new _ _ _)
  have hqs : Hid (q + 2 ≤ w1.heap.size) := hide (by rw [← hw1, ← hq]; simp)
  have hQ : Hid (w.heap.size = q) := hide hq
  have hu := Try.underlying27
  have hi : (Try.prog.info? 27).map (·.size) = some 5 := by kernel_rfl
  have hi7 : (Try.prog.info? 54).map (·.size) = some 7 := by kernel_rfl
  have hi2 : (Try.prog.info? 56).map (·.size) = some 2 := by kernel_rfl
  have HU := hide hu
  have HI := hide hi
  have HU7 := hide Try.underlying54
  have HI7 := hide hi7
  have HU2 := hide Try.underlying56
  have HI2 := hide hi2
  have p0 : w1.cell? ⟨q + 1, 0, none⟩ = some (.int .i64 bi) := HP.out.cell 0
  have p1 : w1.cell? ⟨q + 1, 1, none⟩ = some (.int .i64 ix) := HP.out.cell 1
  clear hd hu hi hi7 hi2
  go_enter Try.func21, Try.ntmps21
  go_upto_region 2 with fail
  clear hw1 hq
  refine wp_region_lit ?_
  refine wpList_load_mid (by rfl) _ _ rfl q 0 (by rfl) d.cells _ HA.out.range HU.out rfl HI.out ?_
  go_step; go_step; go_step
  go_step; go_step
  refine (rin_any d bi ix _ (HX.out.below HB.out)).mono ?_
  rintro en w2 ⟨rfl, hb⟩
  rw [hhas]
  replace HA := hide (HA.out.below' hb)
  replace HP := hide (HP.out.below' hb)
  replace hqs := hide (Nat.le_trans hqs.out hb.size)
  replace HB := hide (Below.all HB.out hb)
  clear hb p0 p1 hhas
  have p0 : w2.cell? ⟨q + 1, 0, none⟩ = some (.int .i64 bi) := HP.out.cell 0
  have p1 : w2.cell? ⟨q + 1, 1, none⟩ = some (.int .i64 ix) := HP.out.cell 1
  obtain rfl := HBI.out
  obtain rfl := HIX.out
  go_upto_region 4 with fail
  have c4 : w2.cell? ⟨q, 4, none⟩ = some (.slice A d.blocks.length d.blocksc) := by rw [← hA]; exact HA.out.cell 4
  obtain ⟨bb, off, rfl, hlb, hrow⟩ := (HBl.out.below' HB.out).row (i := i) (r := b.cells) (by rw [List.getElem?_map, HBi.out]; rfl)
  have HRow : Hid (w2.rangeAt bb (off + i * 7) b.cells) := hide hrow
  have HHA := hide hA
  clear hlb hrow hA
  refine wp_region_lit ?_
  go_step; go_step; go_step
  go_step; go_step; go_step
  go_step; go_step; go_step
  go_step; go_step; go_step
  go_step; go_step; go_step
  refine wpList_load_mid (by rfl) _ _ rfl bb (off + i * 7) (by rfl) b.cells _ HRow.out HU7.out rfl HI7.out ?_
  go_step; go_step; go_step
  refine wpList_store_new (by rfl) _ _ _ rfl _ _ b.cells (by rfl) (by rfl) (by rfl) HI7.out BkD.all1' ?_
  obtain ⟨bv, hbv⟩ : ∃ bv, w2.heap.size = bv := ⟨_, rfl⟩
  rw [hbv]
  obtain ⟨w3, hw3⟩ : ∃ z, w2.alloc (.cells b.cells.toArray 54) = z := ⟨_, rfl⟩
  have b23 : Below w2.heap.size w2 w3 := by rw [← hw3]; exact (Below.refl _ _).alloc (Nat.le_refl _) _
  have HV : Hid (Whole w3 bv 54 b.cells.toArray) := hide (by rw [← hw3, ← hbv]; exact Whole.new w2 _ _)
  have hbq : Hid (q + 2 ≤ bv) := hide (by rw [← hbv]; exact hqs.out)
  rw [hw3]
  replace HP := hide (HP.out.below' b23)
  replace HB := hide (Below.all HB.out b23)
  have hbs : Hid (bv < w3.heap.size) := hide HV.out.lt
  clear hw3 b23 HRow c4 p0 p1 hbv HA
  have p1 : w3.cell? ⟨q + 1, 1, none⟩ = some (.int .i64 (b.ins.length : Int)) := HP.out.cell 1
  have p0 : w3.cell? ⟨q + 1, 0, none⟩ = some (.int .i64 (i : Int)) := HP.out.cell 0
  have v1 : w3.cell? ⟨bv, 1, none⟩ = some (.slice b.insA b.ins.length b.insc) := HV.out.cell 1
  have v5 : w3.cell? ⟨bv, 5, none⟩ = some (.slice SA b.term.succs.length b.term.succsc) := by rw [← hSA'.out]; exact HV.out.cell 5
  have v3 : w3.cell? ⟨bv, 3, none⟩ = some (.slice b.term.argsA b.term.args.length b.term.argsc) := HV.out.cell 3
  have HArg := hide (HTo.out.args.below' HB.out)
  have HAl : Hid (b.term.args.length ≤ 17592186044416) := hide (by have h7 := HFi.out; unfold BkD.fits at h7; omega)
  go_wp2_with (refine wpList_append_rd _ rfl _ _ 22 rfl w3.heap.size 3 .i64 8 intEI _ _ rfl Own.nil _ b.term.args rfl HArg.out ?b0 ?b1 (Nat.le_refl _) ?_)
  case b0 => have := HAl.out; simp; omega
  case b1 => have := HAl.out; unfold maxLen; simp; omega
  rintro pv w4 ho hg hbl -
  have HO4 : Hid (Own w4 w3.heap.size 3 .i64 pv (b.term.args ++ (b.term.succs.take 0).flatMap EdD.args)) := hide (by simpa using ho)
  have HB4 : Hid (Below w3.heap.size w3 w4) := hide hbl
  have v5' : w4.cell? ⟨bv, 5, none⟩ = some (.slice SA b.term.succs.length b.term.succsc) := (HB4.out.cell (p := ⟨bv, 5, none⟩) hbs.out).trans v5
  clear ho hg hbl v1 v5 v3 p0 p1
  go_wp2_with fail
  clear v5'
  go_loopw [5, 49] (fun p z wr => ∃ (j : Nat), j ≤ b.term.succs.length ∧ z = .int .i64 j ∧ Hid (Own wr w3.heap.size 3 .i64 p (b.term.args ++ (b.term.succs.take j).flatMap EdD.args)) ∧ Hid (Below w3.heap.size w3 wr)) (fun _ z _ => b.term.succs.length - (intOf z).toNat)
  case atStart => exact ⟨0, Nat.zero_le _, rfl, HO4, HB4⟩
  case round =>
    obtain ⟨wq, rfl⟩ : ∃ x, x = wr := ⟨_, rfl⟩
    obtain ⟨j, hj, rfl, hO, hb⟩ := hrel
    by_cases hlt : j < b.term.succs.length
    · obtain ⟨e, he⟩ : ∃ e, b.term.succs[j]? = some e := ⟨_, List.getElem?_eq_getElem hlt⟩
      have hbw := hide (Below.all HB.out hb.out)
      obtain ⟨b2, off2, rfl, hlb, hrow⟩ := (HSu.out.below' hbw.out).row (i := j) (r := e.cells) (by rw [List.getElem?_map, he]; rfl)
      have HRow : Hid (wq.rangeAt b2 (off2 + j * 2) e.cells) := hide hrow
      have HEo : Hid (e.ok wq) := hide ((HTo.out.succsO e (List.mem_of_getElem? he)).below hbw.out)
      have hlen : (b.term.args ++ (b.term.succs.take j).flatMap EdD.args).length + e.args.length ≤ 17592186044416 := by
        rw [List.length_append]
        have h1 := HFi.out
        unfold BkD.fits at h1
        have h2 : b.term.succs.take (j + 1) = b.term.succs.take j ++ [e] := by
          rw [List.take_succ_eq_append_getElem hlt]
          congr 2
          exact (List.getElem?_eq_some_iff.1 he).2
        have h3 : (b.term.succs.flatMap EdD.args).length = ((b.term.succs.take (j + 1)).flatMap EdD.args).length + ((b.term.succs.drop (j + 1)).flatMap EdD.args).length := by
          rw [← List.length_append, ← List.flatMap_append, List.take_append_drop]
        rw [h2, List.flatMap_append, List.length_append] at h3
        simp only [List.flatMap_cons, List.flatMap_nil, List.append_nil] at h3
        omega
      have hnx : b.term.args ++ (b.term.succs.take (j + 1)).flatMap EdD.args = (b.term.args ++ (b.term.succs.take j).flatMap EdD.args) ++ e.args := by
        rw [List.take_succ_eq_append_getElem hlt, List.flatMap_append, show b.term.succs[j] = e from (List.getElem?_eq_some_iff.1 he).2]
        simp
      have HNX := hide hnx
      have HLN := hide hlen
      clear hlb hrow he hlen hnx
      go_upto_region 10 with fail
      refine wp_region_lit ?_
      go_step; go_step; go_step
      refine wpList_load_mid (by rfl) _ _ rfl b2 (off2 + j * 2) (by rfl) e.cells _ HRow.out HU2.out rfl HI2.out ?_
      go_step; go_step; go_step
      refine wpList_store_new (by rfl) _ _ _ rfl _ _ e.cells (by rfl) (by rfl) (by rfl) HI2.out EdD.all1' ?_
      obtain ⟨ev, hev⟩ : ∃ ev, wq.heap.size = ev := ⟨_, rfl⟩
      rw [hev]
      obtain ⟨w5, hw5⟩ : ∃ z, wq.alloc (.cells e.cells.toArray 56) = z := ⟨_, rfl⟩
      have b15 : Below wq.heap.size wq w5 := by rw [← hw5]; exact (Below.refl _ _).alloc (Nat.le_refl _) _
      have A5 : Whole w5 ev 56 e.cells.toArray := by rw [← hw5, ← hev]; exact Whole.new wq _ _
      rw [hw5]
      have c1 : w5.cell? ⟨ev, 1, none⟩ = some (.slice e.argsA e.args.length e.argsc) := A5.cell 1
      have HO5 := hide (hO.out.below' b15)
      have HE5 := hide (HEo.out.args.below' b15)
      have hb5 := hide (Below.all hb.out b15)
      have hs5 : w3.heap.size ≤ w5.heap.size := hb5.out.size
      clear hw5 b15 A5 HRow hO hb hev
      go_wp2_with (refine wpList_append_rd _ rfl _ _ 22 rfl w3.heap.size 3 .i64 8 intEI _ _ rfl HO5.out _ e.args rfl HE5.out ?b0 ?b1 hs5 ?_)
      case b0 => have := HLN.out; omega
      case b1 => have := HLN.out; unfold maxLen; omega
      rintro v' w' ho hg hbl -
      have HO6 := hide ho
      have hbl2 : Below w3.heap.size w5 w' := hbl
      have hb6 := hide (hb5.out.trans hbl2)
      clear ho hg hbl hbl2 c1 hs5
      go_wp2_with fail
      go_roundw
      case rel => exact ⟨j + 1, by omega, by go_num, hide (by rw [HNX.out, List.append_assoc]; exact HO6.out), hb6⟩
      case measure => simp [intOf]; omega
    · have hjl : j = b.term.succs.length := by omega
      have HJ := hide hjl
      clear hjl
      have hrp := hO.out.rd
      have HFr := hide (own_fresh hO.out HB.out.size)
      rw [HJ.out, List.take_length] at hrp
      have HRp := hide hrp
      clear hrp
      have HBq := hide (Below.all HB.out hb.out)
      go_wp2_with fail
      go_ret
      exact ⟨_, rfl, HRp.out, HFr.out, HBq.out⟩
set_option maxRecDepth 100000 in
theorem rreads_any (d : FnD) (bi ix : Int) (w : World) (hd : d.ok w) (hf : ∀ b ∈ d.blocks, b.fits) :
    Calls Try.prog 21 #[.agg d.cells.toArray, .agg #[.int .i64 bi, .int .i64 ix]] w fun e w' => ∃ v, e = .returned v ∧ Rd w' .i64 v (d.reads bi ix) ∧ Fresh v w.heap.size ∧ Below w.heap.size w w' := by
  cases hhas : d.has bi ix with
  | false =>
    have e0 : d.reads bi ix = [] := by unfold FnD.reads; rw [if_neg (by rw [hhas]; simp)]
    rw [e0]
    exact (rreads_no d bi ix w hd hhas).mono fun e w' ⟨h1, h2⟩ => ⟨_, h1, Rd.nil, fresh_nil _, h2⟩
  | true =>
    by_cases h0 : 0 ≤ ix
    · obtain ⟨i, b, rfl, hb, _, h2⟩ := FnD.has_at hhas
      rw [FnD.reads_at hhas h0 rfl hb]
      obtain ⟨k, rfl⟩ : ∃ k : Nat, ix = k := ⟨ix.toNat, by omega⟩
      unfold BkD.reads
      rw [Int.toNat_natCast]
      cases hx : b.ins[k]? with
      | some x => exact rreads_ins d i k b x w hd hhas hb hx
      | none =>
        have hk : k = b.ins.length := by have := List.getElem?_eq_none_iff.1 hx; omega
        subst hk
        exact rreads_term d i b w hd hhas hb (hf b (List.mem_of_getElem? hb))
    · have e0 : d.reads bi ix = [] := by unfold FnD.reads; rw [if_neg (fun h => h0 h.2)]
      rw [e0]
      exact (rreads_neg d bi ix w hd hhas (by omega)).mono fun e w' ⟨h1, h2⟩ => ⟨_, h1, Rd.nil, fresh_nil _, h2⟩
end Go.Proofs.Ythnehmfdadgklaa

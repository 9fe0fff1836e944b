/-
  MemoryNumbers, layer 17 (memory): the row and its tied card.
-/
import Derived.Test.YtjphechnadoblaaDoorMemK
import Derived.Deep.RegionWith
import Derived.Deep.QuietTactic
import Derived.BigQuiet
import Derived.Test.YtjphechnadoblaaDoorVals
import Derived.Test.YtjphechnadoblaaDoorLeaf
import Derived.Test.YtjphechnadoblaaDoorOpen
import Derived.Test.YtjphechnadoblaaDoorCards
import Derived.Test.YtjphechnadoblaaDoorTie
import Derived.Deep.DeepHandedRow
import Derived.Lib.LaidTab
import Derived.Test.YtjphechnadoblaaDoorKit
namespace Go.Proofs.YtjphechnadoblaaDoor
open Go.RowKit Go.ChangeShapes Go.WideShapes

/-- A local of the law's. -/
structure Lc (W : World) (x : Nat) (OV : Value) (b : Nat) (cs : Array Value) : Prop where
  w : Whole W b 46 cs
  x : b ≠ x
  o : OV.ownBlock ≠ some b
theorem Lc.below {W W' : World} {x b : Nat} {OV : Value} {cs : Array Value} (h : Lc W x OV b cs) (hb : Below W.heap.size W W') : Lc W' x OV b cs := ⟨h.w.below' hb, h.x, h.o⟩
theorem Lc.fr {W W' : World} {x b : Nat} {OV OV' : Value} {cs : Array Value} (h : Lc W x OV b cs) (hf : Fr x OV W W') (ho : ∀ j, j < W.heap.size → OV.ownBlock ≠ some j → OV'.ownBlock ≠ some j) : Lc W' x OV' b cs := ⟨hf.whole h.w h.x h.o, h.x, ho b h.w.lt h.o⟩
theorem Lc.new {W : World} {B x : Nat} {OV : Value} {gl : Int} {os : List OD} (h : MemAt W B x OV gl os) (cs : Array Value) : Lc (W.alloc (.cells cs 46)) x OV W.heap.size cs :=
  ⟨Whole.new _ _ _, by have := h.m.lt; omega, fun e => by have := (World.ownsRow.lt h.own _ e).2; omega⟩
theorem rptrC (x n : Int) (hx : -1 ≤ x) (w : World) : Calls Tryd.prog 19 #[.int .i64 x, .int .i64 n] w fun e w' => e = .returned (.agg #[.int .i64 5, .int .i64 x, .int .i64 n, .bool false, .bool false, .int .i64 0, .bool false, .bool false, .int .i64 0, .bool false, .bool false, .int .i64 0, .bool false, .bool false]) ∧ Below w.heap.size w w' := by
  have h := rpointer_any x n w
  unfold mkPointer at h
  rw [if_neg (by omega)] at h
  exact h
theorem rint7 (w : World) : Calls Tryd.prog 22 #[.int .i64 3, .int .i64 7] w fun e w' => e = .returned (.agg #[.int .i64 3, .int .i64 0, .int .i64 7, .bool false, .bool false, .int .i64 0, .bool false, .bool false, .int .i64 0, .bool false, .bool false, .int .i64 0, .bool false, .bool false]) ∧ Below w.heap.size w w' := by
  have h := rint_any 3 7 w
  rw [mkInt_1 ⟨by decide, by decide⟩] at h
  unfold iV at h
  rw [wrap37] at h
  exact h
theorem lane00 (q : Nat) : laneV (pairO q).vs 0 0 = ⟨7, false, false⟩ := by
  show (iV 3 7).a = _
  unfold iV
  rw [wrap37]
theorem loadA {w : World} {B x q : Nat} {OV : Value} {os : List OD} (h : MemAt w B x OV 1 (pairO q :: os)) (hos : os.length ≤ 999) (hT : Tab w) :
    Calls Tryd.prog 12 #[.pointer (some ⟨x, 0, none⟩), .agg #[.int .i64 5, .int .i64 0, .int .i64 0, .bool false, .bool false, .int .i64 0, .bool false, .bool false, .int .i64 0, .bool false, .bool false, .int .i64 0, .bool false, .bool false], .int .i64 3] w fun e w' => e = .returned (.tuple #[.agg #[.int .i64 3, .int .i64 0, .int .i64 7, .bool false, .bool false, .int .i64 0, .bool false, .bool false, .int .i64 0, .bool false, .bool false, .int .i64 0, .bool false, .bool false], .int .i64 0]) ∧ Below w.heap.size w w' := by
  have h1 := load_at1 h (by simp; omega) hT (i := 0) (k := 0) (o := pairO q) rfl (by show 2 ≤ 256; decide) 3 rfl rfl (by decide) (by show 0 + 1 ≤ 2; decide) 0 rfl
  rw [lane00] at h1
  exact h1
theorem loadB {w : World} {B x q : Nat} {OV : Value} {os : List OD} (h : MemAt w B x OV 1 (pairO q :: os)) (hos : os.length ≤ 999) (hT : Tab w) :
    Calls Tryd.prog 12 #[.pointer (some ⟨x, 0, none⟩), .agg #[.int .i64 5, .int .i64 0, .int .i64 0, .bool false, .bool false, .int .i64 0, .bool false, .bool false, .int .i64 0, .bool false, .bool false, .int .i64 0, .bool false, .bool false], .int .i64 6] w fun e w' => e = .returned (.tuple #[.agg #[.int .i64 6, .int .i64 0, .int .i64 7, .bool false, .bool false, .int .i64 0, .bool true, .bool false, .int .i64 0, .bool false, .bool false, .int .i64 0, .bool false, .bool false], .int .i64 0]) ∧ Below w.heap.size w w' := by
  have h1 := load_at2 h (by simp; omega) hT (i := 0) (k := 0) (o := pairO q) rfl (by show 2 ≤ 256; decide) 6 rfl rfl (by decide) (by show 0 + 2 ≤ 2; decide) 0 rfl
  rw [lane00] at h1
  exact h1
theorem loadC {w : World} {B x q : Nat} {OV : Value} {os : List OD} (h : MemAt w B x OV 1 (pairO q :: os)) (hos : os.length ≤ 999) (hT : Tab w) :
    Calls Tryd.prog 12 #[.pointer (some ⟨x, 0, none⟩), .agg #[.int .i64 5, .int .i64 0, .int .i64 1, .bool false, .bool false, .int .i64 0, .bool false, .bool false, .int .i64 0, .bool false, .bool false, .int .i64 0, .bool false, .bool false], .int .i64 6] w fun e w' => e = .returned (.tuple #[.agg #[.int .i64 0, .int .i64 0, .int .i64 0, .bool false, .bool false, .int .i64 0, .bool false, .bool false, .int .i64 0, .bool false, .bool false, .int .i64 0, .bool false, .bool false], .int .i64 1]) ∧ Below w.heap.size w w' :=
  load_out h (by simp; omega) hT (i := 0) (o := pairO q) rfl (by show 2 ≤ 256; decide) 1 6 (by decide) (by decide) (.inr (.inr (by show (2 : Int) - 2 < 1; decide)))
theorem loadD {w : World} {B x : Nat} {OV : Value} {gl : Int} {os : List OD} (h : MemAt w B x OV gl os) (hos : os.length ≤ 1000) {i : Nat} (hi : os[i]? = some goneO) (t : Int) (ht : accN t ≠ 0) (h0 : accT t ≠ 0) (hT : Tab w) :
    Calls Tryd.prog 12 #[.pointer (some ⟨x, 0, none⟩), .agg #[.int .i64 5, .int .i64 (i : Int), .int .i64 0, .bool false, .bool false, .int .i64 0, .bool false, .bool false, .int .i64 0, .bool false, .bool false, .int .i64 0, .bool false, .bool false], .int .i64 t] w fun e w' => e = .returned (.tuple #[.agg #[.int .i64 0, .int .i64 0, .int .i64 0, .bool false, .bool false, .int .i64 0, .bool false, .bool false, .int .i64 0, .bool false, .bool false, .int .i64 0, .bool false, .bool false], .int .i64 1]) ∧ Below w.heap.size w w' :=
  load_out h hos hT (i := i) (o := goneO) hi (by show 0 ≤ 256; decide) 0 t (by decide) ht (.inl h0)
theorem rel_one (a b : OD) : relO [a, b] (max 1 1) = [a, goneO] := by simp [relO]
theorem alloc1 {w : World} {B x q : Nat} {OV : Value} (h : MemAt w B x OV 1 [pairO q]) :
    Calls Tryd.prog 18 #[.pointer (some ⟨x, 0, none⟩), .int .i64 4, .int .i64 3] w fun e w' => e = .returned (.tuple #[.agg #[.int .i64 5, .int .i64 1, .int .i64 0, .bool false, .bool false, .int .i64 0, .bool false, .bool false, .int .i64 0, .bool false, .bool false, .int .i64 0, .bool false, .bool false], .bool true]) ∧
      ∃ g OV', MemAt w' B x OV' 1 [pairO q, ⟨4, false, List.replicate 3 (pV 4), g⟩] ∧ Below B w w' ∧ Fr x OV w w' ∧ ∀ j, j < w.heap.size → OV.ownBlock ≠ some j → OV'.ownBlock ≠ some j :=
  alloca_ok h 4 ⟨by decide, by decide⟩ 3 ⟨by decide, by decide⟩ (by decide) (by simp) (by simp) (by simp)
theorem ptrNil (a : Addr) (w : World) : (binOp .eql 47 (.pointer (some a)) (.pointer none)).run Tryd.prog w = .ok (.bool false) w := by
  kernel_rfl
set_option maxRecDepth 100000 in
set_option maxHeartbeats 2000000 in
theorem works_any (w : World) (hT : Tab w) : Calls Tryd.prog 14 #[] w fun e w' => e = .returned (.bool true) ∧ Below w.heap.size w w' := by
  have HT0 := hide hT
  clear hT
  go_enter Tryd.func14, Tryd.ntmps14
  go_wp2_with fail
  refine (pair_any w).mono ?_
  rintro en w1 ⟨b, g, rfl, hG, hb1⟩
  go_wp2_with fail
  refine (pairnew_any b g w1 (HT0.out.below hb1) hG).mono ?_
  rintro en w2 ⟨x, OV, q, rfl, hM, hb2⟩
  have HM := hide hM
  have HB : Hid (Below w.heap.size w w2) := hide (Below.all hb1 hb2)
  have HL : Hid (w.heap.size ≤ w1.heap.size) := hide hb1.size
  clear hM hb2 hG hb1
  have hpn := fun W => ptrNil ⟨x, 0, none⟩ W
  go_wp2_with fail
  refine (rptrC 0 0 (by decide) _).mono ?_
  rintro en w3 ⟨rfl, hbn⟩
  replace HM := hide (HM.out.below hbn)
  replace HB := hide (Below.all HB.out hbn)
  clear hbn
  go_upto_region 5 with fail
  obtain ⟨bp, hbp⟩ : ∃ x, w3.heap.size = x := ⟨_, rfl⟩
  obtain ⟨w4, hw4⟩ : ∃ x, w3.alloc (.cells #[.int .i64 5, .int .i64 0, .int .i64 0, .bool false, .bool false, .int .i64 0, .bool false, .bool false, .int .i64 0, .bool false, .bool false, .int .i64 0, .bool false, .bool false] 46) = x := ⟨_, rfl⟩
  have Lbp : Hid (Lc w4 x OV bp #[.int .i64 5, .int .i64 0, .int .i64 0, .bool false, .bool false, .int .i64 0, .bool false, .bool false, .int .i64 0, .bool false, .bool false, .int .i64 0, .bool false, .bool false]) := hide (by rw [← hw4, ← hbp]; exact Lc.new HM.out _)
  have hbn : Below w3.heap.size w3 w4 := by rw [← hw4]; exact (Below.refl _ _).alloc (Nat.le_refl _) _
  replace HM := hide (HM.out.below hbn)
  replace HB := hide (Below.all HB.out hbn)
  simp only [hbp, hw4]
  clear hbp hw4 hbn
  have p0 : w4.cell? ⟨bp, 0, none⟩ = some (.int .i64 5) := Lbp.out.w.cell 0
  have p1 : w4.cell? ⟨bp, 1, none⟩ = some (.int .i64 0) := Lbp.out.w.cell 1
  have p2 : w4.cell? ⟨bp, 2, none⟩ = some (.int .i64 0) := Lbp.out.w.cell 2
  have p3 : w4.cell? ⟨bp, 3, none⟩ = some (.bool false) := Lbp.out.w.cell 3
  have p4 : w4.cell? ⟨bp, 4, none⟩ = some (.bool false) := Lbp.out.w.cell 4
  have p5 : w4.cell? ⟨bp, 5, none⟩ = some (.int .i64 0) := Lbp.out.w.cell 5
  have p6 : w4.cell? ⟨bp, 6, none⟩ = some (.bool false) := Lbp.out.w.cell 6
  have p7 : w4.cell? ⟨bp, 7, none⟩ = some (.bool false) := Lbp.out.w.cell 7
  have p8 : w4.cell? ⟨bp, 8, none⟩ = some (.int .i64 0) := Lbp.out.w.cell 8
  have p9 : w4.cell? ⟨bp, 9, none⟩ = some (.bool false) := Lbp.out.w.cell 9
  have p10 : w4.cell? ⟨bp, 10, none⟩ = some (.bool false) := Lbp.out.w.cell 10
  have p11 : w4.cell? ⟨bp, 11, none⟩ = some (.int .i64 0) := Lbp.out.w.cell 11
  have p12 : w4.cell? ⟨bp, 12, none⟩ = some (.bool false) := Lbp.out.w.cell 12
  have p13 : w4.cell? ⟨bp, 13, none⟩ = some (.bool false) := Lbp.out.w.cell 13
  go_wp2_with fail
  refine (loadA HM.out (by simp) (HT0.out.below HB.out)).mono ?_
  rintro en w5 ⟨rfl, hbn⟩
  replace HM := hide (HM.out.below hbn)
  replace HB := hide (Below.all HB.out hbn)
  replace Lbp := hide (Lbp.out.below hbn)
  clear hbn p0 p1 p2 p3 p4 p5 p6 p7 p8 p9 p10 p11 p12 p13
  go_upto_region 6 with fail
  obtain ⟨bv, hbv⟩ : ∃ x, w5.heap.size = x := ⟨_, rfl⟩
  obtain ⟨w6, hw6⟩ : ∃ x, w5.alloc (.cells #[.int .i64 3, .int .i64 0, .int .i64 7, .bool false, .bool false, .int .i64 0, .bool false, .bool false, .int .i64 0, .bool false, .bool false, .int .i64 0, .bool false, .bool false] 46) = x := ⟨_, rfl⟩
  have Lbv : Hid (Lc w6 x OV bv #[.int .i64 3, .int .i64 0, .int .i64 7, .bool false, .bool false, .int .i64 0, .bool false, .bool false, .int .i64 0, .bool false, .bool false, .int .i64 0, .bool false, .bool false]) := hide (by rw [← hw6, ← hbv]; exact Lc.new HM.out _)
  have hbn : Below w5.heap.size w5 w6 := by rw [← hw6]; exact (Below.refl _ _).alloc (Nat.le_refl _) _
  replace HM := hide (HM.out.below hbn)
  replace HB := hide (Below.all HB.out hbn)
  replace Lbp := hide (Lbp.out.below hbn)
  simp only [hbv, hw6]
  clear hbv hw6 hbn
  have p0 : w6.cell? ⟨bp, 0, none⟩ = some (.int .i64 5) := Lbp.out.w.cell 0
  have p1 : w6.cell? ⟨bp, 1, none⟩ = some (.int .i64 0) := Lbp.out.w.cell 1
  have p2 : w6.cell? ⟨bp, 2, none⟩ = some (.int .i64 0) := Lbp.out.w.cell 2
  have p3 : w6.cell? ⟨bp, 3, none⟩ = some (.bool false) := Lbp.out.w.cell 3
  have p4 : w6.cell? ⟨bp, 4, none⟩ = some (.bool false) := Lbp.out.w.cell 4
  have p5 : w6.cell? ⟨bp, 5, none⟩ = some (.int .i64 0) := Lbp.out.w.cell 5
  have p6 : w6.cell? ⟨bp, 6, none⟩ = some (.bool false) := Lbp.out.w.cell 6
  have p7 : w6.cell? ⟨bp, 7, none⟩ = some (.bool false) := Lbp.out.w.cell 7
  have p8 : w6.cell? ⟨bp, 8, none⟩ = some (.int .i64 0) := Lbp.out.w.cell 8
  have p9 : w6.cell? ⟨bp, 9, none⟩ = some (.bool false) := Lbp.out.w.cell 9
  have p10 : w6.cell? ⟨bp, 10, none⟩ = some (.bool false) := Lbp.out.w.cell 10
  have p11 : w6.cell? ⟨bp, 11, none⟩ = some (.int .i64 0) := Lbp.out.w.cell 11
  have p12 : w6.cell? ⟨bp, 12, none⟩ = some (.bool false) := Lbp.out.w.cell 12
  have p13 : w6.cell? ⟨bp, 13, none⟩ = some (.bool false) := Lbp.out.w.cell 13
  go_wp2_with fail
  refine (loadB HM.out (by simp) (HT0.out.below HB.out)).mono ?_
  rintro en w7 ⟨rfl, hbn⟩
  replace HM := hide (HM.out.below hbn)
  replace HB := hide (Below.all HB.out hbn)
  replace Lbp := hide (Lbp.out.below hbn)
  replace Lbv := hide (Lbv.out.below hbn)
  clear hbn p0 p1 p2 p3 p4 p5 p6 p7 p8 p9 p10 p11 p12 p13
  clear Lbp
  go_upto_region 7 with fail
  obtain ⟨bw, hbw⟩ : ∃ x, w7.heap.size = x := ⟨_, rfl⟩
  obtain ⟨w8, hw8⟩ : ∃ x, w7.alloc (.cells #[.int .i64 6, .int .i64 0, .int .i64 7, .bool false, .bool false, .int .i64 0, .bool true, .bool false, .int .i64 0, .bool false, .bool false, .int .i64 0, .bool false, .bool false] 46) = x := ⟨_, rfl⟩
  have Lbw : Hid (Lc w8 x OV bw #[.int .i64 6, .int .i64 0, .int .i64 7, .bool false, .bool false, .int .i64 0, .bool true, .bool false, .int .i64 0, .bool false, .bool false, .int .i64 0, .bool false, .bool false]) := hide (by rw [← hw8, ← hbw]; exact Lc.new HM.out _)
  have hbn : Below w7.heap.size w7 w8 := by rw [← hw8]; exact (Below.refl _ _).alloc (Nat.le_refl _) _
  replace HM := hide (HM.out.below hbn)
  replace HB := hide (Below.all HB.out hbn)
  replace Lbv := hide (Lbv.out.below hbn)
  simp only [hbw, hw8]
  clear hbw hw8 hbn
  go_wp2_with fail
  refine (rptrC 0 1 (by decide) _).mono ?_
  rintro en w9 ⟨rfl, hbn⟩
  replace HM := hide (HM.out.below hbn)
  replace HB := hide (Below.all HB.out hbn)
  replace Lbv := hide (Lbv.out.below hbn)
  replace Lbw := hide (Lbw.out.below hbn)
  clear hbn
  go_wp2_with fail
  refine (loadC HM.out (by simp) (HT0.out.below HB.out)).mono ?_
  rintro en wa ⟨rfl, hbn⟩
  replace HM := hide (HM.out.below hbn)
  replace HB := hide (Below.all HB.out hbn)
  replace Lbv := hide (Lbv.out.below hbn)
  replace Lbw := hide (Lbw.out.below hbn)
  clear hbn
  go_upto_region 8 with fail
  obtain ⟨bu, hbu⟩ : ∃ x, wa.heap.size = x := ⟨_, rfl⟩
  obtain ⟨wb, hwb⟩ : ∃ x, wa.alloc (.cells #[.int .i64 0, .int .i64 0, .int .i64 0, .bool false, .bool false, .int .i64 0, .bool false, .bool false, .int .i64 0, .bool false, .bool false, .int .i64 0, .bool false, .bool false] 46) = x := ⟨_, rfl⟩
  have Lbu : Hid (Lc wb x OV bu #[.int .i64 0, .int .i64 0, .int .i64 0, .bool false, .bool false, .int .i64 0, .bool false, .bool false, .int .i64 0, .bool false, .bool false, .int .i64 0, .bool false, .bool false]) := hide (by rw [← hwb, ← hbu]; exact Lc.new HM.out _)
  have hbn : Below wa.heap.size wa wb := by rw [← hwb]; exact (Below.refl _ _).alloc (Nat.le_refl _) _
  replace HM := hide (HM.out.below hbn)
  replace HB := hide (Below.all HB.out hbn)
  replace Lbv := hide (Lbv.out.below hbn)
  replace Lbw := hide (Lbw.out.below hbn)
  simp only [hbu, hwb]
  clear hbu hwb hbn
  clear Lbu
  go_wp2_with fail
  refine (mark_any HM.out).mono ?_
  rintro en wn ⟨rfl, rfl⟩
  go_upto_region 9 with fail
  go_wp2_with fail
  refine (alloc1 HM.out).mono ?_
  rintro en wc ⟨rfl, gc, OV2, hM2, hbB, hfr, hob⟩
  replace Lbv := hide (Lbv.out.fr hfr hob)
  replace Lbw := hide (Lbw.out.fr hfr hob)
  replace HB := hide (HB.out.trans (hbB.mono HL.out))
  replace HM := hide hM2
  clear hM2 hbB hfr hob
  go_upto_region 10 with fail
  obtain ⟨bq, hbq⟩ : ∃ x, wc.heap.size = x := ⟨_, rfl⟩
  obtain ⟨wd, hwd⟩ : ∃ x, wc.alloc (.cells #[.int .i64 5, .int .i64 1, .int .i64 0, .bool false, .bool false, .int .i64 0, .bool false, .bool false, .int .i64 0, .bool false, .bool false, .int .i64 0, .bool false, .bool false] 46) = x := ⟨_, rfl⟩
  have Lbq : Hid (Lc wd x OV2 bq #[.int .i64 5, .int .i64 1, .int .i64 0, .bool false, .bool false, .int .i64 0, .bool false, .bool false, .int .i64 0, .bool false, .bool false, .int .i64 0, .bool false, .bool false]) := hide (by rw [← hwd, ← hbq]; exact Lc.new HM.out _)
  have hbn : Below wc.heap.size wc wd := by rw [← hwd]; exact (Below.refl _ _).alloc (Nat.le_refl _) _
  replace HM := hide (HM.out.below hbn)
  replace HB := hide (Below.all HB.out hbn)
  replace Lbv := hide (Lbv.out.below hbn)
  replace Lbw := hide (Lbw.out.below hbn)
  simp only [hbq, hwd]
  clear hbq hwd hbn
  go_wp2_with fail
  refine (release_any HM.out 1 (by decide) (by simp) (by simp)).mono ?_
  rintro en we ⟨rfl, hM2, hbB, hfr⟩
  rw [rel_one] at hM2
  replace Lbv := hide (Lbv.out.fr hfr (fun _ _ h => h))
  replace Lbw := hide (Lbw.out.fr hfr (fun _ _ h => h))
  replace Lbq := hide (Lbq.out.fr hfr (fun _ _ h => h))
  replace HB := hide (HB.out.trans (hbB.mono HL.out))
  replace HM := hide hM2
  clear hM2 hbB hfr
  have q0 : we.cell? ⟨bq, 0, none⟩ = some (.int .i64 5) := Lbq.out.w.cell 0
  have q1 : we.cell? ⟨bq, 1, none⟩ = some (.int .i64 1) := Lbq.out.w.cell 1
  have q2 : we.cell? ⟨bq, 2, none⟩ = some (.int .i64 0) := Lbq.out.w.cell 2
  have q3 : we.cell? ⟨bq, 3, none⟩ = some (.bool false) := Lbq.out.w.cell 3
  have q4 : we.cell? ⟨bq, 4, none⟩ = some (.bool false) := Lbq.out.w.cell 4
  have q5 : we.cell? ⟨bq, 5, none⟩ = some (.int .i64 0) := Lbq.out.w.cell 5
  have q6 : we.cell? ⟨bq, 6, none⟩ = some (.bool false) := Lbq.out.w.cell 6
  have q7 : we.cell? ⟨bq, 7, none⟩ = some (.bool false) := Lbq.out.w.cell 7
  have q8 : we.cell? ⟨bq, 8, none⟩ = some (.int .i64 0) := Lbq.out.w.cell 8
  have q9 : we.cell? ⟨bq, 9, none⟩ = some (.bool false) := Lbq.out.w.cell 9
  have q10 : we.cell? ⟨bq, 10, none⟩ = some (.bool false) := Lbq.out.w.cell 10
  have q11 : we.cell? ⟨bq, 11, none⟩ = some (.int .i64 0) := Lbq.out.w.cell 11
  have q12 : we.cell? ⟨bq, 12, none⟩ = some (.bool false) := Lbq.out.w.cell 12
  have q13 : we.cell? ⟨bq, 13, none⟩ = some (.bool false) := Lbq.out.w.cell 13
  go_wp2_with fail
  refine (loadD HM.out (by simp) (i := 1) rfl 4 (by decide) (by decide) (HT0.out.below HB.out)).mono ?_
  rintro en wf ⟨rfl, hbn⟩
  replace HM := hide (HM.out.below hbn)
  replace HB := hide (Below.all HB.out hbn)
  replace Lbv := hide (Lbv.out.below hbn)
  replace Lbw := hide (Lbw.out.below hbn)
  replace Lbq := hide (Lbq.out.below hbn)
  clear hbn q0 q1 q2 q3 q4 q5 q6 q7 q8 q9 q10 q11 q12 q13
  go_upto_region 12 with fail
  obtain ⟨bu, hbu⟩ : ∃ x, wf.heap.size = x := ⟨_, rfl⟩
  obtain ⟨wg, hwg⟩ : ∃ x, wf.alloc (.cells #[.int .i64 0, .int .i64 0, .int .i64 0, .bool false, .bool false, .int .i64 0, .bool false, .bool false, .int .i64 0, .bool false, .bool false, .int .i64 0, .bool false, .bool false] 46) = x := ⟨_, rfl⟩
  have Lbu : Hid (Lc wg x OV2 bu #[.int .i64 0, .int .i64 0, .int .i64 0, .bool false, .bool false, .int .i64 0, .bool false, .bool false, .int .i64 0, .bool false, .bool false, .int .i64 0, .bool false, .bool false]) := hide (by rw [← hwg, ← hbu]; exact Lc.new HM.out _)
  have hbn : Below wf.heap.size wf wg := by rw [← hwg]; exact (Below.refl _ _).alloc (Nat.le_refl _) _
  replace HM := hide (HM.out.below hbn)
  replace HB := hide (Below.all HB.out hbn)
  replace Lbv := hide (Lbv.out.below hbn)
  replace Lbw := hide (Lbw.out.below hbn)
  replace Lbq := hide (Lbq.out.below hbn)
  simp only [hbu, hwg]
  clear hbu hwg hbn
  clear Lbu
  have e1 : ∀ W, (binOp .eql 46 (.agg #[.int .i64 3, .int .i64 0, .int .i64 7, .bool false, .bool false, .int .i64 0, .bool false, .bool false, .int .i64 0, .bool false, .bool false, .int .i64 0, .bool false, .bool false]) (.agg #[.int .i64 3, .int .i64 0, .int .i64 7, .bool false, .bool false, .int .i64 0, .bool false, .bool false, .int .i64 0, .bool false, .bool false, .int .i64 0, .bool false, .bool false])).run Tryd.prog W = .ok (.bool true) W := fun W => eqv 3 0 ⟨7, false, false⟩ zL zL zL W
  have e2 : ∀ W, (binOp .eql 46 (.agg #[.int .i64 5, .int .i64 1, .int .i64 0, .bool false, .bool false, .int .i64 0, .bool false, .bool false, .int .i64 0, .bool false, .bool false, .int .i64 0, .bool false, .bool false]) (.agg #[.int .i64 5, .int .i64 1, .int .i64 0, .bool false, .bool false, .int .i64 0, .bool false, .bool false, .int .i64 0, .bool false, .bool false, .int .i64 0, .bool false, .bool false])).run Tryd.prog W = .ok (.bool true) W := fun W => eqv 5 1 ⟨0, false, false⟩ zL zL zL W
  have hbn : Below wg.heap.size wg wg.drew := Below.drewN' (Below.refl _ _) 1
  replace HM := hide (HM.out.below hbn)
  replace HB := hide (Below.all HB.out hbn)
  replace Lbv := hide (Lbv.out.below hbn)
  replace Lbw := hide (Lbw.out.below hbn)
  replace Lbq := hide (Lbq.out.below hbn)
  clear hbn
  go_region_held3 (fun w' => w'.cell? ⟨bv, 0, none⟩ = some (.int .i64 3) ∧ w'.cell? ⟨bv, 1, none⟩ = some (.int .i64 0) ∧ w'.cell? ⟨bv, 2, none⟩ = some (.int .i64 7) ∧ w'.cell? ⟨bv, 3, none⟩ = some (.bool false) ∧ w'.cell? ⟨bv, 4, none⟩ = some (.bool false) ∧ w'.cell? ⟨bv, 5, none⟩ = some (.int .i64 0) ∧ w'.cell? ⟨bv, 6, none⟩ = some (.bool false) ∧ w'.cell? ⟨bv, 7, none⟩ = some (.bool false) ∧ w'.cell? ⟨bv, 8, none⟩ = some (.int .i64 0) ∧ w'.cell? ⟨bv, 9, none⟩ = some (.bool false) ∧ w'.cell? ⟨bv, 10, none⟩ = some (.bool false) ∧ w'.cell? ⟨bv, 11, none⟩ = some (.int .i64 0) ∧ w'.cell? ⟨bv, 12, none⟩ = some (.bool false) ∧ w'.cell? ⟨bv, 13, none⟩ = some (.bool false) ∧ w'.cell? ⟨bw, 2, none⟩ = some (.int .i64 7) ∧ w'.cell? ⟨bw, 6, none⟩ = some (.bool true) ∧ w'.cell? ⟨bq, 0, none⟩ = some (.int .i64 5) ∧ w'.cell? ⟨bq, 1, none⟩ = some (.int .i64 1) ∧ w'.cell? ⟨bq, 2, none⟩ = some (.int .i64 0) ∧ w'.cell? ⟨bq, 3, none⟩ = some (.bool false) ∧ w'.cell? ⟨bq, 4, none⟩ = some (.bool false) ∧ w'.cell? ⟨bq, 5, none⟩ = some (.int .i64 0) ∧ w'.cell? ⟨bq, 6, none⟩ = some (.bool false) ∧ w'.cell? ⟨bq, 7, none⟩ = some (.bool false) ∧ w'.cell? ⟨bq, 8, none⟩ = some (.int .i64 0) ∧ w'.cell? ⟨bq, 9, none⟩ = some (.bool false) ∧ w'.cell? ⟨bq, 10, none⟩ = some (.bool false) ∧ w'.cell? ⟨bq, 11, none⟩ = some (.int .i64 0) ∧ w'.cell? ⟨bq, 12, none⟩ = some (.bool false) ∧ w'.cell? ⟨bq, 13, none⟩ = some (.bool false)) (exact ⟨Lbv.out.w.cell 0, Lbv.out.w.cell 1, Lbv.out.w.cell 2, Lbv.out.w.cell 3, Lbv.out.w.cell 4, Lbv.out.w.cell 5, Lbv.out.w.cell 6, Lbv.out.w.cell 7, Lbv.out.w.cell 8, Lbv.out.w.cell 9, Lbv.out.w.cell 10, Lbv.out.w.cell 11, Lbv.out.w.cell 12, Lbv.out.w.cell 13, Lbw.out.w.cell 2, Lbw.out.w.cell 6, Lbq.out.w.cell 0, Lbq.out.w.cell 1, Lbq.out.w.cell 2, Lbq.out.w.cell 3, Lbq.out.w.cell 4, Lbq.out.w.cell 5, Lbq.out.w.cell 6, Lbq.out.w.cell 7, Lbq.out.w.cell 8, Lbq.out.w.cell 9, Lbq.out.w.cell 10, Lbq.out.w.cell 11, Lbq.out.w.cell 12, Lbq.out.w.cell 13⟩) (first | (go_at_call 22; refine (rint7 _).mono ?_; rintro en wn ⟨rfl, hbn⟩; replace HM := hide (HM.out.below hbn); replace HB := hide (Below.all HB.out hbn); replace Lbv := hide (Lbv.out.below hbn); replace Lbw := hide (Lbw.out.below hbn); replace Lbq := hide (Lbq.out.below hbn); clear hbn) | (go_at_call 19; refine (rptrC 1 0 (by decide) _).mono ?_; rintro en wn ⟨rfl, hbn⟩; replace HM := hide (HM.out.below hbn); replace HB := hide (Below.all HB.out hbn); replace Lbv := hide (Lbv.out.below hbn); replace Lbw := hide (Lbw.out.below hbn); replace Lbq := hide (Lbq.out.below hbn); clear hbn) | (go_at_call 21; refine (mark_any HM.out).mono ?_; rintro en wn ⟨rfl, rfl⟩))
  all_goals
    first
      | (go_ret; exact ⟨rfl, HB.out⟩)
      | (go_wp2_with fail; go_ret; exact ⟨rfl, HB.out⟩)
      | (refine bodyPost_ret (v := .bool true) ?_ rfl ⟨rfl, HB.out⟩; simp [results, Tryd.f14, go_sem])
end Go.Proofs.YtjphechnadoblaaDoor
namespace Go.Proofs.YtjphechnadoblaaDoor
open Go.RowKit Go.ChangeShapes Go.WideShapes

theorem nev (t o : Int) (a b c d : LaneD) (W : World) : Sem.run Tryd.prog (binOp .neq 46 (.agg (vc t o a b c d)) (.agg (vc t o a b c d))) W = .ok (.bool false) W := by
  unfold vc
  rw [run_neq_struct]
  simp [go_sem]
  have ht : Tryd.prog.underlying 44 = some (.array 4 43) := by kernel_rfl
  have hsz : ∀ w, (sizeOf 43).run Tryd.prog w = .ok 3 w := fun w => by kernel_rfl
  rw [show (9999 : Nat) = 9998 + 1 from rfl, Op.equalIn]
  simp only [Sem.run_bind, run_underlying ht, Result.andThen_ok, hsz, Std.Legacy.Range.forIn_eq_forIn_range', Std.Legacy.Range.size, Nat.sub_zero, Nat.add_sub_cancel, Nat.div_one]
  simp [go_sem, List.range']
/-- What the law's memory is, between two calls. -/
def LmAt (w W : World) (x n : Nat) : Prop := ∃ B OV os, MemAt W B x OV 1 os ∧ os.length = n ∧ w.heap.size ≤ B ∧ Below w.heap.size w W
theorem LmAt.below {w W W' : World} {x n : Nat} (h : LmAt w W x n) (hb : Below W.heap.size W W') : LmAt w W' x n := by
  obtain ⟨B, OV, os, h1, h2, h3, h4⟩ := h
  exact ⟨B, OV, os, h1.below hb, h2, h3, Below.all h4 hb⟩
theorem LmAt.b {w W : World} {x n : Nat} (h : LmAt w W x n) : Below w.heap.size w W := by
  obtain ⟨B, OV, os, h1, h2, h3, h4⟩ := h
  exact h4
theorem lm_new (w : World) (hT : Tab w) (b g : Nat) (w1 : World) (hb1 : Below w.heap.size w w1) (hG : GlobAt w1 (some ⟨b, 0, none⟩) 1 [pairG g]) :
    Calls Tryd.prog 16 #[.agg #[.slice (some ⟨b, 0, none⟩) 1 1, .slice none 0 0], .slice none 0 0] w1 fun e w' => ∃ x, e = .returned (.pointer (some ⟨x, 0, none⟩)) ∧ LmAt w w' x 1 := by
  refine (pairnew_any b g w1 (hT.below hb1) hG).mono ?_
  rintro e w2 ⟨x, OV, q, rfl, hM, hb2⟩
  exact ⟨x, rfl, _, OV, _, hM, rfl, hb1.size, Below.all hb1 hb2⟩
theorem lm_alloca {w W : World} {x n : Nat} (h : LmAt w W x n) (h1 : 1 ≤ n) (h4 : n ≤ 400) (z : Int) (hz : (n : Int) = z) (t : Int) (ht : 2 ≤ t ∧ t ≤ 5) (m : Nat) (hm : 1 ≤ m ∧ m ≤ 256) :
    Calls Tryd.prog 18 #[.pointer (some ⟨x, 0, none⟩), .int .i64 t, .int .i64 (m : Int)] W fun e w' => e = .returned (.tuple #[.agg #[.int .i64 5, .int .i64 z, .int .i64 0, .bool false, .bool false, .int .i64 0, .bool false, .bool false, .int .i64 0, .bool false, .bool false, .int .i64 0, .bool false, .bool false], .bool true]) ∧ LmAt w w' x (n + 1) := by
  subst hz
  obtain ⟨B, OV, os, hM, hn, hB, hb⟩ := h
  subst hn
  refine (alloca_ok hM t ht m hm (by decide) (by omega) (by omega) (by omega)).mono ?_
  rintro e w' ⟨rfl, g, OV', h1, h2, _, _⟩
  exact ⟨rfl, B, OV', _, h1, by simp, hB, hb.trans (h2.mono hB)⟩
theorem lm_no {w W : World} {x n : Nat} (h : LmAt w W x n) (h1 : 1 ≤ n) (h4 : n ≤ 401) (t m : Int) (hbad : ¬ (2 ≤ t ∧ t ≤ 5) ∨ m < 1 ∨ 256 < m ∨ n = 401) :
    Calls Tryd.prog 18 #[.pointer (some ⟨x, 0, none⟩), .int .i64 t, .int .i64 m] W fun e w' => e = .returned (.tuple #[.agg #[.int .i64 0, .int .i64 0, .int .i64 0, .bool false, .bool false, .int .i64 0, .bool false, .bool false, .int .i64 0, .bool false, .bool false, .int .i64 0, .bool false, .bool false], .bool false]) ∧ LmAt w w' x n := by
  obtain ⟨B, OV, os, hM, hn, hB, hb⟩ := h
  subst hn
  refine (alloca_no hM t m (by decide) (by omega) (by omega) (by omega)).mono ?_
  rintro e w' ⟨rfl, h2⟩
  exact ⟨rfl, B, OV, _, hM.below h2, rfl, hB, Below.all hb h2⟩
theorem lm_rel {w W : World} {x n : Nat} (h : LmAt w W x n) (h1 : 1 ≤ n) (h4 : n ≤ 401) (m : Int) :
    Calls Tryd.prog 20 #[.pointer (some ⟨x, 0, none⟩), .int .i64 m] W fun e w' => e = .returned (.tuple #[]) ∧ LmAt w w' x n := by
  obtain ⟨B, OV, os, hM, hn, hB, hb⟩ := h
  subst hn
  refine (release_any hM m (by decide) (by omega) (by omega)).mono ?_
  rintro e w' ⟨rfl, h2, h3, _⟩
  exact ⟨rfl, B, OV, _, h2, relO_len _ _, hB, hb.trans (h3.mono hB)⟩
set_option maxRecDepth 100000 in
set_option maxHeartbeats 2000000 in
theorem limit_yes (t : Int) (ht : 2 ≤ t ∧ t ≤ 5) (m : Nat) (hm : 1 ≤ m ∧ m ≤ 256) (w : World) (hT : Tab w) : Calls Tryd.prog 6 #[.int .i64 t, .int .i64 (m : Int)] w fun e w' => e = .returned (.bool true) ∧ Below w.heap.size w w' := by
  have HT0 := hide hT
  clear hT
  go_enter Tryd.func6, Tryd.ntmps6
  go_wp2_with fail
  refine (pair_any w).mono ?_
  rintro en w1 ⟨b, g, rfl, hG, hb1⟩
  go_wp2_with fail
  refine (lm_new w HT0.out b g w1 hb1 hG).mono ?_
  rintro en w2 ⟨x, rfl, hM⟩
  have HM := hide hM
  clear hM hG hb1
  have hpn := fun W => ptrNil ⟨x, 0, none⟩ W
  have s1 : decide (2 ≤ t) = true := by simp; omega
  have s2 : decide (t ≤ 5) = true := by simp; omega
  have s3 : decide (1 ≤ (m : Int)) = true := by simp; omega
  have s4 : decide ((m : Int) ≤ 256) = true := by simp; omega
  have s5 : decide (1 ≤ m) = true := by simp; omega
  have s6 : decide (m ≤ 256) = true := by simp; omega
  have HH := hide (And.intro ht hm)
  clear ht hm
  go_wp2_with fail
  go_loopw [7] (fun v W => ∃ i : Nat, v = .int .i64 (i : Int) ∧ i ≤ 3 ∧ LmAt w W x (i + 1)) (fun v _ => 3 - (intOf v).toNat)
  case atStart => exact ⟨0, rfl, by omega, HM.out⟩
  case round =>
    obtain ⟨i, rfl, hi, hS⟩ := hrel
    replace HM := hide hS
    clear hS
    by_cases hlt : i < 3
    · have d1 : decide ((i : Int) < 3) = true := by simp; omega
      have d2 : decide (i < 3) = true := by simp; omega
      go_wp2_with fail
      refine (lm_alloca HM.out (by omega) (by omega) ((i : Int) + 1) (by omega) t HH.out.1 m HH.out.2).mono ?_
      rintro en w3 ⟨rfl, hS⟩
      replace HM := hide hS
      clear hS
      go_upto_region 9 with fail
      obtain ⟨b8, hb8⟩ : ∃ y, w3.heap.size = y := ⟨_, rfl⟩
      obtain ⟨w4, hw4⟩ : ∃ y, w3.alloc (.cells #[.int .i64 5, .int .i64 ((i : Int) + 1), .int .i64 0, .bool false, .bool false, .int .i64 0, .bool false, .bool false, .int .i64 0, .bool false, .bool false, .int .i64 0, .bool false, .bool false] 46) = y := ⟨_, rfl⟩
      have hbn : Below w3.heap.size w3 w4.drew := by rw [← hw4]; exact ((Below.refl _ _).alloc (Nat.le_refl _) _).drew
      have HP : Hid (Whole w4.drew b8 46 #[.int .i64 5, .int .i64 ((i : Int) + 1), .int .i64 0, .bool false, .bool false, .int .i64 0, .bool false, .bool false, .int .i64 0, .bool false, .bool false, .int .i64 0, .bool false, .bool false]) := hide (by rw [← hw4, ← hb8]; exact (Whole.new _ _ _).drewN 1)
      replace HM := hide (HM.out.below hbn)
      have e0 : ∀ W, (binOp .neq 46 (.agg #[.int .i64 5, .int .i64 ((i : Int) + 1), .int .i64 0, .bool false, .bool false, .int .i64 0, .bool false, .bool false, .int .i64 0, .bool false, .bool false, .int .i64 0, .bool false, .bool false]) (.agg #[.int .i64 5, .int .i64 ((i : Int) + 1), .int .i64 0, .bool false, .bool false, .int .i64 0, .bool false, .bool false, .int .i64 0, .bool false, .bool false, .int .i64 0, .bool false, .bool false])).run Tryd.prog W = .ok (.bool false) W := fun W => nev 5 ((i : Int) + 1) ⟨0, false, false⟩ zL zL zL W
      simp only [hb8, hw4]
      clear hb8 hw4 hbn
      have z0 : w4.drew.cell? ⟨b8, 0, none⟩ = some (.int .i64 5) := HP.out.cell 0
      have z1 : w4.drew.cell? ⟨b8, 1, none⟩ = some (.int .i64 ((i : Int) + 1)) := HP.out.cell 1
      have z2 : w4.drew.cell? ⟨b8, 2, none⟩ = some (.int .i64 0) := HP.out.cell 2
      have z3 : w4.drew.cell? ⟨b8, 3, none⟩ = some (.bool false) := HP.out.cell 3
      have z4 : w4.drew.cell? ⟨b8, 4, none⟩ = some (.bool false) := HP.out.cell 4
      have z5 : w4.drew.cell? ⟨b8, 5, none⟩ = some (.int .i64 0) := HP.out.cell 5
      have z6 : w4.drew.cell? ⟨b8, 6, none⟩ = some (.bool false) := HP.out.cell 6
      have z7 : w4.drew.cell? ⟨b8, 7, none⟩ = some (.bool false) := HP.out.cell 7
      have z8 : w4.drew.cell? ⟨b8, 8, none⟩ = some (.int .i64 0) := HP.out.cell 8
      have z9 : w4.drew.cell? ⟨b8, 9, none⟩ = some (.bool false) := HP.out.cell 9
      have z10 : w4.drew.cell? ⟨b8, 10, none⟩ = some (.bool false) := HP.out.cell 10
      have z11 : w4.drew.cell? ⟨b8, 11, none⟩ = some (.int .i64 0) := HP.out.cell 11
      have z12 : w4.drew.cell? ⟨b8, 12, none⟩ = some (.bool false) := HP.out.cell 12
      have z13 : w4.drew.cell? ⟨b8, 13, none⟩ = some (.bool false) := HP.out.cell 13
      have hwr : IntKind.i64.wrap ((i : Int) + 1) = (i : Int) + 1 := IntWalk.i64_in _ (by omega)
      refine wp_region_held_drew (S := fun w' => w'.cell? ⟨b8, 0, none⟩ = some (.int .i64 5) ∧ w'.cell? ⟨b8, 1, none⟩ = some (.int .i64 ((i : Int) + 1)) ∧ w'.cell? ⟨b8, 2, none⟩ = some (.int .i64 0) ∧ w'.cell? ⟨b8, 3, none⟩ = some (.bool false) ∧ w'.cell? ⟨b8, 4, none⟩ = some (.bool false) ∧ w'.cell? ⟨b8, 5, none⟩ = some (.int .i64 0) ∧ w'.cell? ⟨b8, 6, none⟩ = some (.bool false) ∧ w'.cell? ⟨b8, 7, none⟩ = some (.bool false) ∧ w'.cell? ⟨b8, 8, none⟩ = some (.int .i64 0) ∧ w'.cell? ⟨b8, 9, none⟩ = some (.bool false) ∧ w'.cell? ⟨b8, 10, none⟩ = some (.bool false) ∧ w'.cell? ⟨b8, 11, none⟩ = some (.int .i64 0) ∧ w'.cell? ⟨b8, 12, none⟩ = some (.bool false) ∧ w'.cell? ⟨b8, 13, none⟩ = some (.bool false)) (by kernel_rfl) ⟨HP.out.cell 0, HP.out.cell 1, HP.out.cell 2, HP.out.cell 3, HP.out.cell 4, HP.out.cell 5, HP.out.cell 6, HP.out.cell 7, HP.out.cell 8, HP.out.cell 9, HP.out.cell 10, HP.out.cell 11, HP.out.cell 12, HP.out.cell 13⟩ (fun hHeld => ?_)
      refine wpAnyH_take (i := 0) (oi := { dst := some 44, op := Op.move (Operand.tmp 9), type := 4, pos := "law.go:201", after := #[], guard := none }) (v := .bool true) rfl (by kernel_rfl) (by kernel_rfl) (by kernel_rfl) (fun _ _ _ h => h) (Or.inl ⟨by rfl, ?_⟩) (by assumption) ?_
      · (intro w hSw; (try dsimp only at hSw); go_simp)
      try simp only [Act.put, List.setIfInBounds_toArray, List.set_cons_zero, List.set_cons_succ]
      refine wpAnyH_take (i := 1) (oi := { dst := some 45, op := Op.move (Operand.tmp 6), type := 4, pos := "law.go:201", after := #[], guard := none }) (v := .bool true) rfl (by kernel_rfl) (by kernel_rfl) (by kernel_rfl) (fun _ _ _ h => h) (Or.inl ⟨by rfl, ?_⟩) (by assumption) ?_
      · (intro w hSw; (try dsimp only at hSw); go_simp)
      try simp only [Act.put, List.setIfInBounds_toArray, List.set_cons_zero, List.set_cons_succ]
      refine wpAnyH_take (i := 2) (oi := { dst := some 46, op := Op.binOp BinOp.neq 4 (Operand.tmp 44) (Operand.tmp 45) 4, type := 4, pos := "law.go:201", after := #[{ on := 0, ground := Ground.data }, { on := 1, ground := Ground.data }], guard := none }) (v := .bool false) rfl (by kernel_rfl) (by kernel_rfl) (by kernel_rfl) (fun _ _ _ h => h) (Or.inl ⟨by rfl, ?_⟩) (by assumption) ?_
      · (intro w hSw; (try dsimp only at hSw); go_simp)
      try simp only [Act.put, List.setIfInBounds_toArray, List.set_cons_zero, List.set_cons_succ]
      refine wpAnyH_take (i := 3) (oi := { dst := some 47, op := Op.move (Operand.tmp 46), type := 4, pos := "law.go:201", after := #[{ on := 2, ground := Ground.data }], guard := none }) (v := .bool false) rfl (by kernel_rfl) (by kernel_rfl) (by kernel_rfl) (fun _ _ _ h => h) (Or.inl ⟨by rfl, ?_⟩) (by assumption) ?_
      · (intro w hSw; (try dsimp only at hSw); go_simp)
      try simp only [Act.put, List.setIfInBounds_toArray, List.set_cons_zero, List.set_cons_succ]
      refine wpAnyH_take (i := 4) (oi := { dst := some 48, op := Op.move (Operand.tmp 6), type := 4, pos := "law.go:201", after := #[{ on := 3, ground := Ground.guard }], guard := some (3, false) }) (v := .bool true) rfl (by kernel_rfl) (by kernel_rfl) (by kernel_rfl) (fun _ _ _ h => h) (Or.inl ⟨by rfl, ?_⟩) (by assumption) ?_
      · (intro w hSw; (try dsimp only at hSw); go_simp)
      try simp only [Act.put, List.setIfInBounds_toArray, List.set_cons_zero, List.set_cons_succ]
      refine wpAnyH_take (i := 5) (oi := { dst := some 49, op := Op.move (Operand.tmp 48), type := 4, pos := "law.go:201", after := #[{ on := 4, ground := Ground.data }, { on := 3, ground := Ground.chain }, { on := 3, ground := Ground.guard }], guard := some (3, false) }) (v := .bool true) rfl (by kernel_rfl) (by kernel_rfl) (by kernel_rfl) (fun _ _ _ h => h) (Or.inl ⟨by rfl, ?_⟩) (by assumption) ?_
      · (intro w hSw; (try dsimp only at hSw); go_simp)
      try simp only [Act.put, List.setIfInBounds_toArray, List.set_cons_zero, List.set_cons_succ]
      refine wpAnyH_take (i := 6) (oi := { dst := some 50, op := Op.load 46 (Operand.tmp 8), type := 46, pos := "law.go:201", after := #[{ on := 5, ground := Ground.guard }], guard := some (5, true) }) (v := .agg #[.int .i64 5, .int .i64 ((i : Int) + 1), .int .i64 0, .bool false, .bool false, .int .i64 0, .bool false, .bool false, .int .i64 0, .bool false, .bool false, .int .i64 0, .bool false, .bool false]) rfl (by kernel_rfl) (by kernel_rfl) (by kernel_rfl) (fun _ _ _ h => h) (Or.inl ⟨by rfl, ?_⟩) (by assumption) ?_
      · (intro w hSw; (try dsimp only at hSw); go_simp)
      try simp only [Act.put, List.setIfInBounds_toArray, List.set_cons_zero, List.set_cons_succ]
      refine wpAnyH_take (i := 7) (oi := { dst := some 51, op := Op.move (Operand.tmp 7), type := 3, pos := "law.go:201", after := #[{ on := 5, ground := Ground.guard }], guard := some (5, true) }) (v := .int .i64 (i : Int)) rfl (by kernel_rfl) (by kernel_rfl) (by kernel_rfl) (fun _ _ _ h => h) (Or.inl ⟨by rfl, ?_⟩) (by assumption) ?_
      · (intro w hSw; (try dsimp only at hSw); go_simp)
      try simp only [Act.put, List.setIfInBounds_toArray, List.set_cons_zero, List.set_cons_succ]
      refine wpAnyH_take (i := 8) (oi := { dst := some 52, op := Op.binOp BinOp.add 3 (Operand.tmp 51) (Operand.const (Value.int IntKind.i64 1)) 3, type := 3, pos := "law.go:201", after := #[{ on := 7, ground := Ground.data }, { on := 5, ground := Ground.guard }], guard := some (5, true) }) (v := .int .i64 ((i : Int) + 1)) rfl (by kernel_rfl) (by kernel_rfl) (by kernel_rfl) (fun _ _ _ h => h) (Or.inl ⟨by rfl, ?_⟩) (by assumption) ?_
      · (intro w hSw; (try dsimp only at hSw); go_simp)
      try simp only [Act.put, List.setIfInBounds_toArray, List.set_cons_zero, List.set_cons_succ]
      refine wpAnyH_ready (rs := [9]) (by kernel_rfl) (by simp) ?_
      refine AllReadyH.cons (o := { dst := some 53, op := Op.call { callee := Callee.value (Operand.func 19), args := #[Operand.tmp 52, Operand.const (Value.int IntKind.i64 0)], argTypes := #[3, 2] }, type := 46, pos := "law.go:201", after := #[{ on := 8, ground := Ground.data }, { on := 5, ground := Ground.chain }, { on := 5, ground := Ground.guard }], guard := some (5, true) }) rfl (fun K hK => ?_) AllReadyH.nil
      go_simp
      refine (rptrC _ 0 (by omega) _).mono ?_
      rintro en wn ⟨rfl, hbn⟩
      replace HM := hide (HM.out.below hbn)
      replace HP := hide (HP.out.below' hbn)
      clear hbn hHeld
      refine hK.out _ _ ⟨HP.out.cell 0, HP.out.cell 1, HP.out.cell 2, HP.out.cell 3, HP.out.cell 4, HP.out.cell 5, HP.out.cell 6, HP.out.cell 7, HP.out.cell 8, HP.out.cell 9, HP.out.cell 10, HP.out.cell 11, HP.out.cell 12, HP.out.cell 13⟩ (fun hHeld => ?_)
      clear hK K
      try simp only [Act.put, List.setIfInBounds_toArray, List.set_cons_zero, List.set_cons_succ]
      refine wpAnyH_take (i := 10) (oi := { dst := some 54, op := Op.binOp BinOp.neq 46 (Operand.tmp 50) (Operand.tmp 53) 46, type := 4, pos := "law.go:201", after := #[{ on := 6, ground := Ground.data }, { on := 9, ground := Ground.data }, { on := 5, ground := Ground.guard }], guard := some (5, true) }) (v := .bool false) rfl (by kernel_rfl) (by kernel_rfl) (by kernel_rfl) (fun _ _ _ h => h) (Or.inl ⟨by rfl, ?_⟩) (by assumption) ?_
      · (intro w hSw; (try dsimp only at hSw); go_simp)
      try simp only [Act.put, List.setIfInBounds_toArray, List.set_cons_zero, List.set_cons_succ]
      refine wpAnyH_take (i := 11) (oi := { dst := some 55, op := Op.pick (Operand.tmp 49) (Operand.tmp 54) (Operand.const (Value.bool false)), type := 4, pos := "law.go:201", after := #[{ on := 5, ground := Ground.data }, { on := 10, ground := Ground.data }, { on := 3, ground := Ground.guard }], guard := some (3, false) }) (v := .bool false) rfl (by kernel_rfl) (by kernel_rfl) (by kernel_rfl) (fun _ _ _ h => h) (Or.inl ⟨by rfl, ?_⟩) (by assumption) ?_
      · (intro w hSw; (try dsimp only at hSw); go_simp)
      try simp only [Act.put, List.setIfInBounds_toArray, List.set_cons_zero, List.set_cons_succ]
      refine wpAnyH_take (i := 12) (oi := { dst := some 56, op := Op.pick (Operand.tmp 47) (Operand.const (Value.bool true)) (Operand.tmp 55), type := 4, pos := "law.go:201", after := #[{ on := 3, ground := Ground.data }, { on := 11, ground := Ground.data }], guard := none }) (v := .bool false) rfl (by kernel_rfl) (by kernel_rfl) (by kernel_rfl) (fun _ _ _ h => h) (Or.inl ⟨by rfl, ?_⟩) (by assumption) ?_
      · (intro w hSw; (try dsimp only at hSw); go_simp)
      try simp only [Act.put, List.setIfInBounds_toArray, List.set_cons_zero, List.set_cons_succ]
      refine wpAnyH_take (i := 13) (oi := { dst := some 57, op := Op.move (Operand.tmp 56), type := 4, pos := "law.go:201", after := #[{ on := 12, ground := Ground.data }, { on := 9, ground := Ground.chain }], guard := none }) (v := .bool false) rfl (by kernel_rfl) (by kernel_rfl) (by kernel_rfl) (fun _ _ _ h => h) (Or.inl ⟨by rfl, ?_⟩) (by assumption) ?_
      · (intro w hSw; (try dsimp only at hSw); go_simp)
      try simp only [Act.put, List.setIfInBounds_toArray, List.set_cons_zero, List.set_cons_succ]
      refine wpAnyH_take (i := 14) (oi := { dst := some 58, op := Op.move (Operand.tmp 6), type := 4, pos := "law.go:201", after := #[{ on := 13, ground := Ground.guard }], guard := some (13, false) }) (v := .bool true) rfl (by kernel_rfl) (by kernel_rfl) (by kernel_rfl) (fun _ _ _ h => h) (Or.inl ⟨by rfl, ?_⟩) (by assumption) ?_
      · (intro w hSw; (try dsimp only at hSw); go_simp)
      try simp only [Act.put, List.setIfInBounds_toArray, List.set_cons_zero, List.set_cons_succ]
      refine wpAnyH_take (i := 15) (oi := { dst := some 59, op := Op.unOp UnOp.not 4 (Operand.tmp 58), type := 4, pos := "law.go:201", after := #[{ on := 14, ground := Ground.data }, { on := 13, ground := Ground.guard }], guard := some (13, false) }) (v := .bool false) rfl (by kernel_rfl) (by kernel_rfl) (by kernel_rfl) (fun _ _ _ h => h) (Or.inl ⟨by rfl, ?_⟩) (by assumption) ?_
      · (intro w hSw; (try dsimp only at hSw); go_simp)
      try simp only [Act.put, List.setIfInBounds_toArray, List.set_cons_zero, List.set_cons_succ]
      refine wpAnyH_take (i := 16) (oi := { dst := some 60, op := Op.move (Operand.tmp 59), type := 4, pos := "law.go:201", after := #[{ on := 15, ground := Ground.data }, { on := 13, ground := Ground.chain }, { on := 13, ground := Ground.guard }], guard := some (13, false) }) (v := .bool false) rfl (by kernel_rfl) (by kernel_rfl) (by kernel_rfl) (fun _ _ _ h => h) (Or.inl ⟨by rfl, ?_⟩) (by assumption) ?_
      · (intro w hSw; (try dsimp only at hSw); go_simp)
      try simp only [Act.put, List.setIfInBounds_toArray, List.set_cons_zero, List.set_cons_succ]
      refine wpAnyH_take (i := 17) (oi := { dst := some 61, op := Op.load 46 (Operand.tmp 8), type := 46, pos := "law.go:201", after := #[{ on := 16, ground := Ground.guard }], guard := some (16, true) }) (v := undef) rfl (by kernel_rfl) (by kernel_rfl) (by kernel_rfl) (fun _ _ _ h => h) (Or.inr ⟨by rfl, rfl⟩) (by assumption) ?_
      try simp only [Act.put, List.setIfInBounds_toArray, List.set_cons_zero, List.set_cons_succ]
      refine wpAnyH_take (i := 18) (oi := { dst := some 62, op := Op.build 46 #[], type := 46, pos := "law.go:201", after := #[{ on := 16, ground := Ground.guard }], guard := some (16, true) }) (v := undef) rfl (by kernel_rfl) (by kernel_rfl) (by kernel_rfl) (fun _ _ _ h => h) (Or.inr ⟨by rfl, rfl⟩) (by assumption) ?_
      try simp only [Act.put, List.setIfInBounds_toArray, List.set_cons_zero, List.set_cons_succ]
      refine wpAnyH_take (i := 19) (oi := { dst := some 63, op := Op.binOp BinOp.neq 46 (Operand.tmp 61) (Operand.tmp 62) 46, type := 4, pos := "law.go:201", after := #[{ on := 17, ground := Ground.data }, { on := 18, ground := Ground.data }, { on := 16, ground := Ground.guard }], guard := some (16, true) }) (v := undef) rfl (by kernel_rfl) (by kernel_rfl) (by kernel_rfl) (fun _ _ _ h => h) (Or.inr ⟨by rfl, rfl⟩) (by assumption) ?_
      try simp only [Act.put, List.setIfInBounds_toArray, List.set_cons_zero, List.set_cons_succ]
      refine wpAnyH_take (i := 20) (oi := { dst := some 64, op := Op.pick (Operand.tmp 60) (Operand.tmp 63) (Operand.const (Value.bool false)), type := 4, pos := "law.go:201", after := #[{ on := 16, ground := Ground.data }, { on := 19, ground := Ground.data }, { on := 13, ground := Ground.guard }], guard := some (13, false) }) (v := .bool false) rfl (by kernel_rfl) (by kernel_rfl) (by kernel_rfl) (fun _ _ _ h => h) (Or.inl ⟨by rfl, ?_⟩) (by assumption) ?_
      · (intro w hSw; (try dsimp only at hSw); go_simp)
      try simp only [Act.put, List.setIfInBounds_toArray, List.set_cons_zero, List.set_cons_succ]
      refine wpAnyH_take (i := 21) (oi := { dst := some 65, op := Op.pick (Operand.tmp 57) (Operand.const (Value.bool true)) (Operand.tmp 64), type := 4, pos := "law.go:201", after := #[{ on := 13, ground := Ground.data }, { on := 20, ground := Ground.data }], guard := none }) (v := .bool false) rfl (by kernel_rfl) (by kernel_rfl) (by kernel_rfl) (fun _ _ _ h => h) (Or.inl ⟨by rfl, ?_⟩) (by assumption) ?_
      · (intro w hSw; (try dsimp only at hSw); go_simp)
      try simp only [Act.put, List.setIfInBounds_toArray, List.set_cons_zero, List.set_cons_succ]
      refine wpAnyH_done (by kernel_rfl) ?_ _
      go_wp2_with fail
      go_roundw
      case rel => exact ⟨i + 1, by push_cast; rfl, by omega, HM.out⟩
      case measure => simp [intOf]; omega
    · obtain rfl : i = 3 := by omega
      go_wp2_with fail
      go_loopw [10] (fun v W => ∃ j : Nat, v = .int .i64 (j : Int) ∧ j ≤ 397 ∧ LmAt w W x (j + 4)) (fun v _ => 397 - (intOf v).toNat)
      case atStart => exact ⟨0, rfl, by omega, HM.out⟩
      case round =>
        obtain ⟨j, rfl, hj, hS⟩ := hrel
        replace HM := hide hS
        clear hS
        by_cases hlt : j < 397
        · have d1 : decide ((j : Int) < 397) = true := by simp; omega
          have d2 : decide (j < 397) = true := by simp; omega
          go_wp2_with fail
          refine (lm_alloca HM.out (by omega) (by omega) _ rfl 2 ⟨by decide, by decide⟩ 1 ⟨by decide, by decide⟩).mono ?_
          rintro en w3 ⟨rfl, hS⟩
          replace HM := hide hS
          clear hS
          go_wp2_with fail
          refine (lm_rel (HM.out.below ((Below.refl _ _).alloc (Nat.le_refl _) _)) (by omega) (by omega) 0).mono ?_
          rintro en w4 ⟨rfl, hS⟩
          replace HM := hide hS
          clear hS
          go_wp2_with fail
          go_roundw
          case rel => exact ⟨_, _, _, _, _, _, _, _, _, _, _, _, _, _, _, _, _, _, _, _, ⟨j + 1, by push_cast; rfl, by omega, by rw [show j + 1 + 4 = j + 4 + 1 by omega]; exact HM.out⟩, rfl⟩
          case measure => simp [intOf]; omega
        · obtain rfl : j = 397 := by omega
          go_wp2_with fail
          refine (lm_no HM.out (by omega) (by omega) 2 1 (.inr (.inr (.inr rfl)))).mono ?_
          rintro en w3 ⟨rfl, hS⟩
          replace HM := hide hS
          clear hS
          have HM2 := hide (HM.out.below ((Below.refl _ _).alloc (Nat.le_refl _) (.cells #[.int .i64 0, .int .i64 0, .int .i64 0, .bool false, .bool false, .int .i64 0, .bool false, .bool false, .int .i64 0, .bool false, .bool false, .int .i64 0, .bool false, .bool false] 46)))
          go_wp2_with fail
          refine (works_any _ (HT0.out.below HM2.out.b)).mono ?_
          rintro en wn ⟨rfl, hbn⟩
          replace HM := hide (HM2.out.below hbn)
          clear HM2 hbn
          go_wp2_with fail
          go_ret
          exact ⟨rfl, HM.out.b⟩
end Go.Proofs.YtjphechnadoblaaDoor
namespace Go.Proofs.YtjphechnadoblaaDoor
open Go.RowKit Go.ChangeShapes Go.WideShapes

theorem Fr.frm {B x : Nat} {OV : Value} {w w' : World} (hf : Fr x OV w w') (hb : Below B w w') : Frm w w' (x :: OV.ownBlock.toList) :=
  ⟨hb.os, hb.tape, hb.output, hb.size, fun i hi hn => hf i hi (fun e => hn (by simp [e])) (fun e => hn (by simp [e]))⟩
theorem rowFrm {w w' : World} {base size n : Nat} {e : TypeId} {v : Value} {xs : List Value} {S : List Nat} (h : w.ownsRow base e size v n xs) (hf : Frm w w' S) (hv : ∀ g, v.ownBlock = some g → g ∉ S) : w'.ownsRow base e size v n xs := by
  obtain ⟨hl, h2 | ⟨g, cap, cur, e1, hb, hg, r⟩⟩ := h
  · exact ⟨hl, .inl h2⟩
  · subst e1
    exact ⟨hl, .inr ⟨g, cap, cur, rfl, hb, (hf.block g (Array.getElem?_eq_some_iff.1 hg).1 (hv g rfl)).trans hg, r⟩⟩
theorem MemP.frm {w w' : World} {B x : Nat} {sp OV : Value} {gl : Int} {os : List OD} {S : List Nat} (h : MemP w B x sp OV gl os) (hf : Frm w w' S) (hx : x ∉ S) (hO : ∀ k, OV.ownBlock = some k → k ∉ S) (hv : ∀ (i : Nat) (o : OD), os[i]? = some o → o.vs ≠ [] → o.g ∉ S) : MemP w' B x sp OV gl os :=
  ⟨h.lx, (hf.block x h.m.lt hx).trans h.m, rowFrm h.own hf hO, h.ax, fun i o ho hn => by
    obtain ⟨h1, h2, h3, h4⟩ := h.vals i o ho hn
    exact ⟨h1, h2, h3, (hf.block o.g h4.lt (hv i o ho hn)).trans h4⟩, h.sep⟩
/-- The block of a row, as it lies. -/
theorem row_block {w : World} {base size n k : Nat} {e : TypeId} {v : Value} {xs : List Value} (h : w.ownsRow base e size v n xs) (hk : v.ownBlock = some k) : ∃ cur, w.heap[k]? = some (.cells cur e (0, 0)) := by
  obtain ⟨_, ⟨e1, _⟩ | ⟨g, cap, cur, e1, _, hg, _⟩⟩ := h
  · rw [e1] at hk; cases hk
  · subst e1
    obtain rfl : g = k := Option.some.inj hk
    exact ⟨cur, hg⟩
theorem whole_block {w : World} {k : Nat} {e : TypeId} {cs : Array Value} (h : Whole w k e cs) : w.heap[k]? = some (.cells cs e (0, 0)) := h
theorem block_ne {w : World} {g k : Nat} {e T : TypeId} {c1 c2 : Array Value} (h1 : w.heap[g]? = some (.cells c1 e (0, 0))) (h2 : w.heap[k]? = some (.cells c2 T (0, 0))) (hne : e ≠ T) : g ≠ k := by
  intro hgk
  subst hgk
  rw [h1] at h2
  injection h2 with h2
  injection h2 with _ h2
  exact hne h2

/-- What the law's loop keeps. -/
structure NA (w W : World) (B x : Nat) (OV : Value) (os : List OD) (AV : Value) (ys : List Value) : Prop where
  m : MemAt W B x OV 1 os
  lb : w.heap.size ≤ B
  b : Below w.heap.size w W
  al : OwnV W w.heap.size 4 AV ys
theorem NA.below {w W W' : World} {B x : Nat} {OV AV : Value} {os : List OD} {ys : List Value} (h : NA w W B x OV os AV ys) (hb : Below W.heap.size W W') : NA w W' B x OV os AV ys :=
  ⟨h.m.below hb, h.lb, Below.all h.b hb, h.al.below' hb⟩
theorem NA.apart {w W : World} {B x : Nat} {OV AV : Value} {os : List OD} {ys : List Value} (h : NA w W B x OV os AV ys) {k : Nat} (hk : AV.ownBlock = some k) :
    k ≠ x ∧ OV.ownBlock ≠ some k ∧ ∀ (i : Nat) (o : OD), os[i]? = some o → o.vs ≠ [] → o.g ≠ k := by
  obtain ⟨cur, hc⟩ := row_block h.al hk
  refine ⟨fun e => block_ne hc (whole_block h.m.m) (by decide) e, fun e => ?_, fun i o ho hn => ?_⟩
  · obtain ⟨c2, h2⟩ := row_block h.m.own e
    exact block_ne hc h2 (by decide) rfl
  · exact block_ne (whole_block (h.m.vals i o ho hn).2.2.2) hc (by decide)
/-- Behind a call of the memory's that turns nothing but its own. -/
theorem NA.turn {w W W' : World} {B x : Nat} {OV OV' AV : Value} {os os' : List OD} {ys : List Value} (h : NA w W B x OV os AV ys) (hM : MemAt W' B x OV' 1 os') (hb : Below B W W') (hf : Fr x OV W W') : NA w W' B x OV' os' AV ys :=
  ⟨hM, h.lb, h.b.trans (hb.mono h.lb), h.al.frm (hf.frm hb) (fun g hg => by
    obtain ⟨h1, h2, _⟩ := h.apart hg
    simp only [List.mem_cons, Option.mem_toList, not_or]
    exact ⟨h1, h2⟩)⟩
/-- Behind an append to the list. -/
theorem NA.push {w W W1 W' : World} {B x : Nat} {OV AV AV' : Value} {os : List OD} {ys ys' : List Value} (h : NA w W B x OV os AV ys) (h1 : NA w W1 B x OV os AV ys) (hA : OwnV W' w.heap.size 4 AV' ys') (hf : Frm W1 W' AV.ownBlock.toList) : NA w W' B x OV os AV' ys' := by
  have _ := h
  refine ⟨h1.m.frm hf ?_ ?_ ?_, h1.lb, ?_, hA⟩
  · intro hx
    obtain hk := Option.mem_toList.1 hx
    exact (h1.apart hk).1 rfl
  · intro k hk hx
    exact (h1.apart (Option.mem_toList.1 hx)).2.1 hk
  · intro i o ho hn hx
    exact (h1.apart (Option.mem_toList.1 hx)).2.2 i o ho hn rfl
  · exact ⟨hf.os.trans h1.b.os, hf.tape.trans h1.b.tape, hf.output.trans h1.b.output, Nat.le_trans h1.b.size hf.size, fun i hi => (hf.block i (Nat.lt_of_lt_of_le hi h1.b.size) (fun hx => by
      have := (h1.al.size i (Option.mem_toList.1 hx)).1
      omega)).trans (h1.b.block i hi)⟩
/-- Behind a store into the list. -/
theorem NA.set {w W : World} {B x g n cap : Nat} {OV : Value} {os : List OD} {ys : List Value} (h : NA w W B x OV os (.slice (some ⟨g, 0, none⟩) n cap) ys) (j : Nat) (u : Value) :
    NA w (W.setCell ⟨g, j, none⟩ u) B x OV os (.slice (some ⟨g, 0, none⟩) n cap) (ys.set j u) := by
  obtain ⟨h1, h2, h3⟩ := h.apart (k := g) rfl
  have hg : W.grownBy (W.setCell ⟨g, j, none⟩ u) (some g) := only_set (only_refl W g) j u
  refine ⟨MemP.grown h.m hg (Ne.symm h1) h2 h3, h.lb, h.b.setCell (h.al.size g rfl).1 u, h.al.set j u⟩
/-- The two lists say the same. -/
def Alike (os : List OD) (ys : List Value) : Prop := ys.length = os.length ∧ ∀ (j : Nat) (o : OD), os[j]? = some o →
  (ys[j]? = some (.bool true) ∧ o.el = 3 ∧ 1 ≤ o.vs.length ∧ o.vs.length ≤ 256 ∧ (o.vs[0]?).map VD.o = some 0) ∨ (ys[j]? = some (.bool false) ∧ o = goneO)
end Go.Proofs.YtjphechnadoblaaDoor
namespace Go.Proofs.YtjphechnadoblaaDoor
open Go.RowKit Go.ChangeShapes Go.WideShapes

theorem elemBool : ElemV Tryd.prog 57 4 (.bool false) 1 := ⟨Tryd.underlying57, rfl, by
  have h : (Tryd.prog.info? 4).map (fun i => (i.zero, i.size, i.bytes)) = some (some (.bool false), 1, 1) := by kernel_rfl
  obtain ⟨i, hi, h2⟩ := Option.map_eq_some_iff.1 h
  simp only [Prod.mk.injEq] at h2
  exact ⟨i, hi, h2.1, h2.2.1, h2.2.2⟩⟩
theorem rdv1 (w : World) (T : TypeId) (z : Value) : RdV (w.alloc (.cells #[z] T)) (.slice (some ⟨w.heap.size, 0, none⟩) 1 1) [z] :=
  ⟨_, 1, rfl, by simp, by decide, fun _ => ⟨w.heap.size, 0, rfl, (Whole.new w T #[z]).lt, fun j u hu => by
    cases j with
    | zero => obtain rfl : z = u := by simpa using hu
              exact (Whole.new w T #[z]).cell 0
    | succ j => simp at hu⟩⟩
theorem alike_new (q : Nat) : Alike [pairO q] [.bool true] := by
  refine ⟨rfl, fun j o hj => ?_⟩
  cases j with
  | zero => obtain rfl : o = pairO q := by simpa using hj.symm
            exact .inl ⟨rfl, rfl, by simp [pairO], by simp [pairO], rfl⟩
  | succ j => simp at hj
theorem alike_push {os : List OD} {ys : List Value} (h : Alike os ys) (n g : Nat) (hn : 1 ≤ n ∧ n ≤ 256) : Alike (os ++ [⟨3, false, List.replicate n (pV 3), g⟩]) (ys ++ [.bool true]) := by
  obtain ⟨hl, h⟩ := h
  refine ⟨by simp [hl], fun j o hj => ?_⟩
  rcases Nat.lt_or_ge j os.length with hlt | hge
  · rw [List.getElem?_append_left hlt] at hj
    rw [List.getElem?_append_left (by omega)]
    exact h j o hj
  · rw [List.getElem?_append_right hge] at hj
    rcases Nat.eq_zero_or_pos (j - os.length) with h0 | h0
    · rw [h0] at hj
      obtain rfl : o = ⟨3, false, List.replicate n (pV 3), g⟩ := by simpa using hj.symm
      refine .inl ⟨by rw [List.getElem?_append_right (by omega), hl, h0]; rfl, rfl, by simpa using hn.1, by simpa using hn.2, ?_⟩
      rw [List.getElem?_replicate, if_pos (by omega)]
      rfl
    · rw [List.getElem?_eq_none (by simp; omega)] at hj; cases hj
/-- The list, those from m on and below j struck. -/
def strike (ys : List Value) (m j : Nat) : List Value := ys.mapIdx fun i y => if m ≤ i ∧ i < j then .bool false else y
theorem strike_len (ys : List Value) (m j : Nat) : (strike ys m j).length = ys.length := by simp [strike]
theorem strike_start (ys : List Value) (m : Nat) : strike ys m m = ys := by
  apply List.ext_getElem?
  intro i
  simp only [strike, List.getElem?_mapIdx]
  cases ys[i]? with
  | none => rfl
  | some y => simp; intro h1 h2; omega
theorem strike_step (ys : List Value) (m j : Nat) (h1 : m ≤ j) (h2 : j < ys.length) : (strike ys m j).set j (.bool false) = strike ys m (j + 1) := by
  apply List.ext_getElem?
  intro i
  by_cases e : i = j
  · subst e
    rw [List.getElem?_set_self (by rw [strike_len]; exact h2)]
    simp only [strike, List.getElem?_mapIdx, List.getElem?_eq_getElem h2]
    simp [h1]
  · rw [List.getElem?_set_ne (fun h => e h.symm)]
    simp only [strike, List.getElem?_mapIdx]
    cases ys[i]? with
    | none => rfl
    | some y =>
      simp only [Option.map_some, Option.some.injEq]
      by_cases h3 : m ≤ i ∧ i < j
      · rw [if_pos h3, if_pos ⟨h3.1, by omega⟩]
      · rw [if_neg h3, if_neg (by omega)]
theorem alike_rel {os : List OD} {ys : List Value} (h : Alike os ys) (m : Nat) (_ : 1 ≤ m) (mark : Int) (hmk : max mark 1 = (m : Int)) (j : Nat) (hj : os.length ≤ j) : Alike (relO os (max mark 1)) (strike ys m j) := by
  obtain ⟨hl, h⟩ := h
  refine ⟨by rw [strike_len, relO_len, hl], fun i o hi => ?_⟩
  simp only [relO, List.getElem?_mapIdx] at hi
  have hil : i < os.length := by
    rcases Nat.lt_or_ge i os.length with h1 | h1
    · exact h1
    · rw [List.getElem?_eq_none h1] at hi; cases hi
  rw [List.getElem?_eq_getElem hil] at hi
  simp only [Option.map_some, Option.some.injEq] at hi
  simp only [strike, List.getElem?_mapIdx]
  by_cases hmi : m ≤ i
  · rw [if_pos (by omega)] at hi
    refine .inr ⟨?_, hi.symm⟩
    rw [List.getElem?_eq_getElem (by omega)]
    simp only [Option.map_some]
    rw [if_pos ⟨hmi, by omega⟩]
  · rw [if_neg (by omega)] at hi
    have h2 := h i os[i] (List.getElem?_eq_getElem hil)
    rw [hi] at h2
    have e : (ys[i]?.map fun y => if m ≤ i ∧ i < j then Value.bool false else y) = ys[i]? := by
      cases ys[i]? with
      | none => rfl
      | some y => simp only [Option.map_some]; rw [if_neg (by omega)]
    rw [e]
    exact h2
set_option maxRecDepth 100000 in
set_option maxHeartbeats 2000000 in
theorem numbers_law (A : Option Addr) (c : Nat) (l : List Int) (hu : ∀ z ∈ l, 0 ≤ z ∧ z ≤ 255) (w : World) (hT : Tab w) (hr : Rd w .u8 (.slice A l.length c) l) : Calls Tryd.prog 5 #[.slice A l.length c] w fun e w' => e = .returned (.bool true) ∧ Below w.heap.size w w' := by
  have HT0 := hide hT
  have HR := hide hr
  have HU := hide hu
  clear hT hr hu
  by_cases h100 : 100 < l.length
  · have d1 : decide (100 < l.length) = true := by simpa using h100
    have d2 : decide ((100 : Int) < (l.length : Int)) = true := by simp; omega
    go_enter Tryd.func5, Tryd.ntmps5
    go_wp2_with fail
    refine (works_any w HT0.out).mono ?_
    rintro en w1 ⟨rfl, hb⟩
    go_wp2_with fail
    go_ret
    exact ⟨rfl, hb⟩
  · have d1 : decide (100 < l.length) = false := by simpa using h100
    have d2 : decide ((100 : Int) < (l.length : Int)) = false := by simp; omega
    go_enter Tryd.func5, Tryd.ntmps5
    go_wp2_with fail
    refine (pair_any w).mono ?_
    rintro en w1 ⟨b, g, rfl, hG, hb1⟩
    go_wp2_with fail
    refine (pairnew_any b g w1 (HT0.out.below hb1) hG).mono ?_
    rintro en w2 ⟨x, OV, q, rfl, hM, hb2⟩
    have HN : Hid (NA w (w2.alloc (.cells #[.bool true] 4)) w1.heap.size x OV [pairO q] (.slice (some ⟨w2.heap.size, 0, none⟩) 1 1) [.bool true]) := hide (by
      have hbn : Below w2.heap.size w2 (w2.alloc (.cells #[.bool true] 4)) := (Below.refl _ _).alloc (Nat.le_refl _) _
      have hb := Below.all hb1 hb2
      exact ⟨hM.below hbn, hb1.size, Below.all hb hbn, rfl, .inr ⟨w2.heap.size, 1, _, rfl, hb.size, Whole.new _ _ _, by decide, by decide, rfl, rfl⟩⟩)
    clear hM hb2 hG hb1
    have hpn := fun W => ptrNil ⟨x, 0, none⟩ W
    go_wp2_with fail
    go_loopw [4, 5, 27] (fun n a v W => ∃ (i : Nat) (OV : Value) (os : List OD) (ys : List Value), v = .int .i64 (i : Int) ∧ i ≤ l.length ∧ n = .int .i64 (os.length : Int) ∧ os.length ≤ i + 1 ∧ 1 ≤ os.length ∧ NA w W w1.heap.size x OV os a ys ∧ Alike os ys) (fun _ _ v _ => l.length - (intOf v).toNat)
    case atStart => exact ⟨0, OV, [pairO q], [.bool true], rfl, by omega, rfl, by simp, by simp, HN.out, alike_new q⟩
    case round =>
      clear HN
      obtain ⟨i, OV, os, ys, rfl, hi, rfl, hn1, hn2, hN, hA⟩ := hrel
      have HN := hide hN
      have HA := hide hA
      clear hN hA
      by_cases hlt : i < l.length
      · obtain ⟨z, hz⟩ : ∃ z, l[i]? = some z := ⟨_, List.getElem?_eq_getElem hlt⟩
        have hz1 := HU.out z (List.mem_of_getElem? hz)
        obtain ⟨bl, off, hA0, hk⟩ := rd_at (HR.out.below HN.out.b (Nat.le_refl _)) (by omega)
        have k0 := hk i z hz
        subst hA0
        have HAN := hide HA.out.1
        obtain ⟨ga, ca, hAV, hc1, hc2, _, _⟩ := HN.out.al.form (by have := HAN.out; omega)
        rw [HAN.out] at hAV
        subst hAV
        obtain ⟨N, hNl⟩ : ∃ N, os.length = N := ⟨_, rfl⟩
        rw [hNl] at hn1 hn2 HN HAN
        have HNL := hide hNl
        have d3 : decide (i < l.length) = true := by simpa using hlt
        have d4 : decide ((i : Int) < (l.length : Int)) = true := by simp; omega
        have d5 : (0 : Int) ≤ (i : Int) := by omega
        have d6 : (i : Int) < (l.length : Int) := by omega
        have t3 : z.tmod 3 = z % 3 := Int.tmod_eq_emod_of_nonneg (by omega)
        have t5 : z.tmod 5 = z % 5 := Int.tmod_eq_emod_of_nonneg (by omega)
        have tn : z.tmod ((N : Int) + 1) = z % ((N : Int) + 1) := Int.tmod_eq_emod_of_nonneg (by omega)
        have w1' : IntKind.i64.wrap z = z := IntWalk.i64_in _ (by omega)
        have w2' : IntKind.i64.wrap (1 + z % 5) = 1 + z % 5 := IntWalk.i64_in _ (by omega)
        clear hk hz hc1 hc2
        rw [hNl]
        clear hNl
        by_cases h3 : z % 3 = 0
        · have t6 : decide (0 < z % 3) = false := by simp; omega
          obtain ⟨mk, hmk⟩ : ∃ mk, z % ((N : Int) + 1) = mk := ⟨_, rfl⟩
          rw [hmk] at tn
          have hm0 : 0 ≤ mk := by rw [← hmk]; exact Int.emod_nonneg _ (by omega)
          have hm9 : mk ≤ N := by rw [← hmk]; have := Int.emod_lt_of_pos z (show (0 : Int) < (N : Int) + 1 by omega); omega
          obtain ⟨m, hm⟩ : ∃ m : Nat, max mk 1 = (m : Int) := ⟨(max mk 1).toNat, by omega⟩
          clear hmk
          go_wp2_with fail
          refine (release_any HN.out.m mk (by decide) (by have := HNL.out; omega) (by have := HNL.out; omega)).mono ?_
          rintro en w3 ⟨rfl, hM3, hb3, hf3⟩
          have HN3 := hide (HN.out.turn hM3 hb3 hf3)
          clear hM3 hb3 hf3 k0 HN
          go_wp2_with fail
          go_loopw [11] (fun v W => ∃ j : Nat, v = .int .i64 (j : Int) ∧ m ≤ j ∧ (j ≤ N ∨ j = m) ∧ NA w W w1.heap.size x OV (relO os (max mk 1)) (.slice (some ⟨ga, 0, none⟩) N ca) (strike ys m j)) (fun v _ => N - (intOf v).toNat)
          case atStart => exact ⟨m, by first | rfl | (rw [← hm]) | (rw [hm]) | (congr 1; omega), Nat.le_refl _, .inr rfl, by rw [strike_start]; exact HN3.out⟩
          case round =>
            clear HN3
            obtain ⟨j, rfl, hj1, hj2, hN⟩ := hrel
            have HN := hide hN
            clear hN
            by_cases hjn : j < N
            · obtain ⟨y, hy⟩ : ∃ y, (strike ys m j)[j]? = some y := ⟨_, List.getElem?_eq_getElem (by rw [strike_len, HAN.out]; exact hjn)⟩
              have y0 := HN.out.al.cellAt hy
              have y1 := HN.out.al.freeAt j
              clear hy
              have q1 : decide (j < N) = true := by simpa using hjn
              have q2 : decide ((j : Int) < (N : Int)) = true := by simp; omega
              have q3 : (0 : Int) ≤ (j : Int) := by omega
              have q4 : (j : Int) < (N : Int) := by omega
              have q5 : (N : Int) ≤ 101 := by omega
              go_wp2_with fail
              go_roundw
              case rel =>
                exact ⟨j + 1, by push_cast; rfl, by omega, .inl (by omega), by rw [← strike_step ys m j hj1 (by rw [HAN.out]; exact hjn)]; exact HN.out.set j _⟩
              case measure => simp [intOf]; omega
            · have q1 : decide (j < N) = false := by simpa using hjn
              have q2 : decide ((j : Int) < (N : Int)) = false := by simp; omega
              go_wp2_with fail
              have hmk := mark_any HN.out.m
              rw [relO_len, HNL.out] at hmk
              refine hmk.mono ?_
              rintro en wn ⟨rfl, rfl⟩
              go_wp2_with fail
              go_roundw
              case rel =>
                exact ⟨i + 1, OV, relO os (max mk 1), strike ys m j, by push_cast; rfl, by omega, by rw [relO_len, HNL.out], by rw [relO_len, HNL.out]; omega, by rw [relO_len, HNL.out]; omega, HN.out, alike_rel HA.out m (by omega) mk hm j (by rw [HNL.out]; omega)⟩
              case measure => simp [intOf]; omega
        · have t6 : decide (0 < z % 3) = true := by simp; omega
          obtain ⟨m, hm⟩ : ∃ m : Nat, 1 + z % 5 = (m : Int) := ⟨(1 + z % 5).toNat, by omega⟩
          rw [hm] at w2'
          go_wp2_with fail
          have hal := alloca_ok HN.out.m 3 ⟨by decide, by decide⟩ m ⟨by omega, by omega⟩ (by decide) (by have := HNL.out; omega) (by have := HNL.out; omega) (by have := HNL.out; omega)
          simp only [HNL.out] at hal
          refine hal.mono ?_
          rintro en w3 ⟨rfl, gq, OV3, hM3, hb3, hf3, _⟩
          have HN3 := hide (HN.out.turn hM3 hb3 hf3)
          clear hM3 hb3 hf3 k0 HN hal
          go_upto_region 13 with fail
          obtain ⟨b8, hb8⟩ : ∃ y, w3.heap.size = y := ⟨_, rfl⟩
          obtain ⟨w4, hw4⟩ : ∃ y, w3.alloc (.cells #[.int .i64 5, .int .i64 (N : Int), .int .i64 0, .bool false, .bool false, .int .i64 0, .bool false, .bool false, .int .i64 0, .bool false, .bool false, .int .i64 0, .bool false, .bool false] 46) = y := ⟨_, rfl⟩
          have hbn : Below w3.heap.size w3 w4.drew := by rw [← hw4]; exact ((Below.refl _ _).alloc (Nat.le_refl _) _).drew
          have HP : Hid (Whole w4.drew b8 46 #[.int .i64 5, .int .i64 (N : Int), .int .i64 0, .bool false, .bool false, .int .i64 0, .bool false, .bool false, .int .i64 0, .bool false, .bool false, .int .i64 0, .bool false, .bool false]) := hide (by rw [← hw4, ← hb8]; exact (Whole.new _ _ _).drewN 1)
          replace HN3 := hide (HN3.out.below hbn)
          have e0 : ∀ W, (binOp .neq 46 (.agg #[.int .i64 5, .int .i64 (N : Int), .int .i64 0, .bool false, .bool false, .int .i64 0, .bool false, .bool false, .int .i64 0, .bool false, .bool false, .int .i64 0, .bool false, .bool false]) (.agg #[.int .i64 5, .int .i64 (N : Int), .int .i64 0, .bool false, .bool false, .int .i64 0, .bool false, .bool false, .int .i64 0, .bool false, .bool false, .int .i64 0, .bool false, .bool false])).run Tryd.prog W = .ok (.bool false) W := fun W => nev 5 (N : Int) ⟨0, false, false⟩ zL zL zL W
          simp only [hb8, hw4]
          clear hb8 hw4 hbn
          go_region_held3 (fun w' => w'.cell? ⟨b8, 0, none⟩ = some (.int .i64 5) ∧ w'.cell? ⟨b8, 1, none⟩ = some (.int .i64 (N : Int)) ∧ w'.cell? ⟨b8, 2, none⟩ = some (.int .i64 0) ∧ w'.cell? ⟨b8, 3, none⟩ = some (.bool false) ∧ w'.cell? ⟨b8, 4, none⟩ = some (.bool false) ∧ w'.cell? ⟨b8, 5, none⟩ = some (.int .i64 0) ∧ w'.cell? ⟨b8, 6, none⟩ = some (.bool false) ∧ w'.cell? ⟨b8, 7, none⟩ = some (.bool false) ∧ w'.cell? ⟨b8, 8, none⟩ = some (.int .i64 0) ∧ w'.cell? ⟨b8, 9, none⟩ = some (.bool false) ∧ w'.cell? ⟨b8, 10, none⟩ = some (.bool false) ∧ w'.cell? ⟨b8, 11, none⟩ = some (.int .i64 0) ∧ w'.cell? ⟨b8, 12, none⟩ = some (.bool false) ∧ w'.cell? ⟨b8, 13, none⟩ = some (.bool false)) (exact ⟨HP.out.cell 0, HP.out.cell 1, HP.out.cell 2, HP.out.cell 3, HP.out.cell 4, HP.out.cell 5, HP.out.cell 6, HP.out.cell 7, HP.out.cell 8, HP.out.cell 9, HP.out.cell 10, HP.out.cell 11, HP.out.cell 12, HP.out.cell 13⟩) (first | (go_at_call 19; refine (rptrC _ 0 (by omega) _).mono ?_; rintro en wn ⟨rfl, hbn⟩; replace HN3 := hide (HN3.out.below hbn); replace HP := hide (HP.out.below' hbn); clear hbn))
          all_goals
            go_upto_region 15 with fail
            go_wp2_with (first | (refine wpList_append_v _ rfl _ _ 57 rfl w.heap.size 4 (.bool false) 1 elemBool _ ys rfl (HN3.out.al.alloc _) _ [.bool true] rfl (rdv1 _ 4 _) ?b0 ?b1 ?b2 ?b3 ?_))
            case b0 => intro u hx; obtain rfl : u = .bool true := by simpa using hx
                       rfl
            case b1 => have := HAN.out; simp; omega
            case b2 => have := HAN.out; unfold maxLen; simp; omega
            case b3 => have := HN3.out.b.size; rw [World.size_alloc]; omega
            intro AV' w6 hO hF hbl
            have HN5 := hide (HN3.out.push (HN3.out.below ((Below.refl _ _).alloc (Nat.le_refl _) _)) hO hF)
            clear hO hF hbl HN3 HP
            go_wp2_with fail
            have hmk := mark_any HN5.out.m
            rw [List.length_append, HNL.out] at hmk
            refine hmk.mono ?_
            rintro en wn ⟨rfl, rfl⟩
            go_wp2_with fail
            go_roundw
            case rel =>
              exact ⟨i + 1, OV3, os ++ [⟨3, false, List.replicate m (pV 3), gq⟩], ys ++ [.bool true], by push_cast; rfl, by omega, by simp [HNL.out], by simp [HNL.out]; omega, by simp, HN5.out, alike_push HA.out m gq ⟨by omega, by omega⟩⟩
            case measure => simp [intOf]; omega
      · obtain rfl : i = l.length := by omega
        have HAN := hide HA.out.1
        obtain ⟨ga, ca, hAV, _, _, _, _⟩ := HN.out.al.form (by have := HAN.out; omega)
        rw [HAN.out] at hAV
        subst hAV
        obtain ⟨N, hNl⟩ : ∃ N, os.length = N := ⟨_, rfl⟩
        rw [hNl] at hn1 hn2 HN HAN
        have HNL := hide hNl
        rw [hNl]
        clear hNl
        have t0 : decide (l.length < l.length) = false := by simp
        go_wp2_with fail
        go_loopw [81] (fun v W => ∃ j : Nat, v = .int .i64 (j : Int) ∧ j ≤ N ∧ NA w W w1.heap.size x OV os (.slice (some ⟨ga, 0, none⟩) N ca) ys) (fun v _ => N - (intOf v).toNat)
        case atStart => exact ⟨0, rfl, by omega, HN.out⟩
        case round =>
          clear HN
          obtain ⟨j, rfl, hj, hN⟩ := hrel
          have HN := hide hN
          clear hN
          by_cases hjn : j < N
          · obtain ⟨o, ho⟩ : ∃ o, os[j]? = some o := ⟨_, List.getElem?_eq_getElem (by rw [HNL.out]; exact hjn)⟩
            have q1 : decide (j < N) = true := by simpa using hjn
            have q2 : decide ((j : Int) < (N : Int)) = true := by simp; omega
            have q3 : (0 : Int) ≤ (j : Int) := by omega
            have q4 : (j : Int) < (N : Int) := by omega
            have q5 : (N : Int) ≤ 101 := by omega
            rcases HA.out.2 j o ho with ⟨hy, h1, h2, h3, h4⟩ | ⟨hy, h1⟩
            · have y0 := HN.out.al.cellAt hy
              have HL := hide (fun W (hM : MemAt W w1.heap.size x OV 1 os) hT' => load_at1 hM (by have := HNL.out; omega) hT' (i := j) (k := 0) (o := o) ho h3 3 rfl h1.symm (by decide) (by omega) 0 h4)
              clear hy h1 h2 h3 h4 ho
              go_wp2_with fail
              refine (rptrC _ 0 (by omega) _).mono ?_
              rintro en w5 ⟨rfl, hbn⟩
              replace HN := hide (HN.out.below hbn)
              clear hbn y0
              go_wp2_with fail
              refine (HL.out _ HN.out.m (HT0.out.below HN.out.b)).mono ?_
              rintro en w6 ⟨rfl, hbn⟩
              replace HN := hide (HN.out.below hbn)
              clear hbn
              go_wp2_with fail
              go_roundw
              case rel =>
                exact ⟨j + 1, by push_cast; rfl, by omega, HN.out.below ((Below.refl _ _).alloc (Nat.le_refl _) _)⟩
              case measure => simp [intOf]; omega
            · subst h1
              have y0 := HN.out.al.cellAt hy
              have HL := hide (fun W (hM : MemAt W w1.heap.size x OV 1 os) hT' => loadD hM (by have := HNL.out; omega) ho 3 (by decide) (by decide) hT')
              clear hy ho
              go_wp2_with fail
              refine (rptrC _ 0 (by omega) _).mono ?_
              rintro en w5 ⟨rfl, hbn⟩
              replace HN := hide (HN.out.below hbn)
              clear hbn y0
              go_wp2_with fail
              refine (HL.out _ HN.out.m (HT0.out.below HN.out.b)).mono ?_
              rintro en w6 ⟨rfl, hbn⟩
              replace HN := hide (HN.out.below hbn)
              clear hbn
              go_wp2_with fail
              go_roundw
              case rel =>
                exact ⟨j + 1, by push_cast; rfl, by omega, HN.out.below ((Below.refl _ _).alloc (Nat.le_refl _) _)⟩
              case measure => simp [intOf]; omega
          · obtain rfl : j = N := by omega
            have q1 : decide (j < j) = false := by simp
            go_wp2_with fail
            refine (works_any _ (HT0.out.below HN.out.b)).mono ?_
            rintro en w5 ⟨rfl, hbn⟩
            replace HN := hide (HN.out.below hbn)
            clear hbn
            go_wp2_with fail
            go_ret
            exact ⟨rfl, HN.out.b⟩
end Go.Proofs.YtjphechnadoblaaDoor
namespace Go.Proofs.YtjphechnadoblaaDoor
open Go.ChangeShapes Go.WideShapes Go.ChangeAt Go.RowKit

theorem own : ownKnob Tryd.prog.godebug = none := by kernel_rfl
theorem gTab : Tryd.prog.globalNamed "burnish/intn.widths" = some 1 := by kernel_rfl
theorem gTabType : (Tryd.prog.globals[1]?).map (·.type) = some 183 := by kernel_rfl
theorem cellsTab : Tryd.prog.cellsOf 183 = 5 := by kernel_rfl
theorem cellsInt : Tryd.prog.cellsOf 3 = 1 := by kernel_rfl
theorem mtab_of_laid {W : World} (h : laidMetH Tryd.prog Rows.memoryLimitRow.laid W) : Tab W := by
  have h1 : laidMet Tryd.prog [("burnish/intn.widths", Rows.laid_burnish_intn_widths)] W := laidMetH.filter (fun x => x.1 == "burnish/intn.widths") h
  have ht : Lib.TabIs Tryd.prog W "burnish/intn.widths" .i64 [0, 1, 8, 32, 64] := Lib.tabIs_of_head (rest := []) gTab gTabType Tryd.underlying183 Tryd.underlying3 cellsInt cellsTab h1
  exact ⟨ht.cell gTab 0 (by decide), ht.cell gTab 1 (by decide), ht.cell gTab 2 (by decide), ht.cell gTab 3 (by decide), ht.cell gTab 4 (by decide)⟩

/-- The cells that a value of the list lays, whatever its depth. -/
def cellsOfM : Nat → DataW Unit → List Value
  | 0, _ => []
  | _ + 1, .lit (.int k n) => [.int k n]
  | _ + 1, .lit (.string s) => [.string ⟨s.toArray⟩]
  | m + 1, .agg l => l.flatMap (cellsOfM m)
  | _ + 1, _ => []
def putM (g : Nat) (d : DataW Unit) (hp : Array Obj) : Array Obj := hp.modify g fun
  | .cells _ t frozen => .cells (cellsOfM 4 d).toArray t frozen
  | o => o
noncomputable def memHeap (hp : Array Obj) : Array Obj :=
  putM 1 Rows.laid_burnish_intn_widths (putM 2 Rows.laid_burnish_opcode_rules (putM 0 Rows.laid_burnish_opcode_typeNames hp))
/-- A WORLD FOR THE WITNESS: the settled one, the tables holding what their initialisers lay. -/
noncomputable def memWorld (os : Os) : World :=
  { World.holding Tryd.prog os ⟨#[], #[], []⟩ with heap := memHeap (World.holding Tryd.prog os ⟨#[], #[], []⟩).heap }
end Go.Proofs.YtjphechnadoblaaDoor
namespace Go.Proofs.YtjphechnadoblaaDoor.memoryNumbers
open Go.ChangeShapes Go.WideShapes Go.ChangeAt Go.RowKit

theorem params_ok : ∀ t ∈ (#[54] : Array TypeId).toList, Tryd.prog.readableRec t = true ∧ t < Tryd.prog.types.size := by
  intro t ht
  have hall : ((#[54] : Array TypeId).toList.all fun u => Tryd.prog.readableRec u && decide (u < Tryd.prog.types.size)) = true := by kernel_rfl
  have := List.all_eq_true.1 hall t ht
  simpa using this

set_option maxRecDepth 100000 in
theorem contract (H : Type) (enc : TypeId × Value → H) (W : World) (base : Nat) (args : Array Value) (ds gs : List (DataW H)) (before : List MemPlace)
    (hval : ∀ (j : Nat) t v, Tryd.f5.params[j]? = some t → args[j]? = some v → Value.okWide Tryd.prog W .any base t v)
    (hW : DataW.Whole enc Tryd.prog Tryd.f5.params.toList Rows.memoryNumbersSpec.vars false W args.toList ds gs before) (hL : laidMetH Tryd.prog Rows.memoryNumbersRow.laid W) :
    Calls Tryd.prog 5 args W fun e W' => ∃ v, e = .returned v ∧ Rows.memoryNumbersSpec.post enc Tryd.prog Tryd.f5 false true false false W args v W' := by
  have hW' := hW
  have hT : Tab W := mtab_of_laid hL
  obtain ⟨p, q, hA0, _, rfl, _, _⟩ := hW
  have hA : DataW.TrodAll enc Tryd.prog W 0 (fun _ => true) true Tryd.f5.params.toList args.toList ds p := hA0
  rw [Tryd.params5] at hA hval
  obtain ⟨v0, vs0, d0, ds0, p0, q0, hargs, rfl, rfl, h0, r0⟩ := trodAll_cons hA
  obtain ⟨rfl, rfl, rfl⟩ := trodAll_nil r0
  obtain rfl : args = #[v0] := by cases args; simp_all
  clear hA0
  obtain ⟨x0, rx0, wx0⟩ := open_rd Tryd.underlying54 Tryd.underlying5 (by kernel_rfl) (hval 0 54 v0 rfl rfl) h0
  have walk : Calls Tryd.prog 5 #[v0] W (LawDone W) := by
    obtain ⟨A, c, hA⟩ : ∃ A c, v0 = .slice A x0.length c := (by obtain ⟨A, c, hA, _⟩ := rx0; exact ⟨A, c, hA⟩); subst hA; exact (numbers_law A c x0 (fun z hz => by have := wx0 z hz; simp [Lit.wf, IntKind.min, IntKind.max, IntKind.signed, IntKind.bits] at this; omega) W hT rx0).mono fun e W' h => h
  refine walk.mono fun e W' ⟨he, hb⟩ => ?_
  subst he
  exact ⟨_, rfl, law_post (T := 4) (by kernel_rfl) (by rw [Tryd.params5]; exact params_ok) (by kernel_rfl) Tryd.underlying4 rfl
    (fun ds hd => by rw [Tryd.params5] at hd; match ds, hd with | [a0], _ => exact ⟨rfl, rfl, rfl⟩) hW' hb⟩

set_option maxRecDepth 100000 in
theorem laid_met (os : Os) : laidMet Tryd.prog Rows.memoryNumbersRow.laid ((memWorld os).forCall (fun _ _ => 0) ⟨#[], #[.slice none 0 0], []⟩).memory :=
  laidMet_of_run' 8 (by kernel_rfl) (by kernel_rfl)
set_option maxRecDepth 100000 in
theorem reads (os : Os) {H : Type} (enc : TypeId × Value → H) : ∃ places, DataW.whole enc Tryd.prog ((memWorld os).forCall (fun _ _ => 0) ⟨#[], #[.slice none 0 0], []⟩).memory Tryd.f5.params.toList Rows.memoryNumbersSpec.vars false (#[.slice none 0 0] : Array Value).toList 8 = some ([.nil], [], places) :=
  ⟨[], by kernel_rfl⟩

set_option maxRecDepth 100000 in
theorem lifted (os : Os) (started : os.Started) (H : Type) (enc : TypeId × Value → H) (F : Stop.Interp) :
    ReturnsInHanded {} Tryd.checked os 5 .any ((OpenSpec.ofChange Rows.memoryNumbersSpec).preRow enc Tryd.prog Tryd.f5 Rows.memoryNumbersRow.domain false Rows.memoryNumbersRow.laid) (((OpenSpec.ofChange Rows.memoryNumbersSpec).at F).post enc Tryd.prog Tryd.f5 false true false false) := by
  obtain ⟨places, hx⟩ := reads os enc
  refine returnsInHanded_of_row (C := Tryd.checked) (s := (OpenSpec.ofChange Rows.memoryNumbersSpec)) own started (by kernel_rfl) Tryd.func5
    (witness_row_at (enc := enc) (C := Tryd.checked) false (memWorld os) #[.slice none 0 0] rfl (by kernel_rfl) (by kernel_rfl) (by kernel_rfl)
      (OpenSpec.preRow_of_cond 8 hx (by kernel_rfl) (fun k hk => by cases hk) (by kernel_rfl) (laid_met os))) ?_
  intro W base args ds gs before hval hW _ _ _ hL _ _
  exact contract H enc W base args ds gs before hval hW hL

theorem said : Rows.MemoryNumbersSaid :=
  OpenClaim.holds_of_cond 5 Tryd.f5 rfl rfl rfl rfl rfl rfl rfl ⟨rfl, rfl, rfl, rfl, rfl⟩ rfl rfl rfl rfl rfl (by kernel_rfl) Tryd.func5 (by kernel_rfl)
    (of_decide_eq_true (by kernel_rfl)) (by unfold Func.isWrapper; first | (rw [if_pos (by decide +kernel)]; kernel_rfl) | (rw [if_neg (by decide +kernel)]; exact ⟨rfl, rfl⟩))
    (fun os started H enc _ F => by rw [OpenClaim.pre_eq_preRow]; exact lifted os started H enc F)

theorem params_plain (t : TypeId) (ht : t ∈ ([54] : List TypeId)) : Tryd.prog.wantsStandIn t = false := by
  have hall : (([54] : List TypeId).all fun u => !Tryd.prog.wantsStandIn u) = true := by kernel_rfl
  simpa using List.all_eq_true.1 hall t ht
theorem plain (f : FuncId) (fn : Func) (hf : Tryd.pinned.checked.prog.funcNamed "burnish/burnishlaw17.MemoryNumbers" = some f) (hfn : Tryd.pinned.checked.prog.funcs[f]? = some fn) :
    true = Tryd.pinned.checked.prog.looks [] ∧ ∀ (j : Nat) t, fn.params[j]? = some t → Tryd.pinned.checked.prog.wantsStandIn t = false := by
  obtain rfl : f = 5 := Option.some.inj ((show Tryd.prog.funcNamed "burnish/burnishlaw17.MemoryNumbers" = some 5 by kernel_rfl).symm.trans hf) |>.symm
  obtain rfl : fn = Tryd.f5 := (Option.some.inj (Tryd.func5.symm.trans hfn)).symm
  refine ⟨by kernel_rfl, fun j t ht => ?_⟩
  rw [Tryd.params5] at ht
  exact params_plain t (List.mem_of_getElem? (by simpa using ht) |> fun h => by simpa using h)

/-- THE CARD. -/
theorem card : Rows.MemoryNumbersCardSaid :=
  Claim7.holds_tied_plain_at .later [] _ _ _ _ said (fun _ h => by cases h) (by kernel_rfl) (fun _ h => by cases h) memoryNumbers_row_tie rfl ⟨rfl, rfl⟩ (by kernel_rfl) rfl plain (by kernel_rfl)
end Go.Proofs.YtjphechnadoblaaDoor.memoryNumbers

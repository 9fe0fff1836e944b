/-
  Layer 20 (cfg): Uses.
-/
import Derived.Test.YthnehmfdadgklaaCfU
namespace Go.Proofs.Ythnehmfdadgklaa
open Go.RowKit Go.Deep

set_option maxRecDepth 100000 in
set_option maxHeartbeats 1000000 in
theorem uses1_any (d : FnD) (a b : Int) (pb : Nat) (t : TypeId) (w : World) (hd : d.ok w) (hf : ∀ b ∈ d.blocks, b.fits) (hp : Whole w pb t d.cells.toArray) :
    Calls Try.prog 36 #[.agg #[.int .i64 a, .int .i64 b], .pointer (some ⟨pb, 0, none⟩)] w fun e w' => ∃ v, e = .returned v ∧ Rd w' .i64 v (d.reads a b) ∧ Fresh v w.heap.size ∧ Below w.heap.size w w' := by
  obtain ⟨q, hq⟩ : ∃ q, w.heap.size = q := ⟨_, rfl⟩
  obtain ⟨w1, hw1⟩ : ∃ z, w.alloc (.cells #[.int .i64 a, .int .i64 b] 37) = z := ⟨_, rfl⟩
  have HB : Hid (Below w.heap.size w w1) := hide (by rw [← hw1]; exact (Below.refl _ _).alloc (Nat.le_refl _) _)
  have HA : Hid (Whole w1 q 37 #[.int .i64 a, .int .i64 b]) := hide (by rw [← hw1, ← hq]; exact Whole.new w _ _)
  have HP : Hid (Whole w1 pb t d.cells.toArray) := hide (hp.below' HB.out)
  have HX : Hid (d.ok w1) := hide (hd.below HB.out)
  have HF := hide hf
  have hQ : Hid (w.heap.size = q) := hide hq
  have hi : (Try.prog.info? 27).map (·.size) = some 5 := by kernel_rfl
  have HI := hide hi
  have HU := hide Try.underlying27
  have p0 : w1.cell? ⟨q, 0, none⟩ = some (.int .i64 a) := HA.out.cell 0
  have p1 : w1.cell? ⟨q, 1, none⟩ = some (.int .i64 b) := HA.out.cell 1
  clear hd hf hp hi
  go_enter Try.func36, Try.ntmps36
  go_upto_region 1 with fail
  clear hw1 hq
  refine wp_region_lit ?_
  refine wpList_load_mid (by rfl) _ _ rfl pb 0 (by rfl) d.cells _ HP.out.range HU.out rfl HI.out ?_
  go_step; go_step; go_step
  go_step; go_step
  refine (reads_any d a b _ HX.out HF.out).mono ?_
  rintro en w2 ⟨v, rfl, hr, hfr, hb⟩
  have HR := hide hr
  have HFr : Hid (Fresh v w.heap.size) := hide (fun A n c e x hx => Nat.le_trans HB.out.size (hfr A n c e x hx))
  replace HB := hide (Below.all HB.out hb)
  clear hr hfr hb p0 p1
  go_wp2_with fail
  go_ret
  exact ⟨v, rfl, HR.out, HFr.out, HB.out⟩
theorem enter5 (xs : Array Value) (W : World) : (callFunc 36 xs).run Try.prog W = .ok (.enter 36 xs) W := by kernel_rfl
set_option maxRecDepth 100000 in
set_option maxHeartbeats 1000000 in
theorem uses_any (d : FnD) (w : World) (hd : d.ok w) (hs : d.small) (hr : d.regs.length ≤ 131072) (hf : ∀ b ∈ d.blocks, b.fits) :
    Calls Try.prog 17 #[.agg d.cells.toArray] w fun e w' => ∃ D R, e = .returned (.slice (some ⟨D, 0, none⟩) d.regs.length d.regs.length) ∧ OwnP w' w.heap.size D R (colL d d.reads d.blocks.length 0) ∧ Below w.heap.size w w' := by
  obtain ⟨q, hq⟩ : ∃ q, w.heap.size = q := ⟨_, rfl⟩
  obtain ⟨w1, hw1⟩ : ∃ z, w.alloc (.cells d.cells.toArray 27) = z := ⟨_, rfl⟩
  have HB : Hid (Below w.heap.size w w1) := hide (by rw [← hw1]; exact (Below.refl _ _).alloc (Nat.le_refl _) _)
  have HA : Hid (Whole w1 q 27 d.cells.toArray) := hide (by rw [← hw1, ← hq]; exact Whole.new w _ _)
  have HX : Hid (d.ok w1) := hide (hd.below HB.out)
  have HS := hide hs
  have HR := hide hr
  have HF := hide hf
  have hi : (Try.prog.info? 27).map (·.size) = some 5 := by kernel_rfl
  have HI := hide hi
  have HU := hide Try.underlying27
  clear hd hs hr hf hi
  go_enter Try.func17, Try.ntmps17
  go_upto_region 1 with fail
  clear hw1
  refine wp_region_lit ?_
  refine wpList_load_mid (by rfl) _ _ rfl q 0 (by rfl) d.cells _ HA.out.range HU.out rfl HI.out ?_
  go_step; go_step; go_step
  go_step; go_step
  refine (collect_any d _ _ 36 #[.pointer (some ⟨q, 0, none⟩)] d.reads HX.out HS.out HR.out ⟨enter5, fun W hW a b => uses1_any d a b q _ W (HX.out.below hW) HF.out (HA.out.below' hW), Nat.le_refl _⟩).mono ?_
  rintro en w2 ⟨D, R, rfl, hO, hb⟩
  have HO := hide hO
  have HB1 := hide HB.out.size
  replace HB := hide (Below.all HB.out hb)
  clear hO hb
  go_wp2_with fail
  go_ret
  exact ⟨D, R, rfl, HO.out.low HB1.out, HB.out⟩
end Go.Proofs.Ythnehmfdadgklaa

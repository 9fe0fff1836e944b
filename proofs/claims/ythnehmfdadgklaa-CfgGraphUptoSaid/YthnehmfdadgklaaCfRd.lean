/-
  Layer 20 (cfg): the reference's Defs and Uses; the law CfgGraph, where what a terminator hands on fits.
-/
import Derived.Test.YthnehmfdadgklaaCfRcT
import Derived.Test.YthnehmfdadgklaaCfGL
namespace Go.Proofs.Ythnehmfdadgklaa
open Go.RowKit Go.Deep

set_option maxRecDepth 100000 in
set_option maxHeartbeats 1000000 in
theorem rdefs_any (d : FnD) (w : World) (hd : d.ok w) (hs : d.small) (hr : d.regs.length ≤ 131072) (hf : ∀ b ∈ d.blocks, b.fits) (hp : ∀ b ∈ d.blocks, d.params.length + b.params.length ≤ 17592186044416) :
    Calls Try.prog 16 #[.agg d.cells.toArray] w fun e w' => ∃ A c, e = .returned (.slice A d.regs.length c) ∧ RdP w' A c (colL d d.writes d.blocks.length 0) ∧ Below w.heap.size w w' := by
  obtain ⟨q, hq⟩ : ∃ q, w.heap.size = q := ⟨_, rfl⟩
  obtain ⟨w1, hw1⟩ : ∃ z, w.alloc (.cells d.cells.toArray 27) = z := ⟨_, rfl⟩
  have HB : Hid (Below w.heap.size w w1) := hide (by rw [← hw1]; exact (Below.refl _ _).alloc (Nat.le_refl _) _)
  have HA : Hid (Whole w1 q 27 d.cells.toArray) := hide (by rw [← hw1, ← hq]; exact Whole.new w _ _)
  have HC := hide (rcollect_true d w1 (hd.below HB.out) hs hr hf hp)
  have hi : (Try.prog.info? 27).map (·.size) = some 5 := by kernel_rfl
  have HI := hide hi
  have HU := hide Try.underlying27
  clear hd hs hr hf hp hi
  go_enter Try.func16, Try.ntmps16
  go_upto_region 1 with fail
  clear hw1 hq
  refine wp_region_lit ?_
  refine wpList_load_mid (by rfl) _ _ rfl q 0 (by rfl) d.cells _ HA.out.range HU.out rfl HI.out ?_
  go_step; go_step
  refine HC.out.mono ?_
  rintro en w2 ⟨D, R, rfl, hO, hb⟩
  have HO := hide hO
  replace HB := hide (Below.all HB.out hb)
  clear hO hb HC
  go_wp2_with fail
  go_ret
  exact ⟨some ⟨D, 0, none⟩, d.regs.length, rfl, by have h := HO.out.rd; rwa [HO.out.len, colL_len] at h, HB.out⟩
set_option maxRecDepth 100000 in
set_option maxHeartbeats 1000000 in
theorem ruses_any (d : FnD) (w : World) (hd : d.ok w) (hs : d.small) (hr : d.regs.length ≤ 131072) (hf : ∀ b ∈ d.blocks, b.fits) (hp : ∀ b ∈ d.blocks, d.params.length + b.params.length ≤ 17592186044416) :
    Calls Try.prog 18 #[.agg d.cells.toArray] w fun e w' => ∃ A c, e = .returned (.slice A d.regs.length c) ∧ RdP w' A c (colL d d.reads d.blocks.length 0) ∧ Below w.heap.size w w' := by
  obtain ⟨q, hq⟩ : ∃ q, w.heap.size = q := ⟨_, rfl⟩
  obtain ⟨w1, hw1⟩ : ∃ z, w.alloc (.cells d.cells.toArray 27) = z := ⟨_, rfl⟩
  have HB : Hid (Below w.heap.size w w1) := hide (by rw [← hw1]; exact (Below.refl _ _).alloc (Nat.le_refl _) _)
  have HA : Hid (Whole w1 q 27 d.cells.toArray) := hide (by rw [← hw1, ← hq]; exact Whole.new w _ _)
  have HC := hide (rcollect_false d w1 (hd.below HB.out) hs hr hf hp)
  have hi : (Try.prog.info? 27).map (·.size) = some 5 := by kernel_rfl
  have HI := hide hi
  have HU := hide Try.underlying27
  clear hd hs hr hf hp hi
  go_enter Try.func18, Try.ntmps18
  go_upto_region 1 with fail
  clear hw1 hq
  refine wp_region_lit ?_
  refine wpList_load_mid (by rfl) _ _ rfl q 0 (by rfl) d.cells _ HA.out.range HU.out rfl HI.out ?_
  go_step; go_step
  refine HC.out.mono ?_
  rintro en w2 ⟨D, R, rfl, hO, hb⟩
  have HO := hide hO
  replace HB := hide (Below.all HB.out hb)
  clear hO hb HC
  go_wp2_with fail
  go_ret
  exact ⟨some ⟨D, 0, none⟩, d.regs.length, rfl, by have h := HO.out.rd; rwa [HO.out.len, colL_len] at h, HB.out⟩
theorem graph_fits (d : FnD) (w : World) (hd : d.ok w) (hf : largeB d = false → ∀ b ∈ d.blocks, b.fits) : Calls Try.prog 3 #[.agg d.cells.toArray] w fun e w' => LawDone w e w' := by
  have h : largeB d = false → d.small ∧ d.regs.length ≤ 131072 ∧ ∀ b ∈ d.blocks, d.params.length + b.params.length ≤ 17592186044416 := fun hg => by
    have h := not_large hg
    refine ⟨small_of2 hg, by omega, fun b hb => ?_⟩
    have h2 := (h.2.2.2 b hb).2.1
    omega
  exact graph_law d w hd hf (fun hg W hW => rdefs_any d W hW (h hg).1 (h hg).2.1 (hf hg) (h hg).2.2) (fun hg W hW => ruses_any d W hW (h hg).1 (h hg).2.1 (hf hg) (h hg).2.2)
end Go.Proofs.Ythnehmfdadgklaa

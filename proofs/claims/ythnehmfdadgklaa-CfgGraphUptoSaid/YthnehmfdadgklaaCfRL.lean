/-
  Layer 20 (cfg): the law CfgReads, where what a terminator hands on fits.
-/
import Derived.Test.YthnehmfdadgklaaCfRw
import Derived.Test.YthnehmfdadgklaaCfZ
import Derived.Test.YthnehmfdadgklaaCfLg
namespace Go.Proofs.Ythnehmfdadgklaa
open Go.RowKit Go.Deep

set_option maxRecDepth 100000 in
set_option maxHeartbeats 4000000 in
theorem reads_law (d : FnD) (bi ix : Int) (w : World) (hd : d.ok w) (hf : largeB d = false → ∀ b ∈ d.blocks, b.fits) : Calls Try.prog 4 #[.agg d.cells.toArray, .agg #[.int .i64 bi, .int .i64 ix]] w fun e w' => LawDone w e w' := by
  have HX := hide hd
  have HFt := hide hf
  obtain ⟨q, hq⟩ : ∃ q, w.heap.size = q := ⟨_, rfl⟩
  obtain ⟨w1, hw1⟩ : ∃ z, (w.alloc (.cells d.cells.toArray 27)).alloc (.cells #[.int .i64 bi, .int .i64 ix] 37) = z := ⟨_, rfl⟩
  have HB : Hid (Below w.heap.size w w1) := hide (by rw [← hw1]; exact ((Below.refl _ _).alloc (Nat.le_refl _) _).alloc (by simp) _)
  have HA : Hid (Whole w1 q 27 d.cells.toArray) := hide (by rw [← hw1, ← hq]; exact (Whole.new w _ _).alloc _)
  have HP : Hid (Whole w1 (q + 1) 37 #[.int .i64 bi, .int .i64 ix]) := hide (by
    rw [← hw1, ← hq, show w.heap.size + 1 = (w.alloc (.cells d.cells.toArray 27)).heap.size by simp]; exact Whole.new _ _ _)
  have hi : (Try.prog.info? 27).map (·.size) = some 5 := by kernel_rfl
  have HI := hide hi
  have HU := hide Try.underlying27
  clear hd hi hf
  go_enter Try.func4, Try.ntmps4
  go_upto_region 1 with fail
  clear hw1 hq
  refine wp_region_lit ?_
  refine wpList_load_mid (by rfl) _ _ rfl q 0 (by rfl) d.cells _ HA.out.range HU.out rfl HI.out ?_
  go_step; go_step
  refine (large_any d _ (HX.out.below HB.out)).mono ?_
  rintro en w2 ⟨rfl, hb⟩
  replace HA := hide (HA.out.below' hb)
  replace HP := hide (HP.out.below' hb)
  replace HB := hide (Below.all HB.out hb)
  clear hb
  cases hg : largeB d with
  | true =>
    go_wp2_with (go_at_call 10; refine (works_any _).mono ?_; rintro en w3 ⟨rfl, hb⟩; replace HB := hide (Below.all HB.out hb); clear hb)
    go_ret
    exact ⟨rfl, HB.out⟩
  | false =>
    have HFi := hide (HFt.out hg)
    have HFw : Hid (∀ b ∈ d.blocks, d.params.length + b.params.length ≤ 17592186044416) := hide (fun b hb => by
      have h := not_large hg
      have h2 := (h.2.2.2 b hb).2.1
      omega)
    clear hg
    replace HA := hide (HA.out.drewN 1)
    replace HP := hide (HP.out.drewN 1)
    replace HB := hide (Below.drewN' HB.out 1)
    go_upto_region 3 with fail
    go_region_held3 (fun w' => w'.cell? ⟨q, 0, none⟩ = some (.string d.nm) ∧ w'.cell? ⟨q, 1, none⟩ = some (.slice d.paramsA d.params.length d.paramsc) ∧ w'.cell? ⟨q, 2, none⟩ = some (.int .i64 d.res) ∧ w'.cell? ⟨q, 3, none⟩ = some (.slice d.regsA d.regs.length d.regsc) ∧ w'.cell? ⟨q, 4, none⟩ = some (.slice d.blocksA d.blocks.length d.blocksc) ∧ w'.cell? ⟨q + 1, 0, none⟩ = some (.int .i64 bi) ∧ w'.cell? ⟨q + 1, 1, none⟩ = some (.int .i64 ix)) (exact ⟨HA.out.cell 0, HA.out.cell 1, HA.out.cell 2, HA.out.cell 3, HA.out.cell 4, HP.out.cell 0, HP.out.cell 1⟩) (first
      | (go_at_call 20; refine (reads_any d bi ix _ (HX.out.below HB.out) HFi.out).mono ?_; rintro en wn ⟨v1, rfl, hr, -, hb⟩; have HR1 := hide hr; replace HA := hide (HA.out.below' hb); replace HP := hide (HP.out.below' hb); replace HB := hide (Below.all HB.out hb); clear hb hr)
      | (go_at_call 21; refine (rreads_any d bi ix _ (HX.out.below HB.out) HFi.out).mono ?_; rintro en wn ⟨v2, rfl, hr, -, hb⟩; have HR2 := hide hr; replace HR1 := hide (HR1.out.below' hb); replace HA := hide (HA.out.below' hb); replace HP := hide (HP.out.below' hb); replace HB := hide (Below.all HB.out hb); clear hb hr)
      | (go_at_call 22; refine (writes_any d bi ix _ (HX.out.below HB.out) HFw.out).mono ?_; rintro en wn ⟨v1, rfl, hr, -, hb⟩; have HR1 := hide hr; replace HA := hide (HA.out.below' hb); replace HP := hide (HP.out.below' hb); replace HB := hide (Below.all HB.out hb); clear hb hr)
      | (go_at_call 23; refine (rwrites_any d bi ix _ (HX.out.below HB.out) HFw.out).mono ?_; rintro en wn ⟨v2, rfl, hr, -, hb⟩; have HR2 := hide hr; replace HR1 := hide (HR1.out.below' hb); replace HA := hide (HA.out.below' hb); replace HP := hide (HP.out.below' hb); replace HB := hide (Below.all HB.out hb); clear hb hr)
      | (go_at_call 19; refine (equal_int _ _ _ _ _ HR1.out HR2.out).mono ?_; rintro en wn ⟨rfl, hb⟩; rw [decide_eq_true rfl]; replace HA := hide (HA.out.below' hb); replace HP := hide (HP.out.below' hb); replace HB := hide (Below.all HB.out hb); clear hb HR1 HR2)
      | (go_at_call 10; refine (works_any _).mono ?_; rintro en wn ⟨rfl, hb⟩; replace HA := hide (HA.out.below' hb); replace HP := hide (HP.out.below' hb); replace HB := hide (Below.all HB.out hb); clear hb))
    all_goals
      go_wp2_with fail
      go_ret
      exact ⟨rfl, HB.out⟩
end Go.Proofs.Ythnehmfdadgklaa

/-
  Layer 20 (cfg): the law CfgNewReg.
-/
import Derived.Test.YtppglnkaoflljaaCfZ
import Derived.Test.YtppglnkaoflljaaCfLg
import Derived.Test.YtppglnkaoflljaaCfE3
namespace Go.Proofs.Ytppglnkaoflljaa
open Go.RowKit Go.Deep

theorem small_of {d : FnD} (h : largeB d = false) : d.small := by
  obtain ⟨h1, _, _, h4⟩ := not_large h
  exact ⟨by omega, fun b hb => by have := h4 b hb; omega⟩
/-- The registers cut back. -/
def FnD.cutR (y : FnD) (l : List Int) : FnD := { y with regs := l }
theorem FnD.cutR_ok {y : FnD} {l m : List Int} {w : World} (h : y.ok w) (hl : y.regs = l ++ m) : (y.cutR l).ok w := by
  refine ⟨h.nm, h.params, h.paramsB, h.paramsI, h.res, ?_, ?_, ?_, h.blocks, h.blocksB, h.blocksO⟩
  · have := h.regs.front (m := l.length) (by rw [hl]; simp)
    rw [hl] at this
    show Rd w .i64 (.slice y.regsA l.length y.regsc) l
    simpa using this
  · have := h.regsB
    rw [hl] at this
    unfold Fits at this ⊢
    show l.length ≤ _
    simp at this
    omega
  · intro z hz
    exact h.regsI z (by rw [hl]; exact List.mem_append.2 (.inl hz))
set_option maxRecDepth 100000 in
set_option maxHeartbeats 4000000 in
theorem newreg_law (d : FnD) (t : Int) (w : World) (hd : d.ok w) (ht : I6 t) : Calls Try.prog 8 #[.agg d.cells.toArray, .int .i64 t] w fun e w' => LawDone w e w' := by
  have HX := hide hd
  have HT := hide ht
  obtain ⟨q, hq⟩ : ∃ q, w.heap.size = q := ⟨_, rfl⟩
  obtain ⟨w1, hw1⟩ : ∃ z, w.alloc (.cells d.cells.toArray 27) = z := ⟨_, rfl⟩
  have HB : Hid (Below w.heap.size w w1) := hide (by rw [← hw1]; exact (Below.refl _ _).alloc (Nat.le_refl _) _)
  have HA : Hid (Whole w1 q 27 d.cells.toArray) := hide (by rw [← hw1, ← hq]; exact Whole.new w _ _)
  have hQ : Hid (w.heap.size = q) := hide hq
  have hi : (Try.prog.info? 27).map (·.size) = some 5 := by kernel_rfl
  have HI := hide hi
  have HU := hide Try.underlying27
  clear hd ht hi
  go_enter Try.func8, Try.ntmps8
  go_upto_region 1 with fail
  clear hw1 hq
  refine wp_region_lit ?_
  refine wpList_load_mid (by rfl) _ _ rfl q 0 (by rfl) d.cells _ HA.out.range HU.out rfl HI.out ?_
  go_step; go_step
  refine (large_any d _ (HX.out.below HB.out)).mono ?_
  rintro en w2 ⟨rfl, hb⟩
  replace HA := hide (HA.out.below' hb)
  replace HB := hide (Below.all HB.out hb)
  clear hb
  cases hg : largeB d with
  | true =>
    go_wp2_with (go_at_call 10; refine (works_any _).mono ?_; rintro en w3 ⟨rfl, hb⟩; replace HB := hide (Below.all HB.out hb); clear hb)
    go_ret
    exact ⟨rfl, HB.out⟩
  | false =>
    have HS := hide (small_of hg)
    have HN := hide (not_large hg)
    clear hg
    go_upto_region 3 with fail
    refine wp_region_lit ?_
    refine wpList_load_mid (by rfl) _ _ rfl q 0 (by rfl) d.cells _ HA.out.range HU.out rfl HI.out ?_
    go_step; go_step; go_step
    go_step; go_step
    refine (newreg_any d t _ (HX.out.below HB.out) HS.out (by have := HN.out.2.1; omega) HT.out).mono ?_
    rintro en w3 ⟨y, rfl, hyp, hyo, hb⟩
    have HYP := hide hyp
    have HYO := hide hyo
    replace HA := hide (HA.out.below' hb)
    replace HB := hide (Below.all HB.out hb)
    clear hyp hyo hb
    simp only []
    go_step
    go_step; go_step; go_step
    go_step; go_step; go_step
    go_step; go_step; go_step
    go_step; go_step; go_step
    refine wpList_store_new (by rfl) _ _ _ rfl _ _ y.cells (by rfl) (by rfl) (by rfl) HI.out FnD.all1' ?_
    obtain ⟨gb, hgb⟩ : ∃ gb, w3.heap.size = gb := ⟨_, rfl⟩
    rw [hgb]
    obtain ⟨w4, hw4⟩ : ∃ z, w3.alloc (.cells y.cells.toArray 27) = z := ⟨_, rfl⟩
    have hb : Below w3.heap.size w3 w4 := by rw [← hw4]; exact (Below.refl _ _).alloc (Nat.le_refl _) _
    have HG : Hid (Whole w4 gb 27 y.cells.toArray) := hide (by rw [← hw4, ← hgb]; exact Whole.new w3 _ _)
    have HY3 := hide HYO.out
    have HGq : Hid (q < gb) := hide (by rw [← hgb]; exact HA.out.lt)
    have HGw : Hid (w.heap.size ≤ gb) := hide (by rw [← hgb]; exact HB.out.size)
    replace HA := hide (HA.out.below' hb)
    replace HYO := hide (HYO.out.below hb)
    have HG3 : Hid (w3.heap.size = gb) := hide hgb
    have H34 := hide hb
    replace HB := hide (Below.all HB.out hb)
    rw [hw4]
    have hyr : y.regs = d.regs ++ [t] := congrArg FnP.regs HYP.out
    have hyl : y.regs.length = d.regs.length + 1 := by rw [hyr]; simp
    have hrd := HYO.out.regs
    obtain ⟨_, _, e9, hc1, hc2, hc3⟩ := id hrd
    injection e9 with e9 _ e10
    subst e9 e10
    obtain ⟨rb, ro, hRA, hrlt, hrc⟩ := hc3 (by omega)
    have ct : w4.cell? ⟨rb, ro + d.regs.length, none⟩ = some (.int .i64 t) := hrc _ t (by rw [hyr]; simp)
    have cg : w4.cell? ⟨gb, 3, none⟩ = some (.slice (some ⟨rb, ro, none⟩) (d.regs.length + 1) y.regsc) := by rw [← hRA, ← hyl]; exact HG.out.cell 3
    have fg := HG.out.free 3
    have cf : w4.cell? ⟨q, 3, none⟩ = some (.slice d.regsA d.regs.length d.regsc) := HA.out.cell 3
    have hrl : d.regs.length ≤ 500 := HN.out.2.1
    have hrc2 : d.regs.length + 1 ≤ y.regsc := by omega
    have hrc9 : y.regsc ≤ 9223372036854775807 := by unfold maxLen at hc2; omega
    have HYR := hide hyr
    have HRA := hide hRA
    clear hw4 hb hgb hyr hyl hrd hc1 hc2 hc3 hRA hrlt hrc
    go_upto_region 7 with fail
    obtain ⟨w5, hw5⟩ : ∃ z, w4.setCell ⟨gb, 3, none⟩ (.slice (some ⟨rb, ro, none⟩) d.regs.length y.regsc) = z := ⟨_, rfl⟩
    have H35 : Below w3.heap.size w3 w5 := by rw [← hw5]; exact H34.out.setCell (by rw [HG3.out]; exact Nat.le_refl _) _
    have HYk : Hid ((y.cutR d.regs).ok w5) := hide (FnD.cutR_ok (HY3.out.below H35) HYR.out)
    have HYq : Hid (d.pure = (y.cutR d.regs).pure) := hide (by
      show d.pure = { y.pure with regs := d.regs }
      rw [HYP.out]
      rfl)
    replace HG : Hid (Whole w5 gb 27 (y.cutR d.regs).cells.toArray) := hide (by
      rw [← hw5]
      have := HG.out.set 3 (.slice (some ⟨rb, ro, none⟩) d.regs.length y.regsc)
      rw [← HRA.out] at this ⊢
      exact this)
    replace HA : Hid (Whole w5 q 27 d.cells.toArray) := hide (by
      rw [← hw5]
      exact HA.out.far (fun e => by have := HGq.out; simp only [] at e; omega) _)
    replace HB : Hid (Below w.heap.size w w5) := hide (by rw [← hw5]; exact HB.out.setCell HGw.out _)
    rw [hw5]
    clear hw5 H35 ct cg fg cf
    refine wp_region_lit ?_
    refine wpList_load_mid (by rfl) _ _ rfl q 0 (by rfl) d.cells _ HA.out.range HU.out rfl HI.out ?_
    refine wpList_load_mid (by rfl) _ _ rfl gb 0 (by rfl) (y.cutR d.regs).cells _ HG.out.range HU.out rfl HI.out ?_
    go_step; go_step
    refine (eqfn_any d (y.cutR d.regs) _ (HX.out.below HB.out) HYk.out HYq.out).mono ?_
    rintro en w6 ⟨rfl, hb⟩
    replace HB := hide (Below.all HB.out hb)
    clear hb
    simp only []
    repeat go_step
    refine (works_any _).mono ?_
    rintro en w7 ⟨rfl, hb⟩
    replace HB := hide (Below.all HB.out hb)
    clear hb
    go_wp2_with fail
    go_ret
    exact ⟨rfl, HB.out⟩
end Go.Proofs.Ytppglnkaoflljaa

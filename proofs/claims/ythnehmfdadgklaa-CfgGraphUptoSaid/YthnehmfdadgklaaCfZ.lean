/-
  Layer 20 (cfg): the examples.
-/
import Derived.Test.YthnehmfdadgklaaCfY
namespace Go.Proofs.Ythnehmfdadgklaa
open Go.RowKit Go.Deep

theorem wpList_load_g {P : Program} {ops : Array Oper} {rest : List Oper} {op : Oper} {a : Act} {w : World} {Q : Exit → Act → World → Prop} (hw : Region.wanted op (yielded ops a.tmps) = true) (ty : TypeId) (x : Operand) (ho : op.op = .load ty x)
    (b o : Nat) (hx : a.eval x = .pointer (some ⟨b, o, none⟩)) (cs : List Value) (d : TypeDesc) (hc : w.rangeAt b o cs)
    (hu : P.underlying ty = some d) (hd : d.isRow = true) (hi : (P.info? ty).map (·.size) = some cs.length)
    (h : wpList P ops Q rest (a.put op.dst (.agg cs.toArray)) w) : wpList P ops Q (op :: rest) a w :=
  BigFrame.wpList_want hw fun _ hK => wp_load_mid ty x ho b o hx cs d hc hu hd hi (hK _ _ h)
theorem tw_small7 (q : Nat) : ∀ b ∈ (twD q).blocks, b.term.succs.length ≤ 131072 := by
  intro b hb
  simp [twD] at hb
  rcases hb with rfl | rfl
  · show (2 : Nat) ≤ 131072; omega
  · show (0 : Nat) ≤ 131072; omega
set_option maxRecDepth 100000 in
set_option maxHeartbeats 8000000 in
theorem works_any (w : World) : Calls Try.prog 10 #[] w fun e w' => e = .returned (.bool true) ∧ Below w.heap.size w w' := by
  have hi : (Try.prog.info? 27).map (·.size) = some 5 := by kernel_rfl
  have HI := hide hi
  have HU := hide Try.underlying27
  clear hi
  go_enter Try.func10, Try.ntmps10
  go_wp2_with fail
  refine (twice_any _).mono ?_
  rintro en w1 ⟨rfl, hok, hb⟩
  obtain ⟨q, hq⟩ : ∃ q, w.heap.size = q := ⟨_, rfl⟩
  rw [hq] at hok ⊢
  have HOK := hide hok
  have HB : Hid (Below q w w1) := hide (by rw [← hq]; exact hb)
  have HQ : Hid (q ≤ w1.heap.size) := hide (by rw [← hq]; exact hb.size)
  have HW := hide hq
  clear hok hb hq
  simp only []
  go_step
  go_step; go_step; go_step
  refine wpList_store_new (by rfl) _ _ _ rfl _ _ (twD q).cells (by rfl) (by rfl) (by rfl) HI.out FnD.all1' ?_
  obtain ⟨fb, hfb⟩ : ∃ fb, w1.heap.size = fb := ⟨_, rfl⟩
  rw [hfb]
  obtain ⟨w2, hw2⟩ : ∃ z, w1.alloc (.cells (twD q).cells.toArray 27) = z := ⟨_, rfl⟩
  have b12 : Below w1.heap.size w1 w2 := by rw [← hw2]; exact (Below.refl _ _).alloc (Nat.le_refl _) _
  have HFb : Hid (Whole w2 fb 27 (twD q).cells.toArray) := hide (by rw [← hw2, ← hfb]; exact Whole.new w1 _ _)
  replace HOK := hide (HOK.out.below b12)
  replace HB := hide (HB.out.trans (b12.mono HQ.out))
  have HQf : Hid (q ≤ fb) := hide (by rw [← hfb]; exact HQ.out)
  rw [hw2]
  clear hw2 b12 hfb HQ
  go_upto_region 2 with fail
  refine wp_region_lit ?_
  refine wpList_load_mid (by rfl) _ _ rfl fb 0 (by rfl) (twD q).cells _ HFb.out.range HU.out rfl HI.out ?_
  go_step; go_step
  refine (graph_any (twD q) _ HOK.out (by show (2 : Nat) ≤ 131072; omega) (tw_small7 q)).mono ?_
  rintro en w3 ⟨D, R, rfl, hO, hb⟩
  rw [show (twD q).blocks.length = 2 from rfl]
  have hRl : R.length = 2 := by rw [hO.len]; rfl
  have HO : Hid (OwnL w3 w2.heap.size D R [[1, 1], []]) := hide hO
  have HRl := hide hRl
  replace HFb := hide (HFb.out.below' hb)
  replace HOK := hide (HOK.out.below hb)
  have hq2 : q ≤ w2.heap.size := by rw [← HW.out]; exact HB.out.size
  replace HB := hide (HB.out.trans (hb.mono hq2))
  have HQ2 := hide hq2
  clear hq2
  clear hO hRl hb
  simp only []
  go_upto_region 3 with fail
  obtain ⟨gb, hgb⟩ : ∃ gb, w3.heap.size = gb := ⟨_, rfl⟩
  rw [hgb]
  obtain ⟨w4, hw4⟩ : ∃ z, w3.alloc (.cells #[.slice (some ⟨D, 0, none⟩) 2 2] 33) = z := ⟨_, rfl⟩
  have b34 : Below w3.heap.size w3 w4 := by rw [← hw4]; exact (Below.refl _ _).alloc (Nat.le_refl _) _
  have HGb : Hid (Whole w4 gb 33 #[.slice (some ⟨D, 0, none⟩) 2 2]) := hide (by rw [← hw4, ← hgb]; exact Whole.new w3 _ _)
  replace HFb := hide (HFb.out.below' b34)
  replace HOK := hide (HOK.out.below b34)
  replace HO := hide (HO.out.next b34)
  replace HB := hide (HB.out.trans (b34.mono (by rw [← HW.out]; exact HB.out.size)))
  rw [hw4]
  clear hw4 b34 hgb
  refine wp_region_lit ?_
  refine wpList_load_mid (by rfl) _ _ rfl fb 0 (by rfl) (twD q).cells _ HFb.out.range HU.out rfl HI.out ?_
  go_step; go_step
  refine (uses_any (twD q) _ HOK.out (tw_small q) (by show (3 : Nat) ≤ 131072; omega) (tw_fits q)).mono ?_
  rintro en w5 ⟨DU, RU, rfl, hU, hb⟩
  rw [show (twD q).regs.length = 3 from rfl]
  have hRUl : RU.length = 3 := by rw [hU.len, colL_len]; rfl
  have HUs := hide hU
  have HRUl := hide hRUl
  have HSz4 : Hid (w4.heap.size ≤ w5.heap.size) := hide hb.size
  replace HFb := hide (HFb.out.below' hb)
  replace HOK := hide (HOK.out.below hb)
  replace HO := hide (HO.out.next hb)
  replace HGb := hide (HGb.out.below' hb)
  replace HB := hide (HB.out.trans (hb.mono (by rw [← HW.out]; exact HB.out.size)))
  clear hU hRUl hb
  simp only []
  go_upto_region 4 with fail
  refine wp_region_lit ?_
  refine wpList_load_mid (by rfl) _ _ rfl fb 0 (by rfl) (twD q).cells _ HFb.out.range HU.out rfl HI.out ?_
  go_step; go_step
  refine (split_yes (twD q) 0 1 (twB0 q) twE _ HOK.out (tw_small q) rfl rfl).mono ?_
  rintro en w6 ⟨y, rfl, hyp, hyo, hb⟩
  have HYP := hide hyp
  have HYO := hide hyo
  replace HFb := hide (HFb.out.below' hb)
  replace HOK := hide (HOK.out.below hb)
  replace HO := hide (HO.out.next hb)
  replace HGb := hide (HGb.out.below' hb)
  replace HUs := hide (HUs.out.next hb)
  replace HB := hide (HB.out.trans (hb.mono (by rw [← HW.out]; exact HB.out.size)))
  clear hyp hyo hb
  simp only []
  go_step
  go_step; go_step; go_step
  go_step; go_step; go_step
  go_step; go_step; go_step
  go_step; go_step; go_step
  refine wpList_store_new (by rfl) _ _ _ rfl _ _ y.cells (by rfl) (by rfl) (by rfl) HI.out FnD.all1' ?_
  obtain ⟨sb, hsb⟩ : ∃ sb, w6.heap.size = sb := ⟨_, rfl⟩
  rw [hsb]
  obtain ⟨w7, hw7⟩ : ∃ z, w6.alloc (.cells y.cells.toArray 27) = z := ⟨_, rfl⟩
  have hb : Below w6.heap.size w6 w7 := by rw [← hw7]; exact (Below.refl _ _).alloc (Nat.le_refl _) _
  have HSb : Hid (Whole w7 sb 27 y.cells.toArray) := hide (by rw [← hw7, ← hsb]; exact Whole.new w6 _ _)
  replace HFb := hide (HFb.out.below' hb)
  replace HOK := hide (HOK.out.below hb)
  replace HO := hide (HO.out.next hb)
  replace HGb := hide (HGb.out.below' hb)
  replace HUs := hide (HUs.out.next hb)
  replace HYO := hide (HYO.out.below hb)
  replace HB := hide (HB.out.trans (hb.mono (by rw [← HW.out]; exact HB.out.size)))
  rw [hw7]
  clear hw7 hb hsb
  go_upto_region 5 with fail
  obtain ⟨v0, hv0⟩ : ∃ v, R[0]? = some v := ⟨_, List.getElem?_eq_getElem (by rw [HRl.out]; omega)⟩
  have hr0 := HO.out.row 0 v0 [1, 1] hv0 rfl
  have cD : w7.cell? ⟨D, 0, none⟩ = some v0 := HO.out.own.cellAt hv0
  obtain ⟨A0, c0, e0, hc0, hm0, -⟩ := hr0.rd
  subst e0
  have cg : w7.cell? ⟨gb, 0, none⟩ = some (.slice (some ⟨D, 0, none⟩) 2 2) := HGb.out.cell 0
  have HR0 := hide hr0.rd
  clear hv0 hr0 hm0 hc0
  go_wp2_with fail
  refine (equal_int _ _ [1, 1] [1, 1] _ (HR0.out.alloc _) (rdi_whole (l := [1, 1]) (Whole.new _ _ _) rfl (max_small _ rfl))).mono ?_
  rintro en w8 ⟨rfl, hb⟩
  have hb : Below w7.heap.size w7 w8 := ((Below.refl _ _).alloc (Nat.le_refl _) _).trans (hb.mono (by simp))
  replace HFb := hide (HFb.out.below' hb)
  replace HOK := hide (HOK.out.below hb)
  replace HO := hide (HO.out.next hb)
  replace HGb := hide (HGb.out.below' hb)
  replace HUs := hide (HUs.out.next hb)
  replace HYO := hide (HYO.out.below hb)
  replace HSb := hide (HSb.out.below' hb)
  replace HB := hide (HB.out.trans (hb.mono (by rw [← HW.out]; exact HB.out.size)))
  clear hb cD cg HR0 HO HGb
  rw [show decide (([1, 1] : List Int) = [1, 1]) = true from rfl]
  simp only []
  go_step
  go_step; go_step; go_step
  go_step; go_step; go_step
  refine wpList_load_g (by rfl) _ _ rfl fb 0 (by rfl) (twD q).cells _ HFb.out.range HU.out rfl HI.out ?_
  refine wpList_build_g (by rfl) _ _ rfl (posC (0, 0)) (by kernel_rfl) ?_
  repeat go_step
  refine (reads_any (twD q) 0 0 _ HOK.out (tw_fits q)).mono ?_
  rintro en w9 ⟨v1, rfl, hr1, -, hb⟩
  rw [tw_reads] at hr1
  replace HFb := hide (HFb.out.below' hb)
  replace HOK := hide (HOK.out.below hb)
  replace HUs := hide (HUs.out.next hb)
  replace HYO := hide (HYO.out.below hb)
  replace HSb := hide (HSb.out.below' hb)
  replace HB := hide (HB.out.trans (hb.mono (by rw [← HW.out]; exact HB.out.size)))
  have HR1 := hide hr1
  clear hb hr1
  simp only []
  repeat go_step
  refine (equal_int _ _ [0, 0] [0, 0] _ (HR1.out.alloc _) (rdi_whole (l := [0, 0]) (Whole.new _ _ _) rfl (max_small _ rfl))).mono ?_
  rintro en w10 ⟨rfl, hb⟩
  have hb : Below w9.heap.size w9 w10 := ((Below.refl _ _).alloc (Nat.le_refl _) _).trans (hb.mono (by simp))
  replace HFb := hide (HFb.out.below' hb)
  replace HOK := hide (HOK.out.below hb)
  replace HUs := hide (HUs.out.next hb)
  replace HYO := hide (HYO.out.below hb)
  replace HSb := hide (HSb.out.below' hb)
  replace HB := hide (HB.out.trans (hb.mono (by rw [← HW.out]; exact HB.out.size)))
  clear hb HR1
  rw [show decide (([0, 0] : List Int) = [0, 0]) = true from rfl]
  simp only []
  go_step
  go_step; go_step; go_step
  go_step; go_step; go_step
  refine wpList_load_g (by rfl) _ _ rfl fb 0 (by rfl) (twD q).cells _ HFb.out.range HU.out rfl HI.out ?_
  refine wpList_build_g (by rfl) _ _ rfl (posC (0, -1)) (by kernel_rfl) ?_
  repeat go_step
  refine (writes_any (twD q) 0 (-1) _ HOK.out (tw_params q)).mono ?_
  rintro en w11 ⟨v2, rfl, hr1, -, hb⟩
  rw [tw_writes] at hr1
  replace HFb := hide (HFb.out.below' hb)
  replace HOK := hide (HOK.out.below hb)
  replace HUs := hide (HUs.out.next hb)
  replace HYO := hide (HYO.out.below hb)
  replace HSb := hide (HSb.out.below' hb)
  replace HB := hide (HB.out.trans (hb.mono (by rw [← HW.out]; exact HB.out.size)))
  have HR1 := hide hr1
  clear hb hr1
  simp only []
  repeat go_step
  refine (equal_int _ _ [0, 1] [0, 1] _ (HR1.out.alloc _) (rdi_whole (l := [0, 1]) (Whole.new _ _ _) rfl (max_small _ rfl))).mono ?_
  rintro en w12 ⟨rfl, hb⟩
  have hb : Below w11.heap.size w11 w12 := ((Below.refl _ _).alloc (Nat.le_refl _) _).trans (hb.mono (by simp))
  replace HFb := hide (HFb.out.below' hb)
  replace HOK := hide (HOK.out.below hb)
  replace HUs := hide (HUs.out.next hb)
  replace HYO := hide (HYO.out.below hb)
  replace HSb := hide (HSb.out.below' hb)
  replace HB := hide (HB.out.trans (hb.mono (by rw [← HW.out]; exact HB.out.size)))
  clear hb HR1
  rw [show decide (([0, 1] : List Int) = [0, 1]) = true from rfl]
  simp only []
  obtain ⟨u0, hu0⟩ : ∃ v, RU[0]? = some v := ⟨_, List.getElem?_eq_getElem (by rw [HRUl.out]; omega)⟩
  have hur := (HUs.out.row 0 u0 [(0, 0)] hu0 (tw_uses q)).rd
  have cU : w12.cell? ⟨DU, 0, none⟩ = some u0 := HUs.out.own.cellAt hu0
  obtain ⟨_, A1, c1, e1, hc1, hm1, -⟩ := id hur
  subst e1
  have HUr := hide hur
  clear hu0 hur hm1 hc1
  go_wp2_with fail
  refine (equal_pos _ _ [(0, 0)] _ (HUr.out.below' ((Below.refl _ _).alloc (Nat.le_refl _) _)) (rdn_whole2 (rows := [posC (0, 0)]) (Whole.new _ _ _) (by simp [posC]) rfl (max_small _ rfl))).mono ?_
  rintro en w13 ⟨rfl, hb⟩
  have hb : Below w12.heap.size w12 w13 := ((Below.refl _ _).alloc (Nat.le_refl _) _).trans (hb.mono (by simp))
  replace HFb := hide (HFb.out.below' hb)
  replace HOK := hide (HOK.out.below hb)
  replace HYO := hide (HYO.out.below hb)
  replace HSb := hide (HSb.out.below' hb)
  replace HB := hide (HB.out.trans (hb.mono (by rw [← HW.out]; exact HB.out.size)))
  clear hb HUr cU HUs
  have hyb : y.blocks.map BkD.pure = (splitP (twD q).pure 0 1 (twB0 q).pure twE.pure).blocks := congrArg FnP.blocks HYP.out
  have hyl : y.blocks.length = 3 := by have := congrArg List.length hyb; simpa [splitP, twD, FnD.pure] using this
  obtain ⟨b0, hb0⟩ : ∃ b, y.blocks[0]? = some b := ⟨_, List.getElem?_eq_getElem (by omega)⟩
  have hbp := congrArg (fun l => l[0]?) hyb
  simp only [List.getElem?_map, hb0, Option.map_some] at hbp
  have hbs : b0.term.succs.map EdD.pure = [⟨1, []⟩, ⟨2, []⟩] := by
    have h1 : some b0.pure = some { (twB0 q).pure with term := { (twB0 q).pure.term with succs := (twB0 q).pure.term.succs.set 1 ⟨2, []⟩ } } := hbp
    injection h1 with h1
    have h2 := congrArg (fun x => x.term.succs) h1
    exact h2
  have hsl : b0.term.succs.length = 2 := by have := congrArg List.length hbs; simpa using this
  obtain ⟨e1, he1⟩ : ∃ e, b0.term.succs[1]? = some e := ⟨_, List.getElem?_eq_getElem (by omega)⟩
  have hep := congrArg (fun l => l[1]?) hbs
  simp only [List.getElem?_map, he1, Option.map_some] at hep
  have hek : e1.blk = 2 := by
    have h1 : some e1.pure = some ⟨2, []⟩ := hep
    injection h1 with h1
    exact congrArg EdP.blk h1
  obtain ⟨bb, off, hbA, hlb, hrow⟩ := HYO.out.blocks.row (i := 0) (r := b0.cells) (by rw [List.getElem?_map, hb0]; rfl)
  obtain ⟨b2, off2, hsA, hl2, hrow2⟩ := (HYO.out.blocksO b0 (List.mem_of_getElem? hb0)).term.succs.row (i := 1) (r := e1.cells) (by rw [List.getElem?_map, he1]; rfl)
  have k4 : w13.cell? ⟨sb, 4, none⟩ = some (.slice (some ⟨bb, off, none⟩) 3 y.blocksc) := by rw [← hbA, ← hyl]; exact HSb.out.cell 4
  have k5 : w13.cell? ⟨bb, off + 5, none⟩ = some (.slice (some ⟨b2, off2, none⟩) 2 b0.term.succsc) := by
    rw [← hsA, ← hsl]
    have := hrow 5 _ rfl
    simpa using this
  have k6 : w13.cell? ⟨b2, off2 + 2, none⟩ = some (.int .i64 2) := by
    rw [← hek]
    have := hrow2 0 _ rfl
    simpa using this
  clear hyb hyl hb0 hbp hbs hsl he1 hep hek hbA hlb hrow hsA hl2 hrow2
  simp only []
  go_wp2_with fail
  go_ret
  exact ⟨rfl, by rw [HW.out]; exact HB.out⟩
end Go.Proofs.Ythnehmfdadgklaa

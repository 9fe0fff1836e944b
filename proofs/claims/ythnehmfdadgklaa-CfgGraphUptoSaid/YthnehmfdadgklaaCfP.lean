/-
  Layer 20 (cfg): SplitEdge.
-/
import Derived.Test.YthnehmfdadgklaaCfO
namespace Go.Proofs.Ythnehmfdadgklaa
open Go.RowKit Go.Deep

/-- The block on the new edge. -/
def midB (g : Nat) (e : EdD) : BkD := ⟨none, 0, [], none, 0, [], ⟨1, none, 0, [], none, 0, [], some ⟨g, 0, none⟩, 1, [e], 0⟩⟩
def newE (n : Nat) : EdD := ⟨n, none, 0, []⟩
theorem i6_one : I6 1 := by unfold I6; rfl
theorem i6_zero : I6 0 := by unfold I6; rfl
theorem newE_ok (n : Nat) (hn : n ≤ 1000000) (w : World) : (newE n).ok w := ⟨by unfold I6 newE; simp [Lit.wf, IntKind.min, IntKind.max, IntKind.signed, IntKind.bits]; omega, Rd.nil, Nat.zero_le _, fun _ h => (by cases h)⟩
theorem midB_ok {w : World} {g : Nat} {e : EdD} (hr : RdN w 2 (.slice (some ⟨g, 0, none⟩) 1 1) [e.cells]) (he : e.ok w) : (midB g e).ok w :=
  ⟨Rd.nil, Nat.zero_le _, fun _ h => (by cases h), RdN.nil 8, Nat.zero_le _, fun _ h => (by cases h),
   ⟨i6_one, Rd.nil, Nat.zero_le _, fun _ h => (by cases h), Rd.nil, Nat.zero_le _, fun _ h => (by cases h), hr, by show Fits 1; unfold Fits; omega, fun x hx => by simp [midB] at hx; subst hx; exact he, i6_zero⟩⟩
/-- What SplitEdge says. -/
def splitP (f : FnP) (i j : Nat) (b : BkP) (e : EdP) : FnP :=
  { f with blocks := f.blocks.set i { b with term := { b.term with succs := b.term.succs.set j ⟨f.blocks.length, []⟩ } } ++ [⟨[], [], ⟨1, [], [], [e], 0⟩⟩] }
theorem rdn_whole {w : World} {g m : Nat} {T : TypeId} {r : List Value} (h : Whole w g T r.toArray) (hm : r.length = m) : RdN w m (.slice (some ⟨g, 0, none⟩) 1 1) [r] := by
  refine ⟨fun x hx => by rw [List.mem_singleton.1 hx]; exact hm, _, _, rfl, Nat.le_refl _, by unfold maxLen; simp, fun _ => ⟨g, 0, rfl, h.lt, fun i j x z hx hz => ?_⟩⟩
  cases i with
  | zero =>
    simp only [List.getElem?_cons_zero, Option.some.injEq] at hx
    subst hx
    rw [Nat.zero_mul, Nat.zero_add, Nat.zero_add, h.cell, List.getElem?_toArray]
    exact hz
  | succ i => simp at hx
theorem FnD.setE_fp {d : FnD} {i j : Nat} {b : BkD} {en : EdD} (hb : d.blocks[i]? = some b) : ∀ x ∈ (d.setE i j b en).fp, x ∈ d.fp ∨ x ∈ en.fp := by
  intro x hx
  rcases List.mem_append.1 hx with hx | hx
  · exact .inl (d.fp_params hx)
  rcases List.mem_append.1 hx with hx | hx
  · exact .inl (d.fp_regs hx)
  rcases List.mem_append.1 hx with hx | hx
  · refine .inl (d.fp_blocks ?_)
    have : (d.blocks.set i (b.setE j en)).length = d.blocks.length := by simp
    rw [← this]
    exact hx
  · obtain ⟨y, hy, hx⟩ := List.mem_flatMap.1 hx
    obtain ⟨k, hk⟩ := List.getElem?_of_mem hy
    rcases at_set hk with ⟨_, rfl⟩ | ⟨_, hk⟩
    · have hbm := List.mem_of_getElem? hb
      rcases List.mem_append.1 hx with hx | hx
      · exact .inl (d.fp_blocksM hbm (b.fp_params hx))
      rcases List.mem_append.1 hx with hx | hx
      · exact .inl (d.fp_blocksM hbm (b.fp_ins hx))
      rcases List.mem_append.1 hx with hx | hx
      · exact .inl (d.fp_blocksM hbm (b.fp_insE hx))
      rcases List.mem_append.1 hx with hx | hx
      · exact .inl (d.fp_blocksM hbm (b.fp_term (b.term.fp_args hx)))
      rcases List.mem_append.1 hx with hx | hx
      · exact .inl (d.fp_blocksM hbm (b.fp_term (b.term.fp_cases hx)))
      rcases List.mem_append.1 hx with hx | hx
      · refine .inl (d.fp_blocksM hbm (b.fp_term (b.term.fp_succs ?_)))
        have : (b.term.succs.set j en).length = b.term.succs.length := by simp
        rw [← this]
        exact hx
      · obtain ⟨z, hz, hx2⟩ := List.mem_flatMap.1 hx
        obtain ⟨k2, hk2⟩ := List.getElem?_of_mem hz
        rcases at_set hk2 with ⟨_, e2⟩ | ⟨_, hk2⟩
        · rw [e2] at hx2
          exact .inr hx2
        · exact .inl (d.fp_blocksM hbm (b.fp_term (b.term.fp_succsM (List.mem_of_getElem? hk2) hx2)))
    · exact .inl (d.fp_blocksM (List.mem_of_getElem? hk) hx)
/-- A block more. -/
def FnD.more (y : FnD) (A : Option Addr) (n : Nat) (b : BkD) : FnD := { y with blocksA := A, blocksc := n, blocks := y.blocks ++ [b] }
theorem FnD.more_fp {y : FnD} {A : Option Addr} {n : Nat} {b : BkD} (hn : n = (y.blocks ++ [b]).length) : ∀ x ∈ (y.more A n b).fp, x ∈ y.fp ∨ x ∈ slB A n ∨ x ∈ b.fp := by
  intro x hx
  rcases List.mem_append.1 hx with hx | hx
  · exact .inl (y.fp_params hx)
  rcases List.mem_append.1 hx with hx | hx
  · exact .inl (y.fp_regs hx)
  rcases List.mem_append.1 hx with hx | hx
  · exact .inr (.inl (by rw [hn]; exact hx))
  · obtain ⟨z, hz, hx⟩ := List.mem_flatMap.1 hx
    rcases List.mem_append.1 hz with hz | hz
    · exact .inl (y.fp_blocksM hz hx)
    · rw [List.mem_singleton.1 hz] at hx
      exact .inr (.inr hx)
theorem split_pure {d y : FnD} {i j : Nat} {b b1 : BkD} {e e1 : EdD} {A : Option Addr} {n g : Nat} (hp : y.pure = d.pure) (hb : b1.pure = b.pure) (he : e1.pure = e.pure) : ((y.setE i j b1 (newE y.blocks.length)).more A n (midB g e1)).pure = splitP d.pure i j b.pure e.pure := by
  have hl : y.blocks.length = d.pure.blocks.length := by rw [← hp]; simp [FnD.pure]
  rw [← hp, ← hb, ← he]
  simp [FnD.more, FnD.setE, FnD.pure, splitP, BkD.setE, TmD.setE, BkD.pure, TmD.pure, midB, EdD.pure, newE, List.map_set]
set_option maxRecDepth 100000 in
set_option maxHeartbeats 4000000 in
theorem split_yes (d : FnD) (i j : Nat) (b : BkD) (e : EdD) (w : World) (hd : d.ok w) (hs : d.small) (hb : d.blocks[i]? = some b) (he : b.term.succs[j]? = some e) :
    Calls Try.prog 25 #[.agg d.cells.toArray, .int .i64 i, .int .i64 j] w fun en w' => ∃ y : FnD, en = .returned (.tuple #[.agg y.cells.toArray, .bool true]) ∧ y.pure = splitP d.pure i j b.pure e.pure ∧ y.ok w' ∧ Below w.heap.size w w' := by
  have hil : i < d.blocks.length := (List.getElem?_eq_some_iff.1 hb).1
  have hjl : j < b.term.succs.length := (List.getElem?_eq_some_iff.1 he).1
  have HX := hide hd
  have HS := hide hs
  have HBi := hide hb
  have HEj := hide he
  obtain ⟨q, hq⟩ : ∃ q, w.heap.size = q := ⟨_, rfl⟩
  obtain ⟨w1, hw1⟩ : ∃ z, (w.alloc (.cells d.cells.toArray 27)).alloc (.cells #[.string ⟨#[]⟩, .slice none 0 0, .int .i64 0, .slice none 0 0, .slice none 0 0] 27) = z := ⟨_, rfl⟩
  have HB : Hid (Below w.heap.size w w1) := hide (by rw [← hw1]; exact ((Below.refl _ _).alloc (Nat.le_refl _) _).alloc (by simp) _)
  have HA : Hid (Whole w1 q 27 d.cells.toArray) := hide (by rw [← hw1, ← hq]; exact (Whole.new w _ _).alloc _)
  have HZ : Hid (Whole w1 (q + 1) 27 zFn.toArray) := hide (by
    rw [← hw1, ← hq, show w.heap.size + 1 = (w.alloc (.cells d.cells.toArray 27)).heap.size by simp]; exact Whole.new _ _ _)
  have hqs : Hid (q + 2 ≤ w1.heap.size) := hide (by rw [← hw1, ← hq]; simp)
  have hQ : Hid (w.heap.size = q) := hide hq
  have hu := Try.underlying27
  have hi : (Try.prog.info? 27).map (·.size) = some 5 := by kernel_rfl
  have HU := hide hu
  have HI := hide hi
  obtain ⟨bb, off, hA, hlb, hrow⟩ := (hd.blocks.below' HB.out).row (i := i) (r := b.cells) (by rw [List.getElem?_map, hb]; rfl)
  have c4 : w1.cell? ⟨q, 4, none⟩ = some (.slice (some ⟨bb, off, none⟩) d.blocks.length d.blocksc) := by rw [← hA]; exact HA.out.cell 4
  have c5 : w1.cell? ⟨bb, off + i * 7 + 5, none⟩ = some (.slice b.term.succsA b.term.succs.length b.term.succsc) := hrow 5 _ rfl
  have hbbl : bb < w1.heap.size := hlb
  have g1 : decide (0 ≤ (i : Int) ∧ (i : Int) < (d.blocks.length : Int)) = true := by simp; omega
  have g2 : decide (0 ≤ (j : Int) ∧ (j : Int) < (b.term.succs.length : Int)) = true := by simp; omega
  have hcap : d.blocksc ≤ 9223372036854775807 := by have h := hd.blocks.room.2; unfold maxLen at h; omega
  have G1 := hide g1
  have G2 := hide g2
  have HL1 := hide hbbl
  clear hd hs hb he hu hi hrow hlb g1 g2 hA hbbl
  go_enter Try.func25, Try.ntmps25
  go_upto_region 1 with fail
  clear hq hw1
  go_upto_region 3 with (go_at_call 40; refine (isindex_any _ _ _).mono ?_; rintro en wn ⟨rfl, hb⟩; (first | rw [G1.out] | rw [G2.out]); replace HA := hide (HA.out.below' hb); replace HZ := hide (HZ.out.below' hb); replace hqs := hide (Nat.le_trans hqs.out hb.size); replace HB := hide (Below.all HB.out hb); replace c4 := cell_below hb c4; replace c5 := cell_below hb c5; clear hb)
  obtain ⟨v0, hv0⟩ : ∃ z, wn = z := ⟨_, rfl⟩
  rw [hv0] at HA HZ HB hqs ⊢
  clear hv0 c4 c5
  refine wp_region_lit ?_
  refine wpList_load_mid (by rfl) _ _ rfl q 0 (by rfl) d.cells _ HA.out.range HU.out rfl HI.out ?_
  go_step; go_step
  refine (dup_any d _ (HX.out.below HB.out) HS.out).mono ?_
  rintro en v1 ⟨y, rfl, hyp, hyo, hyn, hb2⟩
  have HYP := hide hyp
  have HYO := hide hyo
  have HYN := hide hyn
  replace HA := hide (HA.out.below' hb2)
  replace HZ := hide (HZ.out.below' hb2)
  replace HB := hide (Below.all HB.out hb2)
  clear hyp hyo hyn hb2
  simp only []
  go_step
  refine wpList_store_mid (by rfl) _ _ _ rfl q 0 y.cells.toArray (by rfl) (by rfl) HA.out.room HI.out FnD.all1' ?_
  rw [show y.cells.toArray.toList = y.cells from rfl]
  obtain ⟨w2, hw2⟩ : ∃ z, v1.setCells q 0 y.cells = z := ⟨_, rfl⟩
  have f2 := frm_setCells (g := q) y.cells 0 v1
  rw [hw2] at f2
  replace HA : Hid (Whole w2 q 27 y.cells.toArray) := hide (by rw [← hw2]; exact Whole.put (old := d.cells) HA.out rfl)
  replace HZ := hide (HZ.out.frm f2 (by simp))
  have HFP : Hid (∀ b ∈ y.fp, q + 2 ≤ b) := hide (fun b hb => by have := (HYO.out.blk b hb).1; have := hqs.out; omega)
  replace HYO := hide (HYO.out.frm f2 (fun b hb hb' => by
    have := HFP.out b hb
    simp only [List.mem_singleton] at hb'
    omega))
  replace HB := hide (HB.out.trans (f2.toBelow (fun b hb => by rw [List.mem_singleton.1 hb]; have := hQ.out; omega) HB.out.size))
  rw [hw2]
  clear hw2 f2
  -- the edge of the copy
  have hyb : y.blocks.map BkD.pure = d.blocks.map BkD.pure := congrArg FnP.blocks HYP.out
  have hyl : y.blocks.length = d.blocks.length := by have := congrArg List.length hyb; simpa using this
  obtain ⟨b1, hb1⟩ : ∃ b1, y.blocks[i]? = some b1 := ⟨_, List.getElem?_eq_getElem (by omega)⟩
  have hb1p : b1.pure = b.pure := by
    have := congrArg (fun l => l[i]?) hyb
    simp only [List.getElem?_map, hb1, HBi.out, Option.map_some] at this
    injection this
  have hb1s : b1.term.succs.map EdD.pure = b.term.succs.map EdD.pure := congrArg (fun x => x.term.succs) hb1p
  have hb1l : b1.term.succs.length = b.term.succs.length := by have := congrArg List.length hb1s; simpa using this
  obtain ⟨e1, he1⟩ : ∃ e1, b1.term.succs[j]? = some e1 := ⟨_, List.getElem?_eq_getElem (by omega)⟩
  have he1p : e1.pure = e.pure := by
    have := congrArg (fun l => l[j]?) hb1s
    simp only [List.getElem?_map, he1, HEj.out, Option.map_some] at this
    injection this
  obtain ⟨g, hgA, hgr, hgt, hg1, hg2, hgfp, hedge⟩ := HYO.out.edge HYN.out hb1 he1
  obtain ⟨cb, hbo⟩ := HYO.out.blocks.get (by omega)
  obtain ⟨gb, cb', hgb, _, _, _, hgbl⟩ := hbo.form (by rw [List.length_map]; omega)
  injection hgb with hgb hjunk hcb
  clear hjunk
  subst hcb
  rw [hgb] at hbo
  have hbr := hbo.at (i := i) (r := b1.cells) (by rw [List.getElem?_map, hb1]; rfl)
  have c4 : w2.cell? ⟨q, 4, none⟩ = some (.slice (some ⟨gb, 0, none⟩) y.blocks.length y.blocksc) := by rw [← hgb]; exact HA.out.cell 4
  have c5 : w2.cell? ⟨gb, i * 7 + 5, none⟩ = some (.slice (some ⟨g, 0, none⟩) b1.term.succs.length b1.term.succsc) := by rw [← hgA]; exact hbr 5 _ rfl
  have hcap2 : y.blocksc ≤ 9223372036854775807 := by have h := HYO.out.ok.blocks.room.2; unfold maxLen at h; omega
  have hil2 : i < y.blocks.length := by omega
  have hjl2 : j < b1.term.succs.length := by omega
  have HYL := hide hyl
  have HB1P := hide hb1p
  have HE1P := hide he1p
  have HB1 := hide hb1
  have HE1 := hide he1
  have HGR := hide hgr
  have HGT := hide hgt
  have HG := hide (And.intro hg1 hg2)
  have HGA := hide hgA
  have HED := hide hedge
  have HGF := hide hgfp
  have HGB := hide (And.intro hgb hgbl)
  clear hyb hyl hb1p hb1s hb1l he1p hb1 he1 hgr hgt hg1 hg2 hedge hgfp hgA hgb hgbl hbo hbr
  go_upto_region 5 with fail
  have HU2 := hide Try.underlying56
  have hi2 : (Try.prog.info? 56).map (·.size) = some 2 := by kernel_rfl
  have hi7 : (Try.prog.info? 54).map (·.size) = some 7 := by kernel_rfl
  have HI2 := hide hi2
  have HI7 := hide hi7
  have HU7 := hide Try.underlying54
  clear hi2 hi7 c4 c5
  refine wp_region_lit ?_
  go_step; go_step; go_step
  go_step; go_step; go_step
  refine wpList_load_mid (by rfl) _ _ rfl g (j * 2) (by rfl) e1.cells _ HGR.out HU2.out rfl HI2.out ?_
  refine wpList_bslice_g (by rfl) 49 1 _ rfl #[(0, .agg e1.cells.toArray)] (by kernel_rfl) (.slice (some ⟨w2.heap.size, 0, none⟩) 1 1) (w2.alloc (.cells e1.cells.toArray 56)) (by kernel_rfl) ?_
  obtain ⟨sg, hsg⟩ : ∃ sg, w2.heap.size = sg := ⟨_, rfl⟩
  obtain ⟨w3, hw3⟩ : ∃ z, w2.alloc (.cells e1.cells.toArray 56) = z := ⟨_, rfl⟩
  have b23 : Below w2.heap.size w2 w3 := by rw [← hw3]; exact (Below.refl _ _).alloc (Nat.le_refl _) _
  have s3 : w3.heap.size = sg + 1 := by rw [← hw3, World.size_alloc, hsg]
  have HE3 : Hid (Whole w3 sg 56 e1.cells.toArray) := hide (by rw [← hw3, ← hsg]; exact Whole.new w2 _ _)
  rw [hsg, hw3]
  refine wpList_build_g (by rfl) _ _ rfl [.int .i64 1, .slice none 0 0, .slice none 0 0, .slice (some ⟨sg, 0, none⟩) 1 1, .int .i64 0] (by kernel_rfl) ?_
  refine wpList_build_g (by rfl) _ _ rfl (midB sg e1).cells (by kernel_rfl) ?_
  have S3 := hide s3
  have HSG := hide hsg
  have B23 := hide b23
  clear s3 hw3 hsg b23
  go_step; go_step; go_step
  refine wpList_store_new (by rfl) _ _ _ rfl _ _ (midB sg e1).cells (by rfl) (by rfl) (by rfl) HI7.out BkD.all1' ?_
  obtain ⟨w4, hw4⟩ : ∃ z, w3.alloc (.cells (midB sg e1).cells.toArray 54) = z := ⟨_, rfl⟩
  have b34 : Below w3.heap.size w3 w4 := by rw [← hw4]; exact (Below.refl _ _).alloc (Nat.le_refl _) _
  have HM4 : Hid (Whole w4 (sg + 1) 54 (midB sg e1).cells.toArray) := hide (by rw [← hw4, ← S3.out]; exact Whole.new w3 _ _)
  have b24 : Below w2.heap.size w2 w4 := B23.out.trans (b34.mono (by have := S3.out; have := HSG.out; omega))
  rw [S3.out, hw4]
  replace HE3 := hide (HE3.out.below' b34)
  replace HA := hide (HA.out.below' b24)
  replace HZ := hide (HZ.out.below' b24)
  replace HB := hide (HB.out.trans (b24.mono HB.out.size))
  have B24 := hide b24
  have S4 : Hid (sg + 2 = w4.heap.size) := hide (by rw [← hw4, World.size_alloc, S3.out])
  clear hw4 b34 b24
  go_upto_region 6 with fail
  have c4 : w4.cell? ⟨q, 4, none⟩ = some (.slice (some ⟨gb, 0, none⟩) y.blocks.length y.blocksc) := by rw [← HGB.out.1]; exact HA.out.cell 4
  refine wp_region_lit ?_
  go_step; go_step; go_step
  go_step; go_step; go_step
  go_step; go_step; go_step
  go_step; go_step; go_step
  refine wpList_build_g (by rfl) _ _ rfl (newE y.blocks.length).cells (by kernel_rfl) ?_
  go_step; go_step; go_step
  have HGT4 : Hid (w4.there g (j * 2) 2) := hide (fun k hk => by
    have h := HGT.out k hk
    have hgl := HG.out.2
    exact ⟨by rw [B24.out.cell (p := ⟨g, j * 2 + k, none⟩) hgl]; exact h.1, by rw [B24.out.frozen (p := ⟨g, j * 2 + k, none⟩) hgl]; exact h.2⟩)
  clear c4
  refine wpList_store_mid (by rfl) _ _ _ rfl g (j * 2) (newE y.blocks.length).cells.toArray (by rfl) (by rfl) HGT4.out HI2.out EdD.all1' ?_
  rw [show (newE y.blocks.length).cells.toArray.toList = (newE y.blocks.length).cells from rfl]
  have hn6 : y.blocks.length ≤ 1000000 := by rw [HYL.out]; exact HS.out.1
  obtain ⟨g', hgA', _, _, _, _, _, hedge⟩ := (HYO.out.below' B24.out).edge HYN.out HB1.out HE1.out
  obtain rfl : g = g' := by rw [HGA.out] at hgA'; injection hgA' with hgA'; injection hgA'
  have hY1 := hedge (newE y.blocks.length) (fun w' _ => newE_ok _ hn6 w')
  obtain ⟨w5, hw5⟩ : ∃ z, w4.setCells g (j * 2) (newE y.blocks.length).cells = z := ⟨_, rfl⟩
  have f5 := frm_setCells (g := g) (newE y.blocks.length).cells (j * 2) w4
  rw [hw5] at f5 hY1
  have hqg := HFP.out g HGF.out
  have hgsg : g < sg := by have := HG.out.2; have := HSG.out; omega
  replace HA := hide (HA.out.frm f5 (by simp; omega))
  replace HZ := hide (HZ.out.frm f5 (by simp; omega))
  replace HM4 := hide (HM4.out.frm f5 (by simp; omega))
  replace HE3 := hide (HE3.out.frm f5 (by simp; omega))
  replace HB := hide (HB.out.trans (f5.toBelow (fun b hb => by rw [List.mem_singleton.1 hb]; have := hQ.out; omega) HB.out.size))
  obtain ⟨y1, hy1⟩ : ∃ y1, y.setE i j b1 (newE y.blocks.length) = y1 := ⟨_, rfl⟩
  have hy1l : y1.blocks.length = y.blocks.length := by rw [← hy1]; simp [FnD.setE]
  have hy1A : y1.blocksA = some ⟨gb, 0, none⟩ := by rw [← hy1]; exact HGB.out.1
  have hy1c : y1.blocksc = y.blocksc := by rw [← hy1]; rfl
  have HY1F : Hid (∀ x ∈ y1.fp, q + 2 ≤ x) := hide (by
    rw [← hy1]
    intro x hx
    rcases FnD.setE_fp HB1.out x hx with hx | hx
    · exact HFP.out x hx
    · cases hx)
  rw [hy1] at hY1
  have HY1 := hide hY1.1
  have HE1K := hide hY1.2
  have HYE := hide hy1
  have HYB : Hid (RdN w5 7 (.slice (some ⟨gb, 0, none⟩) y.blocks.length y.blocksc) (y1.blocks.map BkD.cells)) := hide (by rw [← hy1A, ← hy1l, ← hy1c]; exact hY1.1.blocks)
  have HN6 := hide hn6
  have S5 : Hid (sg + 2 ≤ w5.heap.size) := hide (by have := S4.out; have := f5.size; omega)
  have HY1L := hide hy1l
  have HGSG := hide hgsg
  rw [hw5]
  clear hw5 f5 hY1 hy1 hgA' hy1A hy1c hy1l hn6 hqg hgsg hedge
  go_upto_region 7 with fail
  have c4 : w5.cell? ⟨q, 4, none⟩ = some (.slice (some ⟨gb, 0, none⟩) y.blocks.length y.blocksc) := by rw [← HGB.out.1]; exact HA.out.cell 4
  refine wp_region_lit ?_
  go_step; go_step; go_step
  go_step; go_step; go_step
  refine wpList_load_mid (by rfl) _ _ rfl (sg + 1) 0 (by rfl) (midB sg e1).cells _ HM4.out.range HU7.out rfl HI7.out ?_
  refine wpList_bslice_g (by rfl) 25 1 _ rfl #[(0, .agg (midB sg e1).cells.toArray)] (by kernel_rfl) (.slice (some ⟨w5.heap.size, 0, none⟩) 1 1) (w5.alloc (.cells (midB sg e1).cells.toArray 54)) (by kernel_rfl) ?_
  obtain ⟨w6, hw6⟩ : ∃ z, w5.alloc (.cells (midB sg e1).cells.toArray 54) = z := ⟨_, rfl⟩
  have b56 : Below w5.heap.size w5 w6 := by rw [← hw6]; exact (Below.refl _ _).alloc (Nat.le_refl _) _
  have HW6 : Hid (RdN w6 7 (.slice (some ⟨w5.heap.size, 0, none⟩) 1 1) [(midB sg e1).cells]) := hide (by rw [← hw6]; exact rdn_whole (Whole.new w5 _ _) rfl)
  rw [hw6]
  clear hw6 c4
  go_step; go_step
  refine (copied_bk _ _ (y1.blocks.map BkD.cells) [(midB sg e1).cells] _ (HYB.out.below' b56) HW6.out BkD.one (fun r hr => by rw [List.mem_singleton.1 hr]; exact fun x hx => List.all_eq_true.1 (show (midB sg e1).cells.all (·.oneCell') = true by rfl) x hx) (by rw [List.length_map, HY1L.out]; have := HN6.out; simp; omega)).mono ?_
  rintro en w7 ⟨A2, n2, rfl, hn2, hM, hR, hb7⟩
  have b57 := b56.trans (hb7.mono b56.size)
  have e7 : y1.blocks.map BkD.cells ++ [(midB sg e1).cells] = (y1.blocks ++ [midB sg e1]).map BkD.cells := by simp
  rw [e7] at hR hn2
  rw [List.length_map] at hn2
  replace HA := hide (HA.out.below' b57)
  replace HZ := hide (HZ.out.below' b57)
  replace HE3 := hide (HE3.out.below' b57)
  replace HB := hide (HB.out.trans (b57.mono HB.out.size))
  replace HY1 := hide (HY1.out.below b57)
  replace HE1K := hide (HE1K.out.below b57)
  have HR2 := hide hR
  have HN2 := hide hn2
  have HM2 : Hid (∀ b ∈ slB A2 n2, q + 2 ≤ b) := hide (fun b hb => by have := (hM.blk b hb).1; have := b56.size; have := S5.out; have := hqs.out; have := HGSG.out; have := HFP.out g HGF.out; omega)
  clear hM hR hn2 hb7 b56 b57 e7 HYB HW6 HM4
  simp only []
  go_step
  go_step; go_step; go_step
  have c4 : w7.cell? ⟨q, 4, none⟩ = some (.slice y.blocksA y.blocks.length y.blocksc) := HA.out.cell 4
  have f4 := HA.out.free 4
  go_upto_region 8 with fail
  obtain ⟨w8, hw8⟩ : ∃ z, w7.setCell ⟨q, 4, none⟩ (.slice A2 n2 n2) = z := ⟨_, rfl⟩
  have f8 : Frm w7 w8 [q] := by rw [← hw8]; exact (Frm.refl w7 [q]).setCell ⟨q, 4, none⟩ _ (.inl (by simp))
  obtain ⟨y2, hy2⟩ : ∃ y2, y1.more A2 n2 (midB sg e1) = y2 := ⟨_, rfl⟩
  have hyc : y.cells.toArray.setIfInBounds 4 (.slice A2 n2 n2) = y2.cells.toArray := by
    rw [← hy2, ← HYE.out]
    have e1' : n2 = ((y.setE i j b1 (newE y.blocks.length)).blocks ++ [midB sg e1]).length := by rw [HYE.out]; exact HN2.out
    have e2 : ((y.setE i j b1 (newE y.blocks.length)).more A2 n2 (midB sg e1)).cells = [.string y.nm, .slice y.paramsA y.params.length y.paramsc, .int .i64 y.res, .slice y.regsA y.regs.length y.regsc, .slice A2 ((y.setE i j b1 (newE y.blocks.length)).blocks ++ [midB sg e1]).length n2] := rfl
    rw [e2, ← e1']
    rfl
  replace HA : Hid (Whole w8 q 27 y2.cells.toArray) := hide (by rw [← hw8, ← hyc]; exact HA.out.set 4 _)
  replace HZ := hide (HZ.out.frm f8 (by simp))
  replace HB := hide (HB.out.trans (f8.toBelow (fun b hb => by rw [List.mem_singleton.1 hb]; have := hQ.out; omega) HB.out.size))
  have hmfp : ∀ x ∈ (midB sg e1).fp, q + 2 ≤ x := by
    intro x hx
    have hsg2 := HGSG.out
    have hgq := HFP.out g HGF.out
    have hh : x ∈ slB (some ⟨sg, 0, none⟩) 1 ∨ x ∈ e1.fp := by
      simpa [midB, BkD.fp, TmD.fp, slB] using hx
    rcases hh with hh | hh
    · have : x = sg := by simpa [slB] using hh
      omega
    · exact HFP.out x (y.fp_blocksM (List.mem_of_getElem? HB1.out) (b1.fp_term (b1.term.fp_succsM (List.mem_of_getElem? HE1.out) hh)))
  have HFP2 : Hid (∀ x ∈ y2.fp, q + 2 ≤ x) := hide (by
    rw [← hy2]
    intro x hx
    rcases FnD.more_fp HN2.out x hx with hx | hx | hx
    · exact HY1F.out x hx
    · exact HM2.out x hx
    · exact hmfp x hx)
  have HOK : Hid (y2.ok w7) := hide (by
    rw [← hy2]
    have ho := HY1.out
    have hl1 : (y1.blocks ++ [midB sg e1]).length ≤ 1000001 := by rw [List.length_append, HY1L.out]; have := HN6.out; simp; omega
    refine ⟨ho.nm, ho.params, ho.paramsB, ho.paramsI, ho.res, ho.regs, ho.regsB, ho.regsI, ?_, ?_, fun x hx => ?_⟩
    · show RdN w7 7 (.slice A2 (y1.blocks ++ [midB sg e1]).length n2) ((y1.blocks ++ [midB sg e1]).map BkD.cells)
      rw [← HN2.out]
      exact HR2.out
    · show Fits (y1.blocks ++ [midB sg e1]).length
      unfold Fits
      omega
    · rcases List.mem_append.1 hx with hx | hx
      · exact ho.blocksO x hx
      · rw [List.mem_singleton.1 hx]
        exact midB_ok (rdn_whole HE3.out rfl) HE1K.out)
  have HOK8 : Hid (y2.ok w8) := hide (HOK.out.frm f8 (fun b hb hb' => by have := HFP2.out b hb; simp only [List.mem_singleton] at hb'; omega))
  have HP2 : Hid (y2.pure = splitP d.pure i j b.pure e.pure) := hide (by rw [← hy2, ← HYE.out]; exact split_pure HYP.out HB1P.out HE1P.out)
  rw [hw8]
  clear hw8 hyc f8 hy2 c4 f4 hmfp HOK
  refine wp_region_lit ?_
  refine wpList_load_mid (by rfl) _ _ rfl q 0 (by rfl) y2.cells _ HA.out.range HU.out rfl HI.out ?_
  refine wpList_store_mid (by rfl) _ _ _ rfl (q + 1) 0 y2.cells.toArray (by rfl) (by rfl) HZ.out.room HI.out FnD.all1' ?_
  rw [show y2.cells.toArray.toList = y2.cells from rfl]
  obtain ⟨w9, hw9⟩ : ∃ z, w8.setCells (q + 1) 0 y2.cells = z := ⟨_, rfl⟩
  have hl : (loadVar 27 ⟨q + 1, 0, none⟩).run Try.prog w9 = .ok (.agg y2.cells.toArray) w9 := by
    rw [← hw9]
    exact Whole.ret (cs := y2.cells) (Whole.put (old := zFn) HZ.out rfl) HU.out rfl HI.out
  have f9 := frm_setCells (g := q + 1) y2.cells 0 w8
  rw [hw9] at f9
  have HB9 : Hid (Below w.heap.size w w9) := hide (HB.out.trans (f9.toBelow (fun b hb => by rw [List.mem_singleton.1 hb]; have := hQ.out; omega) HB.out.size))
  have HY9 : Hid (y2.ok w9) := hide (HOK8.out.frm f9 (fun b hb hb' => by have := HFP2.out b hb; simp only [List.mem_singleton] at hb'; omega))
  rw [hw9]
  clear hw9 f9
  have HL := hide hl
  clear hl
  go_wp2_with fail
  refine bodyPost_ret (v := .tuple #[.agg y2.cells.toArray, .bool true]) ?_ rfl ⟨y2, rfl, HP2.out, HY9.out, HB9.out⟩
  simp [results, Try.f25, asAddr, HL.out]
end Go.Proofs.Ythnehmfdadgklaa

/-
  Layer 20 (cfg): the law CfgContract where there is such an edge.
-/
import Derived.Test.YtppglnkaoflljaaCfL5
namespace Go.Proofs.Ytppglnkaoflljaa
open Go.RowKit Go.Deep

theorem fld_graph (s : Option Addr) (n c : Nat) (w : World) : (Instr.field 33 (.agg #[.slice s n c]) 0).run Try.prog w = .ok (.slice s n c) w := by kernel_rfl
theorem set_same {α : Type} {l : List α} {i : Nat} {z : α} (h : l[i]? = some z) : l.set i z = l := by
  apply List.ext_getElem?
  intro k
  by_cases hk : k = i
  · subst hk
    rw [List.getElem?_set_self (List.getElem?_eq_some_iff.1 h).1, h]
  · rw [List.getElem?_set_ne (fun e => hk e.symm)]
set_option maxRecDepth 100000 in
set_option maxHeartbeats 8000000 in
theorem contract_yes (d : FnD) (i j : Nat) (b : BkD) (e : EdD) (w : World) (hd : d.ok w) (hg : largeB d = false) (hb : d.blocks[i]? = some b) (he : b.term.succs[j]? = some e) :
    Calls Try.prog 6 #[.agg d.cells.toArray, .int .i64 i, .int .i64 j] w fun e w' => LawDone w e w' := by
  have hil : i < d.blocks.length := (List.getElem?_eq_some_iff.1 hb).1
  have hjl : j < b.term.succs.length := (List.getElem?_eq_some_iff.1 he).1
  have HX := hide hd
  have HBi := hide hb
  have HEj := hide he
  have HIJ := hide (And.intro hil hjl)
  obtain ⟨q, hq⟩ : ∃ q, w.heap.size = q := ⟨_, rfl⟩
  obtain ⟨w1, hw1⟩ : ∃ z, (w.alloc (.cells d.cells.toArray 27)) = z := ⟨_, rfl⟩
  have HB : Hid (Below w.heap.size w w1) := hide (by rw [← hw1]; exact (Below.refl _ _).alloc (Nat.le_refl _) _)
  have HA : Hid (Whole w1 q 27 d.cells.toArray) := hide (by rw [← hw1, ← hq]; exact Whole.new w _ _)
  have hi : (Try.prog.info? 27).map (·.size) = some 5 := by kernel_rfl
  have HI := hide hi
  have HU := hide Try.underlying27
  have HG := hide hg
  have HS := hide (small_of hg)
  have HN := hide (not_large hg)
  have hQ : Hid (w.heap.size = q) := hide hq
  clear hd hi hg hb he hil hjl
  go_enter Try.func6, Try.ntmps6
  go_upto_region 1 with fail
  clear hw1 hq
  refine wp_region_lit ?_
  refine wpList_load_mid (by rfl) _ _ rfl q 0 (by rfl) d.cells _ HA.out.range HU.out rfl HI.out ?_
  go_step; go_step
  refine (large_any d _ (HX.out.below HB.out)).mono ?_
  rintro en w2 ⟨rfl, hb⟩
  rw [HG.out]
  replace HA := hide (HA.out.below' hb)
  replace HB := hide (Below.all HB.out hb)
  clear hb
  go_upto_region 3 with fail
  refine wp_region_lit ?_
  refine wpList_load_mid (by rfl) _ _ rfl q 0 (by rfl) d.cells _ HA.out.range HU.out rfl HI.out ?_
  repeat go_step
  refine (split_yes d i j b e _ (HX.out.below HB.out) HS.out HBi.out HEj.out).mono ?_
  rintro en w3 ⟨y, rfl, hyp, hyo, hb⟩
  have HYP := hide hyp
  have HYO := hide hyo
  replace HA := hide (HA.out.below' hb)
  replace HB := hide (Below.all HB.out hb)
  clear hb hyp hyo
  simp only []
  go_step
  go_step; go_step; go_step
  go_step; go_step; go_step
  go_step; go_step; go_step
  go_step; go_step; go_step
  refine wpList_store_new (by rfl) _ _ _ rfl _ _ y.cells (by rfl) (by rfl) (by rfl) HI.out FnD.all1' ?_
  obtain ⟨gb, hgb⟩ : ∃ gb, w3.heap.size = gb := ⟨_, rfl⟩
  rw [hgb]
  obtain ⟨w4, hw4⟩ : ∃ z, w3.alloc (.cells y.cells.toArray 27) = z := ⟨_, rfl⟩
  have hb : Below w3.heap.size w3 w4 := by rw [← hw4]; exact (Below.refl _ _).alloc (Nat.le_refl _) _
  have HY : Hid (Whole w4 gb 27 y.cells.toArray) := hide (by rw [← hw4, ← hgb]; exact Whole.new w3 _ _)
  replace HA := hide (HA.out.below' hb)
  replace HYO := hide (HYO.out.below hb)
  replace HB := hide (Below.all HB.out hb)
  rw [hw4]
  clear hw4 hb hgb
  have hyl : y.blocks.length = d.blocks.length + 1 := split_len HYP.out
  obtain ⟨bn, en, hbn, hsn, hen⟩ := split_last HYP.out
  obtain ⟨bb, off, hbA, hlb, hrow⟩ := HYO.out.blocks.row (i := d.blocks.length) (r := bn.cells) (by rw [List.getElem?_map, hbn]; rfl)
  obtain ⟨b2, off2, hsA, hl2, hrow2⟩ := (HYO.out.blocksO bn (List.mem_of_getElem? hbn)).term.succs.row (i := 0) (r := en.cells) (by rw [hsn]; rfl)
  have k4 : w4.cell? ⟨gb, 4, none⟩ = some (.slice (some ⟨bb, off, none⟩) (d.blocks.length + 1) y.blocksc) := by rw [← hbA, ← hyl]; exact HY.out.cell 4
  have k5 : w4.cell? ⟨bb, off + d.blocks.length * 7 + 5, none⟩ = some (.slice (some ⟨b2, off2, none⟩) 1 bn.term.succsc) := by
    rw [← hsA]
    have := hrow 5 _ rfl
    rw [show bn.term.succs.length = 1 by rw [hsn]; rfl] at this
    exact this
  have k6 : w4.cell? ⟨b2, off2, none⟩ = some (.int .i64 e.blk) := by
    rw [← hen]
    have := hrow2 0 _ rfl
    simpa using this
  have cf : w4.cell? ⟨q, 4, none⟩ = some (.slice d.blocksA d.blocks.length d.blocksc) := HA.out.cell 4
  have hnl : d.blocks.length ≤ 100 := HN.out.1
  have hyc : d.blocks.length + 1 ≤ y.blocksc ∧ y.blocksc ≤ 9223372036854775807 := by have h := HYO.out.blocks.room; unfold maxLen at h; omega
  have hsc : bn.term.succsc ≤ 9223372036854775807 ∧ 1 ≤ bn.term.succsc := by have h := (HYO.out.blocksO bn (List.mem_of_getElem? hbn)).term.succs.room; rw [hsn] at h; unfold maxLen at h; simp at h; omega
  have HYL := hide hyl
  clear hyl hbn hsn hen hbA hlb hrow hsA hl2 hrow2
  go_upto_region 11 with fail
  clear k4 k5 k6 cf
  refine wp_region_lit ?_
  refine wpList_load_mid (by rfl) _ _ rfl q 0 (by rfl) d.cells _ HA.out.range HU.out rfl HI.out ?_
  repeat go_step
  refine (graph_any d _ (HX.out.below HB.out) (by omega) (fun x hx => by have := (HN.out.2.2.2 x hx).2.2; omega)).mono ?_
  rintro en w5 ⟨D1, R1, rfl, hO, hb⟩
  have HO1 := hide hO
  replace HY := hide (HY.out.below' hb)
  replace HYO := hide (HYO.out.below hb)
  have HB0 := hide (HB.out.trans (hb.mono HB.out.size))
  replace HB := hide (Below.all HB.out hb)
  clear hO hb HA
  simp only []
  have hfld := fld_graph
  go_upto_region 12 with fail
  refine wp_region_lit ?_
  refine wpList_load_mid (by rfl) _ _ rfl gb 0 (by rfl) y.cells _ HY.out.range HU.out rfl HI.out ?_
  repeat go_step
  refine (graph_any y _ HYO.out (by rw [HYL.out]; omega) (split_succs HYP.out HBi.out (fun x hx => (HN.out.2.2.2 x hx).2.2))).mono ?_
  rintro en w6 ⟨D2, R2, rfl, hO, hb⟩
  rw [HYL.out]
  have HO2 : Hid (OwnL w6 w5.heap.size D2 R2 (conAt y i 0 b.out)) := hide (by unfold conAt; rw [if_neg (by omega)]; exact hO)
  have HB6 : Hid (Below w5.heap.size w5 w6) := hide hb
  have HR1 : Hid (R1.length = d.blocks.length) := hide (by rw [HO1.out.len, d.graph_len])
  have HR2 : Hid (R2.length = d.blocks.length + 1) := hide (by rw [hO.len, y.graph_len, HYL.out])
  clear hO hb HY HYO hyc hsc HB0
  simp only []
  go_wp2_with fail
  go_loopw [81] (fun z wr => ∃ a : Nat, a ≤ d.blocks.length ∧ z = .int .i64 a ∧ Hid (OwnL wr w5.heap.size D2 R2 (conAt y i a b.out)) ∧ Hid (Below w5.heap.size w5 wr)) (fun z _ => d.blocks.length - (intOf z).toNat)
  case atStart => exact ⟨0, Nat.zero_le _, rfl, HO2, HB6⟩
  case round =>
    clear HO2 HB6
    obtain ⟨wq, rfl⟩ : ∃ x, x = wr := ⟨_, rfl⟩
    obtain ⟨a, ha, rfl, hL, hb⟩ := hrel
    by_cases hlt : a < d.blocks.length
    · obtain ⟨x, hx0⟩ : ∃ x, d.blocks[a]? = some x := ⟨_, List.getElem?_eq_getElem hlt⟩
      obtain ⟨v2, hv2⟩ : ∃ v, R2[a]? = some v := ⟨_, List.getElem?_eq_getElem (by rw [HR2.out]; omega)⟩
      obtain ⟨v1, hv1⟩ : ∃ v, R1[a]? = some v := ⟨_, List.getElem?_eq_getElem (by rw [HR1.out]; omega)⟩
      have hro := HO1.out.row a v1 x.out hv1 (FnD.graph_at hx0)
      have HRo := hide hro
      have HV2 := hide hv2
      have HV1 := hide hv1
      have HX0 := hide hx0
      have hxl : x.out.length ≤ 50 := by rw [x.out_len]; exact (HN.out.2.2.2 x (List.mem_of_getElem? hx0)).2.2
      have cD : wq.cell? ⟨D2, a, none⟩ = some v2 := hL.out.own.cellAt hv2
      by_cases hai : a = i
      · subst hai
        obtain rfl : x = b := by
          have := HBi.out
          rw [hx0] at this
          injection this
        have h0 : conAt y a a x.out = y.graph := by unfold conAt; rw [if_neg (by omega)]
        have hrw := con_here HYP.out hx0
        have hL0 : Hid (OwnL wq w5.heap.size D2 R2 (y.graph.set a (rowAt x.out j d.blocks.length 0))) := hide (by
          have := hL.out
          rw [h0] at this
          unfold rowAt
          rw [if_neg (by omega), set_same hrw]
          exact this)
        have hjx : j < x.out.length := by rw [x.out_len]; exact HIJ.out.2
        have hze : x.out[j]? = some e.blk := BkD.out_at HEj.out
        have HZE := hide hze
        have hya : a < y.graph.length := (List.getElem?_eq_some_iff.1 hrw).1
        have HYA := hide hya
        obtain ⟨g, c2, e2, hg1, hg2, hg3, hg4⟩ := (hL0.out.row a v2 _ hv2 (List.getElem?_set_self hya)).form (by rw [row_len]; omega)
        rw [row_len] at e2 hg1
        subst e2
        have hg9 : c2 ≤ 9223372036854775807 := by unfold maxLen at hg2; omega
        have HGG := hide hg3
        clear hro hv2 hv1 hx0 h0 hrw hL hze hya hg2 hg3 hg4
        go_wp2_with fail
        go_loopw [88] (fun z wr' => ∃ k : Nat, k ≤ x.out.length ∧ z = .int .i64 k ∧ Hid (OwnL wr' w5.heap.size D2 R2 (y.graph.set a (rowAt x.out j d.blocks.length k))) ∧ Hid (Below w5.heap.size w5 wr')) (fun z _ => x.out.length - (intOf z).toNat)
        case atStart => exact ⟨0, Nat.zero_le _, rfl, hL0, hb⟩
        case round =>
          clear hL0 hb cD
          obtain ⟨wp, rfl⟩ : ∃ x, x = wr := ⟨_, rfl⟩
          obtain ⟨k, hk, rfl, hL, hb⟩ := hrel
          have hrow := hL.out.row a _ _ HV2.out (List.getElem?_set_self HYA.out)
          by_cases hlt2 : k < x.out.length
          · obtain ⟨z0, hz0⟩ : ∃ z, (rowAt x.out j d.blocks.length k)[k]? = some z := ⟨_, List.getElem?_eq_getElem (by rw [row_len]; exact hlt2)⟩
            have ck : wp.cell? ⟨g, k, none⟩ = some (.int .i64 z0) := hrow.cellAt hz0
            have fk : wp.frozen? ⟨g, k, none⟩ = false := hrow.freeAt k
            by_cases hkj : k = j
            · subst hkj
              have hzn : z0 = (d.blocks.length : Int) := by
                unfold rowAt at hz0
                rw [if_neg (by omega), List.getElem?_set_self hlt2] at hz0
                injection hz0 with hz0
                exact hz0.symm
              subst hzn
              have hL2 : Hid (OwnL (wp.setCell ⟨g, k, none⟩ (.int .i64 e.blk)) w5.heap.size D2 R2 (y.graph.set a (rowAt x.out k d.blocks.length (k + 1)))) := hide (by
                have := hL.out.poke (j := k) (z := e.blk) HV2.out (List.getElem?_set_self HYA.out)
                rw [List.set_set, row_next HZE.out] at this
                exact this)
              have hb2 : Hid (Below w5.heap.size w5 (wp.setCell ⟨g, k, none⟩ (.int .i64 e.blk))) := hide (hb.out.setCell HGG.out _)
              clear hL hb hrow hz0
              go_wp2_with fail
              go_roundw
              case rel => exact ⟨k + 1, by omega, by go_num, hL2, hb2⟩
              case measure => simp [intOf]; omega
            · have hne : ¬ (k : Int) = (j : Int) := by omega
              have HKJ := hide hkj
              clear hrow hz0 hkj
              go_wp2_with fail
              go_roundw
              case rel => exact ⟨k + 1, by omega, by go_num, hide (by rw [row_other HKJ.out]; exact hL.out), hb⟩
              case measure => simp [intOf]; omega
          · have hkl : k = x.out.length := by omega
            have HK := hide hkl
            have c1 : wp.cell? ⟨D1, a, none⟩ = some v1 := (HO1.out.next hb.out).own.cellAt HV1.out
            have HRo2 := hide (HRo.out.rd.below' hb.out)
            have hre : rowAt x.out j d.blocks.length k = x.out := by unfold rowAt; rw [if_pos (by omega)]
            have HRE := hide hre
            have HRd : Hid (Rd wp .i64 (.slice (some ⟨g, 0, none⟩) x.out.length c2) x.out) := hide (by
              have := hrow.rd
              rw [hre] at this
              exact this)
            clear hkl hrow hre
            go_wp2_with fail
            refine (equal_int _ _ x.out x.out _ (HRd.out) (HRo2.out)).mono ?_
            rintro en w9 ⟨rfl, hb9⟩
            have hL9 := hide (hL.out.next hb9)
            have hb9' := hide (Below.all hb.out hb9)
            clear hL hb hb9 c1 HRd HRo2
            rw [decide_eq_true (rfl : x.out = x.out)]
            go_wp2_with fail
            go_roundw
            case rel => exact ⟨a + 1, by omega, by go_num, hide (by
              have := hL9.out
              rw [HRE.out] at this
              unfold conAt
              rw [if_pos (by omega)]
              exact this), hb9'⟩
            case measure => simp [intOf]; omega
      · have hrd := (hL.out.row a v2 x.out hv2 (con_other HYP.out hai hx0)).rd
        have HRd := hide hrd
        have HAI := hide hai
        obtain ⟨A2, c2, e2, -, -, -⟩ := hrd
        subst e2
        have hne : ¬ (a : Int) = (i : Int) := by omega
        clear hro hv2 hv1 hx0 hai
        go_wp2_with fail
        go_loopw [88] (fun z wr' => ∃ k : Nat, k ≤ x.out.length ∧ z = .int .i64 k ∧ Hid (OwnL wr' w5.heap.size D2 R2 (conAt y i a b.out)) ∧ Hid (Below w5.heap.size w5 wr')) (fun z _ => x.out.length - (intOf z).toNat)
        case atStart => exact ⟨0, Nat.zero_le _, rfl, hL, hb⟩
        case round =>
          clear hL hb HRd cD
          obtain ⟨wp, rfl⟩ : ∃ x, x = wr := ⟨_, rfl⟩
          obtain ⟨k, hk, rfl, hL, hb⟩ := hrel
          have HRd := hide (hL.out.row a _ x.out HV2.out (con_other HYP.out HAI.out HX0.out)).rd
          by_cases hlt2 : k < x.out.length
          · obtain ⟨_, _, e9, _, _, hc3⟩ := HRd.out
            injection e9 with e9 _ e10
            subst e9 e10
            obtain ⟨rb, ro, rfl, hrlt, hrc⟩ := hc3 (by omega)
            obtain ⟨z0, hz0⟩ : ∃ z, x.out[k]? = some z := ⟨_, List.getElem?_eq_getElem hlt2⟩
            have ck := hrc k z0 hz0
            clear hc3 hrlt hrc hz0
            go_wp2_with fail
            go_roundw
            case rel => exact ⟨k + 1, by omega, by go_num, hL, hb⟩
            case measure => simp [intOf]; omega
          · have hkl : k = x.out.length := by omega
            have HK := hide hkl
            clear hkl
            have c1 : wp.cell? ⟨D1, a, none⟩ = some v1 := (HO1.out.next hb.out).own.cellAt HV1.out
            have HRo2 := hide (HRo.out.rd.below' hb.out)
            go_wp2_with fail
            refine (equal_int _ _ x.out x.out _ (HRd.out) (HRo2.out)).mono ?_
            rintro en w9 ⟨rfl, hb9⟩
            have hL9 := hide (hL.out.next hb9)
            have hb9' := hide (Below.all hb.out hb9)
            clear hL hb hb9 c1 HRd HRo2
            rw [decide_eq_true (rfl : x.out = x.out)]
            go_wp2_with fail
            go_roundw
            case rel => exact ⟨a + 1, by omega, by go_num, hide (by rw [con_same HAI.out]; exact hL9.out), hb9'⟩
            case measure => simp [intOf]; omega
    · have hal : a = d.blocks.length := by omega
      have HK := hide hal
      clear hal
      have HBw := hide (HB.out.trans (hb.out.mono HB.out.size))
      clear hL hb
      go_wp2_with (go_at_call 10; refine (works_any _).mono ?_; rintro en w10 ⟨rfl, hb⟩; replace HBw := hide (Below.all HBw.out hb); clear hb)
      go_ret
      exact ⟨rfl, HBw.out⟩
end Go.Proofs.Ytppglnkaoflljaa

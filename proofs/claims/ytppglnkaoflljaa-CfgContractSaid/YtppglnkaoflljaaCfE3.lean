/-
  Layer 14 (the reference): EqualFunc, of what says the same.
-/
import Derived.Test.YtppglnkaoflljaaCfE2
import Derived.Test.YtppglnkaoflljaaCfJ
import Derived.Deep.RegionHeld3
import Derived.Deep.Cut
namespace Go.Proofs.Ytppglnkaoflljaa
open Go.RowKit Go.Deep

set_option maxRecDepth 100000 in
set_option maxHeartbeats 8000000 in
theorem eqfn_any (a b : FnD) (w : World) (ha : a.ok w) (hb : b.ok w) (he : a.pure = b.pure) : Calls Try.prog 27 #[.agg a.cells.toArray, .agg b.cells.toArray] w fun e w' => e = .returned (.bool true) ∧ Below w.heap.size w w' := by
  have hnm : b.nm = a.nm := (congrArg FnP.nm he).symm
  have hpp : b.params = a.params := (congrArg FnP.params he).symm
  have hrs : b.res = a.res := (congrArg FnP.res he).symm
  have hrg : b.regs = a.regs := (congrArg FnP.regs he).symm
  have hpb : a.blocks.map BkD.pure = b.blocks.map BkD.pure := congrArg FnP.blocks he
  have hbl : b.blocks.length = a.blocks.length := by have := congrArg List.length hpb; simpa using this.symm
  obtain ⟨q, hq⟩ : ∃ q, w.heap.size = q := ⟨_, rfl⟩
  obtain ⟨w1, hw1⟩ : ∃ z, (w.alloc (.cells a.cells.toArray 27)).alloc (.cells b.cells.toArray 27) = z := ⟨_, rfl⟩
  have HB : Hid (Below w.heap.size w w1) := hide (by rw [← hw1]; exact ((Below.refl _ _).alloc (Nat.le_refl _) _).alloc (by simp) _)
  have HA : Hid (Whole w1 q 27 a.cells.toArray) := hide (by rw [← hw1, ← hq]; exact (Whole.new w _ _).alloc _)
  have HC : Hid (Whole w1 (q + 1) 27 b.cells.toArray) := hide (by
    rw [← hw1, ← hq, show w.heap.size + 1 = (w.alloc (.cells a.cells.toArray 27)).heap.size by simp]; exact Whole.new _ _ _)
  have hQ : Hid (w.heap.size = q) := hide hq
  have HX := hide ha
  have HY := hide hb
  have HPB := hide hpb
  have HBL := hide hbl
  have FACT : Hid (∀ W, Below w1.heap.size w1 W → (W.cell? ⟨q, 0, none⟩ = some (.string a.nm) ∧ W.cell? ⟨q + 1, 0, none⟩ = some (.string a.nm)) ∧ (W.cell? ⟨q, 1, none⟩ = some (.slice a.paramsA a.params.length a.paramsc) ∧ W.cell? ⟨q + 1, 1, none⟩ = some (.slice b.paramsA a.params.length b.paramsc)) ∧ (W.cell? ⟨q, 2, none⟩ = some (.int .i64 a.res) ∧ W.cell? ⟨q + 1, 2, none⟩ = some (.int .i64 a.res)) ∧
      (W.cell? ⟨q, 3, none⟩ = some (.slice a.regsA a.regs.length a.regsc) ∧ W.cell? ⟨q + 1, 3, none⟩ = some (.slice b.regsA a.regs.length b.regsc)) ∧ (W.cell? ⟨q, 4, none⟩ = some (.slice a.blocksA a.blocks.length a.blocksc) ∧ W.cell? ⟨q + 1, 4, none⟩ = some (.slice b.blocksA a.blocks.length b.blocksc))) := hide (fun W hW =>
    have A := HA.out.below' hW
    have C := HC.out.below' hW
    ⟨⟨A.cell 0, by rw [← hnm]; exact C.cell 0⟩, ⟨A.cell 1, by rw [← hpp]; exact C.cell 1⟩, ⟨A.cell 2, by rw [← hrs]; exact C.cell 2⟩, ⟨A.cell 3, by rw [← hrg]; exact C.cell 3⟩, ⟨A.cell 4, by rw [← hbl]; exact C.cell 4⟩⟩)
  have RD : Hid ((Rd w .i64 (.slice a.paramsA a.params.length a.paramsc) a.params ∧ Rd w .i64 (.slice b.paramsA a.params.length b.paramsc) a.params) ∧ (Rd w .i64 (.slice a.regsA a.regs.length a.regsc) a.regs ∧ Rd w .i64 (.slice b.regsA a.regs.length b.regsc) a.regs)) := hide
    ⟨⟨ha.params, by have := hb.params; rwa [hpp] at this⟩, ⟨ha.regs, by have := hb.regs; rwa [hrg] at this⟩⟩
  have hcap1 : a.blocksc ≤ 9223372036854775807 := by have h := ha.blocks.room.2; unfold maxLen at h; omega
  have hcap2 : b.blocksc ≤ 9223372036854775807 := by have h := hb.blocks.room.2; unfold maxLen at h; omega
  have hl1 : a.blocks.length ≤ 17592186044416 := ha.blocksB
  have HW : Hid (Below w1.heap.size w1 w1) := hide (Below.refl _ _)
  have HBw : Hid (∀ W, Below w1.heap.size w1 W → Below w.heap.size w W) := hide (fun W h => Below.all HB.out h)
  obtain ⟨⟨a0, b0⟩, ⟨a1, b1⟩, ⟨a2, b2⟩, ⟨a3, b3⟩, ⟨a4, b4⟩⟩ := FACT.out w1 HW.out
  clear ha hb he hnm hpp hrs hrg hpb hbl
  go_enter Try.func27, Try.ntmps27
  go_upto_region 1 with fail
  clear hw1 hq
  go_upto_region 3 with (first
    | (go_at_call 19; refine (eqsame_int _ _ a.params _ (RD.out.1.1.below' (HBw.out _ HW.out)) (RD.out.1.2.below' (HBw.out _ HW.out))).mono ?_; rintro en w2 ⟨rfl, hb⟩; replace HW := hide (Below.all HW.out hb); clear hb a0 b0 a1 b1 a2 b2 a3 b3 a4 b4; obtain ⟨⟨a0, b0⟩, ⟨a1, b1⟩, ⟨a2, b2⟩, ⟨a3, b3⟩, ⟨a4, b4⟩⟩ := FACT.out _ HW.out)
    | (go_at_call 44; refine (eqsame_ty _ _ a.regs _ (RD.out.2.1.below' (HBw.out _ HW.out)) (RD.out.2.2.below' (HBw.out _ HW.out))).mono ?_; rintro en w3 ⟨rfl, hb⟩; replace HW := hide (Below.all HW.out hb); clear hb a0 b0 a1 b1 a2 b2 a3 b3 a4 b4; obtain ⟨⟨a0, b0⟩, ⟨a1, b1⟩, ⟨a2, b2⟩, ⟨a3, b3⟩, ⟨a4, b4⟩⟩ := FACT.out _ HW.out))
  go_wp2_with fail
  clear a0 b0 a1 b1 a2 b2 a3 b3 a4 b4
  go_loopw [46] (fun z wr => ∃ k : Nat, k ≤ a.blocks.length ∧ z = .int .i64 k ∧ Hid (Below w1.heap.size w1 wr)) (fun z _ => a.blocks.length - (intOf z).toNat)
  case atStart => exact ⟨0, Nat.zero_le _, rfl, HW⟩
  case round =>
    clear HW
    obtain ⟨wq, rfl⟩ : ∃ x, x = wr := ⟨_, rfl⟩
    obtain ⟨k, hk, rfl, HW⟩ := hrel
    by_cases hlt : k < a.blocks.length
    · obtain ⟨x, hx⟩ : ∃ x, a.blocks[k]? = some x := ⟨_, List.getElem?_eq_getElem hlt⟩
      obtain ⟨y, hy, hxy⟩ := at_pure HPB.out hx
      have hBw := HBw.out _ HW.out
      obtain ⟨ba, oa, hA1, hla, hra⟩ := (HX.out.blocks.below' hBw).row (i := k) (r := x.cells) (by rw [List.getElem?_map, hx]; rfl)
      obtain ⟨bb, ob, hB1, hlb, hrb⟩ := (HY.out.blocks.below' hBw).row (i := k) (r := y.cells) (by rw [List.getElem?_map, hy]; rfl)
      have hf := FACT.out _ HW.out
      have a4 : wq.cell? ⟨q, 4, none⟩ = some (.slice (some ⟨ba, oa, none⟩) a.blocks.length a.blocksc) := by rw [← hA1]; exact hf.2.2.2.2.1
      have b4 : wq.cell? ⟨q + 1, 4, none⟩ = some (.slice (some ⟨bb, ob, none⟩) a.blocks.length b.blocksc) := by rw [← hB1]; exact hf.2.2.2.2.2
      have HXo := hide ((HX.out.blocksO x (List.mem_of_getElem? hx)).below hBw)
      have HYo := hide ((HY.out.blocksO y (List.mem_of_getElem? hy)).below hBw)
      have HXY := hide hxy
      have K : Hid (wq.cell? ⟨q, 4, none⟩ = some (.slice (some ⟨ba, oa, none⟩) a.blocks.length a.blocksc) ∧ wq.cell? ⟨q + 1, 4, none⟩ = some (.slice (some ⟨bb, ob, none⟩) a.blocks.length b.blocksc) ∧ wq.cell? ⟨ba, oa + k * 7, none⟩ = some (.slice x.paramsA x.params.length x.paramsc) ∧ wq.cell? ⟨ba, oa + k * 7 + 1, none⟩ = some (.slice x.insA x.ins.length x.insc) ∧ wq.cell? ⟨ba, oa + k * 7 + 2, none⟩ = some (.int .i64 x.term.kind) ∧ wq.cell? ⟨ba, oa + k * 7 + 3, none⟩ = some (.slice x.term.argsA x.term.args.length x.term.argsc) ∧ wq.cell? ⟨ba, oa + k * 7 + 4, none⟩ = some (.slice x.term.casesA x.term.cases.length x.term.casesc) ∧ wq.cell? ⟨ba, oa + k * 7 + 5, none⟩ = some (.slice x.term.succsA x.term.succs.length x.term.succsc) ∧ wq.cell? ⟨ba, oa + k * 7 + 6, none⟩ = some (.int .i64 x.term.sym) ∧ wq.cell? ⟨bb, ob + k * 7, none⟩ = some (.slice y.paramsA y.params.length y.paramsc) ∧ wq.cell? ⟨bb, ob + k * 7 + 1, none⟩ = some (.slice y.insA y.ins.length y.insc) ∧ wq.cell? ⟨bb, ob + k * 7 + 2, none⟩ = some (.int .i64 y.term.kind) ∧ wq.cell? ⟨bb, ob + k * 7 + 3, none⟩ = some (.slice y.term.argsA y.term.args.length y.term.argsc) ∧ wq.cell? ⟨bb, ob + k * 7 + 4, none⟩ = some (.slice y.term.casesA y.term.cases.length y.term.casesc) ∧ wq.cell? ⟨bb, ob + k * 7 + 5, none⟩ = some (.slice y.term.succsA y.term.succs.length y.term.succsc) ∧ wq.cell? ⟨bb, ob + k * 7 + 6, none⟩ = some (.int .i64 y.term.sym)) := hide ⟨a4, b4, hra 0 _ rfl, hra 1 _ rfl, hra 2 _ rfl, hra 3 _ rfl, hra 4 _ rfl, hra 5 _ rfl, hra 6 _ rfl, hrb 0 _ rfl, hrb 1 _ rfl, hrb 2 _ rfl, hrb 3 _ rfl, hrb 4 _ rfl, hrb 5 _ rfl, hrb 6 _ rfl⟩
      clear hx hy hxy hA1 hB1 hla hlb hra hrb hf a4 b4 hBw
      go_upto_region 6 with fail
      go_region_held3 (fun w' => w'.cell? ⟨q, 4, none⟩ = some (.slice (some ⟨ba, oa, none⟩) a.blocks.length a.blocksc) ∧ w'.cell? ⟨q + 1, 4, none⟩ = some (.slice (some ⟨bb, ob, none⟩) a.blocks.length b.blocksc) ∧ w'.cell? ⟨ba, oa + k * 7, none⟩ = some (.slice x.paramsA x.params.length x.paramsc) ∧ w'.cell? ⟨ba, oa + k * 7 + 1, none⟩ = some (.slice x.insA x.ins.length x.insc) ∧ w'.cell? ⟨ba, oa + k * 7 + 2, none⟩ = some (.int .i64 x.term.kind) ∧ w'.cell? ⟨ba, oa + k * 7 + 3, none⟩ = some (.slice x.term.argsA x.term.args.length x.term.argsc) ∧ w'.cell? ⟨ba, oa + k * 7 + 4, none⟩ = some (.slice x.term.casesA x.term.cases.length x.term.casesc) ∧ w'.cell? ⟨ba, oa + k * 7 + 5, none⟩ = some (.slice x.term.succsA x.term.succs.length x.term.succsc) ∧ w'.cell? ⟨ba, oa + k * 7 + 6, none⟩ = some (.int .i64 x.term.sym) ∧ w'.cell? ⟨bb, ob + k * 7, none⟩ = some (.slice y.paramsA y.params.length y.paramsc) ∧ w'.cell? ⟨bb, ob + k * 7 + 1, none⟩ = some (.slice y.insA y.ins.length y.insc) ∧ w'.cell? ⟨bb, ob + k * 7 + 2, none⟩ = some (.int .i64 y.term.kind) ∧ w'.cell? ⟨bb, ob + k * 7 + 3, none⟩ = some (.slice y.term.argsA y.term.args.length y.term.argsc) ∧ w'.cell? ⟨bb, ob + k * 7 + 4, none⟩ = some (.slice y.term.casesA y.term.cases.length y.term.casesc) ∧ w'.cell? ⟨bb, ob + k * 7 + 5, none⟩ = some (.slice y.term.succsA y.term.succs.length y.term.succsc) ∧ w'.cell? ⟨bb, ob + k * 7 + 6, none⟩ = some (.int .i64 y.term.sym)) (first | exact K.out | exact KB.out) ((go_at_call 45; refine (eqblk_any x y _ (HXo.out.below (Below.refl _ _).drew) (HYo.out.below (Below.refl _ _).drew) HXY.out).mono ?_; rintro en w3 ⟨rfl, hb⟩; have hb : Below wq.heap.size wq w3 := ⟨hb.os, hb.tape, hb.output, hb.size, hb.block⟩; have KB : Hid (w3.cell? ⟨q, 4, none⟩ = some (.slice (some ⟨ba, oa, none⟩) a.blocks.length a.blocksc) ∧ w3.cell? ⟨q + 1, 4, none⟩ = some (.slice (some ⟨bb, ob, none⟩) a.blocks.length b.blocksc) ∧ w3.cell? ⟨ba, oa + k * 7, none⟩ = some (.slice x.paramsA x.params.length x.paramsc) ∧ w3.cell? ⟨ba, oa + k * 7 + 1, none⟩ = some (.slice x.insA x.ins.length x.insc) ∧ w3.cell? ⟨ba, oa + k * 7 + 2, none⟩ = some (.int .i64 x.term.kind) ∧ w3.cell? ⟨ba, oa + k * 7 + 3, none⟩ = some (.slice x.term.argsA x.term.args.length x.term.argsc) ∧ w3.cell? ⟨ba, oa + k * 7 + 4, none⟩ = some (.slice x.term.casesA x.term.cases.length x.term.casesc) ∧ w3.cell? ⟨ba, oa + k * 7 + 5, none⟩ = some (.slice x.term.succsA x.term.succs.length x.term.succsc) ∧ w3.cell? ⟨ba, oa + k * 7 + 6, none⟩ = some (.int .i64 x.term.sym) ∧ w3.cell? ⟨bb, ob + k * 7, none⟩ = some (.slice y.paramsA y.params.length y.paramsc) ∧ w3.cell? ⟨bb, ob + k * 7 + 1, none⟩ = some (.slice y.insA y.ins.length y.insc) ∧ w3.cell? ⟨bb, ob + k * 7 + 2, none⟩ = some (.int .i64 y.term.kind) ∧ w3.cell? ⟨bb, ob + k * 7 + 3, none⟩ = some (.slice y.term.argsA y.term.args.length y.term.argsc) ∧ w3.cell? ⟨bb, ob + k * 7 + 4, none⟩ = some (.slice y.term.casesA y.term.cases.length y.term.casesc) ∧ w3.cell? ⟨bb, ob + k * 7 + 5, none⟩ = some (.slice y.term.succsA y.term.succs.length y.term.succsc) ∧ w3.cell? ⟨bb, ob + k * 7 + 6, none⟩ = some (.int .i64 y.term.sym)) := hide ⟨cell_below hb K.out.1, cell_below hb K.out.2.1, cell_below hb K.out.2.2.1, cell_below hb K.out.2.2.2.1, cell_below hb K.out.2.2.2.2.1, cell_below hb K.out.2.2.2.2.2.1, cell_below hb K.out.2.2.2.2.2.2.1, cell_below hb K.out.2.2.2.2.2.2.2.1, cell_below hb K.out.2.2.2.2.2.2.2.2.1, cell_below hb K.out.2.2.2.2.2.2.2.2.2.1, cell_below hb K.out.2.2.2.2.2.2.2.2.2.2.1, cell_below hb K.out.2.2.2.2.2.2.2.2.2.2.2.1, cell_below hb K.out.2.2.2.2.2.2.2.2.2.2.2.2.1, cell_below hb K.out.2.2.2.2.2.2.2.2.2.2.2.2.2.1, cell_below hb K.out.2.2.2.2.2.2.2.2.2.2.2.2.2.2.1, cell_below hb K.out.2.2.2.2.2.2.2.2.2.2.2.2.2.2.2⟩; replace HW := hide (Below.all HW.out hb); clear hb))
      all_goals
        go_wp2_with fail
        go_roundw
        case rel => exact ⟨k + 1, by omega, by go_num, HW⟩
        case measure => simp [intOf]; omega
    · go_wp2_with fail
      go_ret
      exact ⟨rfl, HBw.out _ HW.out⟩
end Go.Proofs.Ytppglnkaoflljaa

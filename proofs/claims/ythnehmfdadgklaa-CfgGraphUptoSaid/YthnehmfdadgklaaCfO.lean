/-
  Layer 20 (cfg): NewReg and SplitEdge.
-/
import Derived.Test.YthnehmfdadgklaaCfK
import Derived.BigFrame
namespace Go.Proofs.Ythnehmfdadgklaa
open Go.RowKit Go.Deep

section
variable {P : Program}
theorem wpList_build_g {ops : Array Oper} {rest : List Oper} {o : Oper} {a : Act} {w : World} {Q : Exit → Act → World → Prop} (hw : Region.wanted o (yielded ops a.tmps) = true) (t : TypeId) (parts : Array (Nat × Operand)) (ho : o.op = .build t parts)
    (cs : List Value) (hb : P.built t (parts.map fun (i, x) => (i, a.eval x)).toList = some cs.toArray)
    (h : wpList P ops Q rest (a.put o.dst (.agg cs.toArray)) w) : wpList P ops Q (o :: rest) a w :=
  BigFrame.wpList_want hw fun _ hK => wp_build t parts ho (by rw [hb]; rfl) (by rw [hb]; exact hK _ _ h)
theorem wpList_bslice_g {ops : Array Oper} {rest : List Oper} {o : Oper} {a : Act} {w : World} {Q : Exit → Act → World → Prop} (hw : Region.wanted o (yielded ops a.tmps) = true) (t : TypeId) (n : Nat) (parts : Array (Nat × Operand)) (ho : o.op = .buildSlice t n parts)
    (ps : Array (Nat × Value)) (hp : (parts.map fun (i, x) => (i, a.eval x)) = ps) (v : Value) (w' : World) (hr : (Instr.buildSlice t n ps).run P w = .ok v w')
    (h : wpList P ops Q rest (a.put o.dst v) w') : wpList P ops Q (o :: rest) a w :=
  BigFrame.wpList_want hw fun _ hK => by
    subst hp
    unfold Oper.wp execOp
    simp only [ho, Sem.run_bind, hr, Result.andThen_ok]
    exact hK _ _ h
end
def zFn : List Value := [.string ⟨#[]⟩, .slice none 0 0, .int .i64 0, .slice none 0 0, .slice none 0 0]
/-- A function with one more register. -/
def FnD.grown (y : FnD) (A : Option Addr) (n : Nat) (t : Int) : FnD := { y with regsA := A, regsc := n, regs := y.regs ++ [t] }
set_option maxRecDepth 100000 in
set_option maxHeartbeats 2000000 in
theorem newreg_any (d : FnD) (t : Int) (w : World) (hd : d.ok w) (hs : d.small) (hr : d.regs.length ≤ 1000000) (ht : I6 t) :
    Calls Try.prog 30 #[.agg d.cells.toArray, .int .i64 t] w fun e w' => ∃ y : FnD, e = .returned (.tuple #[.agg y.cells.toArray, .int .i64 (d.regs.length : Nat)]) ∧ y.pure = { d.pure with regs := d.regs ++ [t] } ∧ y.ok w' ∧ Below w.heap.size w w' := by
  have HX := hide hd
  have HS := hide hs
  have HR := hide hr
  have HT := hide ht
  obtain ⟨q, hq⟩ : ∃ q, w.heap.size = q := ⟨_, rfl⟩
  obtain ⟨w1, hw1⟩ : ∃ z, (w.alloc (.cells d.cells.toArray 27)).alloc (.cells zFn.toArray 27) = z := ⟨_, rfl⟩
  have HB : Hid (Below w.heap.size w w1) := hide (by rw [← hw1]; exact ((Below.refl _ _).alloc (Nat.le_refl _) _).alloc (by simp) _)
  have HA : Hid (Whole w1 q 27 d.cells.toArray) := hide (by rw [← hw1, ← hq]; exact (Whole.new w _ _).alloc _)
  have HZ : Hid (Whole w1 (q + 1) 27 zFn.toArray) := hide (by
    rw [← hw1, ← hq, show w.heap.size + 1 = (w.alloc (.cells d.cells.toArray 27)).heap.size by simp]; exact Whole.new _ _ _)
  have hqs : Hid (q + 2 ≤ w1.heap.size) := hide (by rw [← hw1, ← hq]; simp)
  have hQ : Hid (w.heap.size = q) := hide hq
  have hu := Try.underlying27
  have hi : (Try.prog.info? 27).map (·.size) = some 5 := by kernel_rfl
  have HU := hide hu
  have HI := hide hi
  have c3 : w1.cell? ⟨q, 3, none⟩ = some (.slice d.regsA d.regs.length d.regsc) := HA.out.cell 3
  have hw1' : (w.alloc (.cells d.cells.toArray 27)).alloc (.cells #[.string ⟨#[]⟩, .slice none 0 0, .int .i64 0, .slice none 0 0, .slice none 0 0] 27) = w1 := hw1
  clear hd hs hr ht hu hi hw1
  go_enter Try.func30, Try.ntmps30
  go_upto_region 1 with fail
  clear hw1' hq
  go_upto_region 2 with fail
  clear c3
  refine wp_region_lit ?_
  refine wpList_load_mid (by rfl) _ _ rfl q 0 (by rfl) d.cells _ HA.out.range HU.out rfl HI.out ?_
  go_step; go_step
  refine (dup_any d _ (HX.out.below HB.out) HS.out).mono ?_
  rintro en v1 ⟨y, rfl, hyp, hyo, hyn, hb2⟩
  have HYP := hide hyp
  have HYO := hide hyo
  replace HA := hide (HA.out.below' hb2)
  replace HZ := hide (HZ.out.below' hb2)
  replace HB := hide (Below.all HB.out hb2)
  have hs2 := hide hb2.size
  clear hyp hyo hyn hb2
  simp only []
  go_step
  refine wpList_store_mid (by rfl) _ _ _ rfl q 0 y.cells.toArray (by rfl) (by rfl) HA.out.room HI.out FnD.all1' ?_
  rw [show y.cells.toArray.toList = y.cells from rfl]
  obtain ⟨w2, hw2⟩ : ∃ z, v1.setCells q 0 y.cells = z := ⟨_, rfl⟩
  have f2 := frm_setCells (g := q) y.cells 0 v1
  rw [hw2] at f2
  replace HA : Hid (Whole w2 q 27 y.cells.toArray) := hide (by rw [← hw2]; exact Whole.put (old := d.cells) HA.out rfl)
  replace HZ := hide (HZ.out.frm f2 (by simp))
  replace HYO := hide (HYO.out.frm f2 (fun b hb hb' => by
    have := (HYO.out.blk b hb).1
    have := hqs.out
    simp only [List.mem_singleton] at hb'
    omega))
  replace HB := hide (HB.out.trans (f2.toBelow (fun b hb => by rw [List.mem_singleton.1 hb]; have := hQ.out; omega) HB.out.size))
  have hq2 : Hid (q < w2.heap.size) := hide (by have := hqs.out; have := hs2.out; have := f2.size; omega)
  have HSv : Hid (w1.heap.size ≤ w2.heap.size) := hide (by have := hs2.out; have := f2.size; omega)
  rw [hw2]
  clear hw2 f2
  have c3 : w2.cell? ⟨q, 3, none⟩ = some (.slice y.regsA y.regs.length y.regsc) := HA.out.cell 3
  have hpr : y.regs = d.regs := congrArg FnP.regs HYP.out
  have HPR := hide hpr
  clear hpr
  go_upto_region 4 with (go_at_call 51; refine (copied_ty _ _ (intsN .i64 y.regs) (intsN .i64 [t]) _ (HYO.out.ok.regs.alloc _).toN (rd_one w2 _ t).toN (intsN_one _ _) (intsN_one _ _) (by rw [intsN_len, intsN_len]; have := HPR.out; have := HR.out; simp; rw [HPR.out]; omega)).mono ?_; rintro en v3 ⟨A, n, rfl, hn, hM, hR3, hb2⟩; replace hb2 := ((Below.refl w2.heap.size w2).alloc (Nat.le_refl _) _).trans (hb2.mono (by simp)); replace HA := hide (HA.out.below' hb2); replace HZ := hide (HZ.out.below' hb2); replace HYO := hide (HYO.out.below' hb2); replace HB := hide (Below.all HB.out hb2); rw [← intsN_app] at hM hR3 hn; rw [intsN_len] at hn; have HRd := hide hR3.toI; have HN := hide hn; have HMn := hide (hM.blk); have hsz := hb2.size; have HSz := hide hsz; clear hsz hM hR3 hn hb2 c3; have c3 : v3.cell? ⟨q, 3, none⟩ = some (.slice y.regsA y.regs.length y.regsc) := HA.out.cell 3; have f3 := HA.out.free 3)
  obtain ⟨w4, hw4⟩ : ∃ z, v3.setCell ⟨q, 3, none⟩ (.slice A n n) = z := ⟨_, rfl⟩
  have f4 : Frm v3 w4 [q] := by rw [← hw4]; exact (Frm.refl v3 [q]).setCell ⟨q, 3, none⟩ _ (.inl (by simp))
  obtain ⟨y2, hy2⟩ : ∃ y2, y.grown A n t = y2 := ⟨_, rfl⟩
  have hyc : y.cells.toArray.setIfInBounds 3 (.slice A n n) = y2.cells.toArray := by
    rw [← hy2]
    have e1 : n = (y.regs ++ [t]).length := HN.out
    have e2 : (y.grown A n t).cells = [.string y.nm, .slice y.paramsA y.params.length y.paramsc, .int .i64 y.res, .slice A (y.regs ++ [t]).length n, .slice y.blocksA y.blocks.length y.blocksc] := rfl
    rw [e2, ← e1]
    rfl
  replace HA : Hid (Whole w4 q 27 y2.cells.toArray) := hide (by rw [← hw4, ← hyc]; exact HA.out.set 3 _)
  replace HZ := hide (HZ.out.frm f4 (by simp))
  replace HB := hide (HB.out.trans (f4.toBelow (fun b hb => by rw [List.mem_singleton.1 hb]; have := hQ.out; omega) HB.out.size))
  have HOK : Hid (y2.ok w4) := hide (by
    have ho := HYO.out.frm f4 (fun b hb hb' => by
      have := (HYO.out.blk b hb).1
      have := hqs.out
      simp only [List.mem_singleton] at hb'
      omega)
    have e1 : n = (y.regs ++ [t]).length := HN.out
    have e3 : (y.regs ++ [t]).length ≤ 1000001 := by rw [HPR.out]; have := HR.out; simp; omega
    rw [← hy2]
    refine ⟨ho.ok.nm, ho.ok.params, ho.ok.paramsB, ho.ok.paramsI, ho.ok.res, ?_, ?_, ?_, ho.ok.blocks, ho.ok.blocksB, ho.ok.blocksO⟩
    · show Rd w4 .i64 (.slice A (y.regs ++ [t]).length n) (y.regs ++ [t])
      have := HRd.out.frmB f4 (fun b hb hb' => by have h1 := (HMn.out b hb).1; rw [World.size_alloc] at h1; have := hq2.out; simp only [List.mem_singleton] at hb'; omega)
      rw [← e1]
      exact this
    · show Fits (y.regs ++ [t]).length
      unfold Fits
      omega
    · intro z hz
      rcases List.mem_append.1 hz with hz | hz
      · exact ho.ok.regsI z hz
      · rw [List.mem_singleton.1 hz]; exact HT.out)
  have HP2 : Hid (y2.pure = { d.pure with regs := d.regs ++ [t] }) := hide (by
    rw [← hy2]
    have e2 : (y.grown A n t).pure = { y.pure with regs := y.regs ++ [t] } := rfl
    rw [e2, HYP.out, HPR.out])
  have HFP : Hid (∀ b ∈ y2.fp, q + 2 ≤ b) := hide (by
    rw [← hy2]
    intro b hb
    have hq := hqs.out
    have hq2' := hs2.out
    rcases List.mem_append.1 hb with hb | hb
    · have := (HYO.out.blk b (y.fp_params hb)).1; omega
    rcases List.mem_append.1 hb with hb | hb
    · have e1 : n = (y.regs ++ [t]).length := HN.out
      have h1 : b ∈ slB A n := by rw [e1]; exact hb
      have := (HMn.out b h1).1; rw [World.size_alloc] at this; have := HSv.out; omega
    rcases List.mem_append.1 hb with hb | hb
    · have := (HYO.out.blk b (y.fp_blocks hb)).1; omega
    · have := (HYO.out.blk b (y.fp_blocksE hb)).1; omega)
  rw [hw4]
  clear hw4 hyc f4 hy2 c3 f3
  refine wp_region_lit ?_
  refine wpList_load_mid (by rfl) _ _ rfl q 0 (by rfl) y2.cells _ HA.out.range HU.out rfl HI.out ?_
  go_step; go_step; go_step
  refine wpList_store_mid (by rfl) _ _ _ rfl (q + 1) 0 y2.cells.toArray (by rfl) (by rfl) HZ.out.room HI.out FnD.all1' ?_
  rw [show y2.cells.toArray.toList = y2.cells from rfl]
  obtain ⟨w6, hw6⟩ : ∃ z, w4.setCells (q + 1) 0 y2.cells = z := ⟨_, rfl⟩
  have hl : (loadVar 27 ⟨q + 1, 0, none⟩).run Try.prog w6 = .ok (.agg y2.cells.toArray) w6 := by
    rw [← hw6]
    exact Whole.ret (cs := y2.cells) (Whole.put (old := zFn) HZ.out rfl) HU.out rfl HI.out
  have f4 := frm_setCells (g := q + 1) y2.cells 0 w4
  rw [hw6] at f4
  have HB6 : Hid (Below w.heap.size w w6) := hide (HB.out.trans (f4.toBelow (fun b hb => by rw [List.mem_singleton.1 hb]; have := hQ.out; omega) HB.out.size))
  have HY6 : Hid (y2.ok w6) := hide (HOK.out.frm f4 (fun b hb hb' => by have := HFP.out b hb; simp only [List.mem_singleton] at hb'; omega))
  rw [hw6]
  clear hw6 f4
  have HL := hide hl
  clear hl
  go_wp2_with fail
  refine bodyPost_ret (v := .tuple #[.agg y2.cells.toArray, .int .i64 (d.regs.length : Nat)]) ?_ rfl ⟨y2, rfl, HP2.out, HY6.out, HB6.out⟩
  simp [results, Try.f30, asAddr, HL.out]
end Go.Proofs.Ythnehmfdadgklaa

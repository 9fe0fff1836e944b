/-
  Layer 20 (cfg): what rebuild makes of a function; duplicate.
-/
import Derived.Test.YthnehmfdadgklaaCfI
namespace Go.Proofs.Ythnehmfdadgklaa
open Go.RowKit Go.Deep

theorem FnD.all1' {x : FnD} : x.cells.toArray.all (·.oneCell') = true := all_oneCell_toArray (fun v hv => List.all_eq_true.1 (show x.cells.all (·.oneCell') = true by rfl) v hv)
theorem str_back (s : ByteArray) : strOfNums (strInts s) = s := by
  have h := strOfNums_data (strInts s)
  have h2 : (strOfNums (strInts s)).data = s.data := by
    apply Array.toList_inj.1
    rw [h]
    unfold strInts
    rw [List.map_map]
    apply List.ext_getElem?
    intro i
    rw [List.getElem?_map]
    cases s.data.toList[i]? <;> simp
  cases hs : strOfNums (strInts s)
  cases s
  rw [hs] at h2
  simp only at h2
  rw [h2]
theorem strInts_byte (s : ByteArray) : ∀ z ∈ strInts s, 0 ≤ z ∧ z ≤ 255 := by
  intro z hz
  obtain ⟨c, _, rfl⟩ := List.mem_map.1 hz
  have := c.toNat_lt
  omega
theorem run_strcopy {P : Program} (w : World) (src dst e : TypeId) (s : ByteArray) (hl : s.size ≤ maxLen) (hs : P.underlying src = some .string) (hd : P.underlying dst = some (.slice e)) (he : P.underlying e = some (.int .u8)) :
    ∃ v w', (convert src dst (.string s)).run P w = .ok v w' ∧ (convert dst src v).run P w' = .ok (.string s) w' ∧ Below w.heap.size w w' := by
  obtain ⟨cap, w', h1, h2, h3, _, _⟩ := run_bytes_buf (P := P) w src dst e (strInts s) (strInts_byte s) (by rw [strInts_len]; exact hl) hs hd he
  rw [str_back] at h1
  have h4 := run_convert_rd (P := P) w' dst src e hd he hs h2.rd
  rw [str_back] at h4
  exact ⟨_, w', h1, h4, h3.belowOf (Nat.le_refl _)⟩
theorem wpList_convert_run {P : Program} {w : World} {ops : Array Oper} {rest : List Oper} {o : Oper} {a : Act} {Q : Exit → Act → World → Prop} (hgd : o.guard = none) (s d : TypeId) (x : Operand) (ho : o.op = .convert s d x) (v v' : Value) (w' : World) (hx : a.eval x = v)
    (hrun : (convert s d v).run P w = .ok v' w') (h : wpList P ops Q rest (a.put o.dst v') w') : wpList P ops Q (o :: rest) a w := by
  refine wpList_plain hgd fun _ hK => ?_
  unfold Oper.wp execOp
  simp only [ho, Sem.run_bind, hx, hrun, Result.andThen_ok]
  exact hK _ _ h
/-- A block whose lists a process can hold. -/
def BkOk (W : World) (x : BkD) : Prop := x.ok W ∧ x.ins.length ≤ 1000000 ∧ x.term.succs.length ≤ 1000000
theorem BkOk.below {W W' : World} {x : BkD} (h : BkOk W x) (hb : Below W.heap.size W W') : BkOk W' x := ⟨h.1.below hb, h.2⟩
set_option maxRecDepth 100000 in
set_option maxHeartbeats 2000000 in
theorem re_block1 (x : BkD) (w : World) (pb B : Nat) (f : FuncId) (caps : Array Value) (r : Int → Int) (hp : w.cell? ⟨pb, 0, none⟩ = some (.func (.func f) #[] caps)) (hF : FnI Try.prog w B f caps r) (hx : BkOk w x) :
    Calls Try.prog 59 #[.agg x.cells.toArray, .pointer (some ⟨pb, 0, none⟩)] w fun e w' => ∃ y : BkD, e = .returned (.agg y.cells.toArray) ∧ y.pure = x.pure.re r ∧ y.own w' w.heap.size ∧ y.fp.Nodup ∧ Below w.heap.size w w' := by
  have HX := hide hx
  have HF := hide hF
  have hpl := World.block_lt_of_cell? _ _ hp
  obtain ⟨q, hq⟩ : ∃ q, w.heap.size = q := ⟨_, rfl⟩
  obtain ⟨w0, hw0⟩ : ∃ z, (w.alloc (.cells x.cells.toArray 54)).alloc (.cells #[.slice none 0 0, .slice none 0 0, .int .i64 0, .slice none 0 0, .slice none 0 0, .slice none 0 0, .int .i64 0] 54) = z := ⟨_, rfl⟩
  have b1 : Below w.heap.size w w0 := by rw [← hw0]; exact ((Below.refl _ _).alloc (Nat.le_refl _) _).alloc (by simp) _
  have HB := hide b1
  have HA : Hid (Whole w0 q 54 x.cells.toArray) := hide (by rw [← hw0, ← hq]; exact (Whole.new w _ _).alloc _)
  have HZ : Hid (Whole w0 (q + 1) 54 #[.slice none 0 0, .slice none 0 0, .int .i64 0, .slice none 0 0, .slice none 0 0, .slice none 0 0, .int .i64 0]) := hide (by
    rw [← hw0, ← hq, show w.heap.size + 1 = (w.alloc (.cells x.cells.toArray 54)).heap.size by simp]; exact Whole.new _ _ _)
  have c2 : w0.cell? ⟨pb, 0, none⟩ = some (.func (.func f) #[] caps) := (b1.cell (p := ⟨pb, 0, none⟩) hpl).trans hp
  have hqs : Hid (q + 2 ≤ w0.heap.size) := hide (by rw [← hw0, ← hq]; simp)
  have hQ : Hid (w.heap.size = q) := hide hq
  have hu := Try.underlying54
  have hi : (Try.prog.info? 54).map (·.size) = some 7 := by kernel_rfl
  have HU := hide hu
  have HI := hide hi
  have HFk := hide (HF.out.next (HB.out.mono HF.out.le))
  clear b1 hpl hp hF hx hu hi
  go_enter Try.func59, Try.ntmps59
  go_upto_region 1 with fail
  clear hw0 hq
  refine wp_region_lit ?_
  refine wpList_load_mid (by rfl) _ _ rfl q 0 (by rfl) x.cells _ HA.out.range HU.out rfl HI.out ?_
  go_step; go_step; go_step
  go_step; go_step
  refine (re_block x _ B f caps r HFk.out (HX.out.1.below HB.out) HX.out.2.1 HX.out.2.2).mono ?_
  rintro en v1 ⟨y, rfl, hyp, hyo, hyn, hb2⟩
  have HYP := hide hyp
  have HYO := hide hyo
  have HYN := hide hyn
  replace HZ := hide (HZ.out.below' hb2)
  replace HB := hide (Below.all HB.out hb2)
  have hs2 := hide hb2.size
  clear hyp hyo hyn hb2 c2
  simp only []
  go_step
  refine wpList_store_mid (by rfl) _ _ _ rfl (q + 1) 0 y.cells.toArray (by rfl) (by rfl) HZ.out.room HI.out BkD.all1' ?_
  rw [show y.cells.toArray.toList = y.cells from rfl]
  obtain ⟨w6, hw6⟩ : ∃ z, v1.setCells (q + 1) 0 y.cells = z := ⟨_, rfl⟩
  have hl : (loadVar 54 ⟨q + 1, 0, none⟩).run Try.prog w6 = .ok (.agg y.cells.toArray) w6 := by
    rw [← hw6]
    exact Whole.ret (cs := y.cells) (Whole.put (old := [.slice none 0 0, .slice none 0 0, .int .i64 0, .slice none 0 0, .slice none 0 0, .slice none 0 0, .int .i64 0]) HZ.out rfl) HU.out rfl HI.out
  have f4 := frm_setCells (g := q + 1) y.cells 0 v1
  rw [hw6] at f4
  have HY4 : Hid (y.own w6 w.heap.size) := hide ((HYO.out.frm f4 (fun b hb hb' => by
    have := (HYO.out.blk b hb).1
    have := hqs.out
    simp only [List.mem_singleton] at hb'
    omega)).low (by have := hqs.out; have := hQ.out; omega))
  have HB4 : Hid (Below w.heap.size w w6) := hide (HB.out.trans (f4.toBelow (fun b hb => by rw [List.mem_singleton.1 hb]; have := hQ.out; omega) HB.out.size))
  rw [hw6]
  clear hw6 f4
  have HL := hide hl
  clear hl
  go_wp2_with fail
  refine bodyPost_ret (v := .agg y.cells.toArray) ?_ rfl ⟨y, rfl, HYP.out, HY4.out, HYN.out, HB4.out⟩
  simp [results, Try.f59, Act.put, asAddr, HL.out]
theorem enter3 (xs : Array Value) (W : World) : (callFunc 59 xs).run Try.prog W = .ok (.enter 59 xs) W := by kernel_rfl
theorem enter4 (xs : Array Value) (W : World) : (callFunc 53 xs).run Try.prog W = .ok (.enter 53 xs) W := by kernel_rfl
theorem fnBks {w : World} {B pb : Nat} {f : FuncId} {caps : Array Value} {r : Int → Int} (hF : FnI Try.prog w B f caps r) (hp : w.cell? ⟨pb, 0, none⟩ = some (.func (.func f) #[] caps)) :
    FnS bkK Try.prog BkOk w w.heap.size 59 #[.pointer (some ⟨pb, 0, none⟩)] (fun a b => b.pure = a.pure.re r) :=
  ⟨enter3, fun W hW x hx => re_block1 x W pb B f caps r ((hW.cell (p := ⟨pb, 0, none⟩) (World.block_lt_of_cell? _ _ hp)).trans hp) (hF.next (hW.mono hF.le)) hx, fun _ _ _ h hb => h.below hb, Nat.le_refl _⟩
/-- A mapped function. -/
def FnD.mapped (x : FnD) (A0 A3 A4 : Option Addr) (bs : List BkD) (r : Int → Int) : FnD := ⟨x.nm, A0, x.params.length, x.params.map r, x.res, A3, x.regs.length, x.regs, A4, x.blocks.length, bs⟩
theorem FnD.mk' {w : World} {base : Nat} {x : FnD} {A0 A3 A4 : Option Addr} {bs : List BkD} {r : Int → Int} (hx : x.ok w) (hr : ∀ z, I6 z → I6 (r z))
    (M0 : Mine w base 3 1 A0 x.params.length x.params.length (intsN .i64 (x.params.map r))) (R0 : Rd w .i64 (.slice A0 x.params.length x.params.length) (x.params.map r))
    (M3 : Mine w base 23 1 A3 x.regs.length x.regs.length (intsN .i64 x.regs)) (R3 : Rd w .i64 (.slice A3 x.regs.length x.regs.length) x.regs)
    (D4 : MapD bkK base w 54 A4 x.blocks bs (fun a b => b.pure = a.pure.re r)) :
    (x.mapped A0 A3 A4 bs r).own w base ∧ (x.mapped A0 A3 A4 bs r).pure = x.pure.re r := by
  refine ⟨⟨⟨hx.nm, ?_, ?_, ?_, hx.res, R3, hx.regsB, hx.regsI, ?_, ?_, fun e he => (D4.own e he).ok⟩, ?_, M3, ?_, D4.own⟩, ?_⟩
  · simpa [FnD.mapped] using R0
  · simpa [FnD.mapped] using hx.paramsB
  · intro z hz
    obtain ⟨a, ha, rfl⟩ := List.mem_map.1 hz
    exact hr a (hx.paramsI a ha)
  · show RdN w 7 (.slice A4 bs.length x.blocks.length) _
    rw [D4.len]
    exact D4.rd
  · show Fits bs.length
    rw [D4.len]
    exact hx.blocksB
  · simpa [FnD.mapped] using M0
  · show Mine w base _ 7 A4 bs.length x.blocks.length _
    rw [D4.len]
    exact D4.mine
  · have := map_each (p := BkD.pure) (h := BkP.re r) D4.len D4.each
    simp only [FnD.pure, FnD.mapped, FnP.re, this]
/-- A function whose lists a process can hold. -/
def FnD.small (d : FnD) : Prop := d.blocks.length ≤ 1000000 ∧ ∀ b ∈ d.blocks, b.ins.length ≤ 1000000 ∧ b.term.succs.length ≤ 1000000
set_option maxRecDepth 100000 in
set_option maxHeartbeats 4000000 in
theorem re_func (x : FnD) (w : World) (B : Nat) (f : FuncId) (caps : Array Value) (r : Int → Int) (hF : FnI Try.prog w B f caps r) (hx : x.ok w) (hs : x.small) :
    Calls Try.prog 47 #[.agg x.cells.toArray, (.func (.func f) #[] caps)] w fun e w' => ∃ y : FnD, e = .returned (.agg y.cells.toArray) ∧ y.pure = x.pure.re r ∧ y.own w' w.heap.size ∧ y.fp.Nodup ∧ Below w.heap.size w w' := by
  have HX := hide hx
  have HF := hide hF
  have HS := hide hs
  obtain ⟨q, hq⟩ : ∃ q, w.heap.size = q := ⟨_, rfl⟩
  obtain ⟨w0, hw0⟩ : ∃ z, ((w.alloc (.cells x.cells.toArray 27)).alloc (.cells #[(.func (.func f) #[] caps)] 78)).alloc (.cells #[.string ⟨#[]⟩, .slice none 0 0, .int .i64 0, .slice none 0 0, .slice none 0 0] 27) = z := ⟨_, rfl⟩
  have HB : Hid (Below w.heap.size w w0) := hide (by rw [← hw0]; exact (((Below.refl _ _).alloc (Nat.le_refl _) _).alloc (by simp) _).alloc (by simp; omega) _)
  have HA : Hid (Whole w0 q 27 x.cells.toArray) := hide (by rw [← hw0, ← hq]; exact ((Whole.new w _ _).alloc _).alloc _)
  have HC : Hid (Whole w0 (q + 1) 78 #[(.func (.func f) #[] caps)]) := hide (by
    rw [← hw0, ← hq, show w.heap.size + 1 = (w.alloc (.cells x.cells.toArray 27)).heap.size by simp]; exact (Whole.new _ _ _).alloc _)
  have HZ : Hid (Whole w0 (q + 2) 27 #[.string ⟨#[]⟩, .slice none 0 0, .int .i64 0, .slice none 0 0, .slice none 0 0]) := hide (by
    rw [← hw0, ← hq, show w.heap.size + 2 = ((w.alloc (.cells x.cells.toArray 27)).alloc (.cells #[(.func (.func f) #[] caps)] 78)).heap.size by simp]; exact Whole.new _ _ _)
  have hqs : Hid (q + 3 ≤ w0.heap.size) := hide (by rw [← hw0, ← hq]; simp)
  have h00 := hqs
  have hQ : Hid (w.heap.size = q) := hide hq
  have hq2 : q + 1 + 1 = q + 2 := rfl
  clear hF hx hs
  go_enter Try.func47, Try.ntmps47
  go_upto_region 1 with fail
  clear hw0 hq
  have c1 : w0.cell? ⟨q, 0, none⟩ = some (.string x.nm) := HA.out.cell 0
  have hqk := hqs
  have HFk := hide (HF.out.next (HB.out.mono HF.out.le))
  obtain ⟨sv, v0, hr1, hr2, hb2⟩ := run_strcopy (P := Try.prog) w0 9 88 5 x.nm HX.out.nm Try.underlying9 Try.underlying88 Try.underlying5
  have R1 := hide hr1
  have R2 := hide hr2
  have HB2 := hide hb2
  clear hr1 hr2 hb2
  go_upto_region 2 with (first | ((refine wpList_convert_run rfl 9 88 _ rfl _ sv v0 rfl R1.out ?_)) | ((refine wpList_convert_run rfl 88 9 _ rfl sv _ v0 rfl R2.out ?_); have hb2 := HB2.out; replace HA := hide (HA.out.below' hb2); replace HC := hide (HC.out.below' hb2); replace HZ := hide (HZ.out.below' hb2); replace HB := hide (Below.all HB.out hb2); have HSv0 : Hid (w0.heap.size ≤ v0.heap.size) := hide hb2.size; replace hqs := hide (Nat.le_trans hqs.out hb2.size); clear hb2 HB2 c1 HFk hqk; have c1 : v0.cell? ⟨q, 0, none⟩ = some (.string x.nm) := HA.out.cell 0; have f1 := HA.out.free 0))
  obtain ⟨w1, hw⟩ : ∃ z, v0.setCell ⟨q, 0, none⟩ (.string x.nm) = z := ⟨_, rfl⟩
  have hf : Frm v0 w1 [q] := by rw [← hw]; exact (Frm.refl v0 [q]).setCell ⟨q, 0, none⟩ _ (.inl (by simp))
  replace HA := hide (HA.out.set 0 (.string x.nm))
  rw [hw] at HA
  replace HC := hide (HC.out.frm hf (by simp))
  replace HZ := hide (HZ.out.frm hf (by simp))
  replace HB := hide (HB.out.trans (hf.toBelow (fun b hb => by rw [List.mem_singleton.1 hb]; have := hQ.out; omega) HB.out.size))
  have HSw0 : Hid (v0.heap.size ≤ w1.heap.size) := hide hf.size
  replace hqs := hide (Nat.le_trans hqs.out hf.size)
  rw [hw]
  clear hw c1 f1 hf
  have c1 : w1.cell? ⟨q, 1, none⟩ = some (.slice x.paramsA x.params.length x.paramsc) := HA.out.cell 1
  have c2 : w1.cell? ⟨q + 1, 0, none⟩ = some (.func (.func f) #[] caps) := HC.out.cell 0
  have hqk := hqs
  have HFk := hide (HF.out.next (HB.out.mono HF.out.le))
  go_upto_region 3 with (go_at_call 57; refine (mapped_int _ x.params _ B f caps r (HX.out.params.below' HB.out) HX.out.paramsI HX.out.paramsB HFk.out).mono ?_; rintro en v1 ⟨A0, rfl, hM, hR, hb2⟩; replace HA := hide (HA.out.below' hb2); replace HC := hide (HC.out.below' hb2); replace HZ := hide (HZ.out.below' hb2); replace HB := hide (Below.all HB.out hb2); have HSv1 : Hid (w1.heap.size ≤ v1.heap.size) := hide hb2.size; replace hqs := hide (Nat.le_trans hqs.out hb2.size); have HPm0 := hide (stab_mine (q := q) hM (by have := hqk.out; omega)); have HPr0 := hide (stab_rd (q := q) hM (by have := hqk.out; omega) hR); have HR0 := hide (hM.rng); clear hb2 c1 c2 HFk hqk; have c1 : v1.cell? ⟨q, 1, none⟩ = some (.slice x.paramsA x.params.length x.paramsc) := HA.out.cell 1; have f1 := HA.out.free 1)
  obtain ⟨w2, hw⟩ : ∃ z, v1.setCell ⟨q, 1, none⟩ (.slice A0 x.params.length x.params.length) = z := ⟨_, rfl⟩
  have hf : Frm v1 w2 [q] := by rw [← hw]; exact (Frm.refl v1 [q]).setCell ⟨q, 1, none⟩ _ (.inl (by simp))
  replace HA := hide (HA.out.set 1 (.slice A0 x.params.length x.params.length))
  rw [hw] at HA
  replace HC := hide (HC.out.frm hf (by simp))
  replace HZ := hide (HZ.out.frm hf (by simp))
  replace HB := hide (HB.out.trans (hf.toBelow (fun b hb => by rw [List.mem_singleton.1 hb]; have := hQ.out; omega) HB.out.size))
  have HSw1 : Hid (v1.heap.size ≤ w2.heap.size) := hide hf.size
  replace hqs := hide (Nat.le_trans hqs.out hf.size)
  replace HPm0 := hide (HPm0.out.next hf)
  replace HPr0 := hide (HPr0.out.next hf)
  rw [hw]
  clear hw c1 f1 hf
  have c1 : w2.cell? ⟨q, 3, none⟩ = some (.slice x.regsA x.regs.length x.regsc) := HA.out.cell 3
  have hqk := hqs
  have HFk := hide (HF.out.next (HB.out.mono HF.out.le))
  go_upto_region 4 with (go_at_call 51; refine (copied_ty _ _ (intsN .i64 x.regs) [] _ (HX.out.regs.below' HB.out).toN (RdN.nil 1) (intsN_one _ _) (fun _ h => by cases h) (by rw [intsN_len]; have h7 := HX.out.regsB; unfold Fits at h7; simp; omega)).mono ?_; rintro en v2 ⟨A3, n3, rfl, hn, hM, hR, hb2⟩; obtain rfl : n3 = x.regs.length := (by rw [hn]; simp [intsN]); rw [List.append_nil] at hM hR; clear hn; replace HA := hide (HA.out.below' hb2); replace HC := hide (HC.out.below' hb2); replace HZ := hide (HZ.out.below' hb2); replace HB := hide (Below.all HB.out hb2); have HSv2 : Hid (w2.heap.size ≤ v2.heap.size) := hide hb2.size; replace hqs := hide (Nat.le_trans hqs.out hb2.size); replace HPm0 := hide (HPm0.out.next (Frm.below hb2)); replace HPr0 := hide (HPr0.out.next (Frm.below hb2)); have HPm3 := hide (stab_mine (q := q) hM (by have := hqk.out; omega)); have HPr3 := hide (stab_rd (q := q) hM (by have := hqk.out; omega) hR.toI); have HR3 := hide (hM.rng); clear hb2 c1 HFk hqk; have c1 : v2.cell? ⟨q, 3, none⟩ = some (.slice x.regsA x.regs.length x.regsc) := HA.out.cell 3; have f1 := HA.out.free 3)
  obtain ⟨w3, hw⟩ : ∃ z, v2.setCell ⟨q, 3, none⟩ (.slice A3 x.regs.length x.regs.length) = z := ⟨_, rfl⟩
  have hf : Frm v2 w3 [q] := by rw [← hw]; exact (Frm.refl v2 [q]).setCell ⟨q, 3, none⟩ _ (.inl (by simp))
  replace HA := hide (HA.out.set 3 (.slice A3 x.regs.length x.regs.length))
  rw [hw] at HA
  replace HC := hide (HC.out.frm hf (by simp))
  replace HZ := hide (HZ.out.frm hf (by simp))
  replace HB := hide (HB.out.trans (hf.toBelow (fun b hb => by rw [List.mem_singleton.1 hb]; have := hQ.out; omega) HB.out.size))
  have HSw2 : Hid (v2.heap.size ≤ w3.heap.size) := hide hf.size
  replace hqs := hide (Nat.le_trans hqs.out hf.size)
  replace HPm0 := hide (HPm0.out.next hf)
  replace HPr0 := hide (HPr0.out.next hf)
  replace HPm3 := hide (HPm3.out.next hf)
  replace HPr3 := hide (HPr3.out.next hf)
  rw [hw]
  clear hw c1 f1 hf
  have c1 : w3.cell? ⟨q, 4, none⟩ = some (.slice x.blocksA x.blocks.length x.blocksc) := HA.out.cell 4
  have c2 : w3.cell? ⟨q + 1, 0, none⟩ = some (.func (.func f) #[] caps) := HC.out.cell 0
  have hqk := hqs
  have HFk := hide (HF.out.next (HB.out.mono HF.out.le))
  go_upto_region 5 with (go_at_call 58; refine (mapped_bk _ x.blocks _ BkOk _ _ _ _ (HX.out.blocks.below' HB.out) (fun e he => ⟨(HX.out.blocksO e he).below HB.out, HS.out.2 e he⟩) HS.out.1 (fnBks HFk.out (HC.out.cell 0))).mono ?_; rintro en v3 ⟨A4, bs, rfl, hM, hb2⟩; replace HA := hide (HA.out.below' hb2); replace HC := hide (HC.out.below' hb2); replace HZ := hide (HZ.out.below' hb2); replace HB := hide (Below.all HB.out hb2); have HSv3 : Hid (w3.heap.size ≤ v3.heap.size) := hide hb2.size; replace hqs := hide (Nat.le_trans hqs.out hb2.size); replace HPm0 := hide (HPm0.out.next (Frm.below hb2)); replace HPr0 := hide (HPr0.out.next (Frm.below hb2)); replace HPm3 := hide (HPm3.out.next (Frm.below hb2)); replace HPr3 := hide (HPr3.out.next (Frm.below hb2)); have HD4 := hide (stab_map (q := q) hM (by have := hqk.out; omega)); have HR4 := hide (hM.rng); clear hb2 c1 c2 HFk hqk; have c1 : v3.cell? ⟨q, 4, none⟩ = some (.slice x.blocksA x.blocks.length x.blocksc) := HA.out.cell 4; have f1 := HA.out.free 4)
  obtain ⟨w4, hw⟩ : ∃ z, v3.setCell ⟨q, 4, none⟩ (.slice A4 x.blocks.length x.blocks.length) = z := ⟨_, rfl⟩
  have hf : Frm v3 w4 [q] := by rw [← hw]; exact (Frm.refl v3 [q]).setCell ⟨q, 4, none⟩ _ (.inl (by simp))
  replace HA := hide (HA.out.set 4 (.slice A4 x.blocks.length x.blocks.length))
  rw [hw] at HA
  replace HC := hide (HC.out.frm hf (by simp))
  replace HZ := hide (HZ.out.frm hf (by simp))
  replace HB := hide (HB.out.trans (hf.toBelow (fun b hb => by rw [List.mem_singleton.1 hb]; have := hQ.out; omega) HB.out.size))
  have HSw3 : Hid (v3.heap.size ≤ w4.heap.size) := hide hf.size
  replace hqs := hide (Nat.le_trans hqs.out hf.size)
  replace HPm0 := hide (HPm0.out.next hf)
  replace HPr0 := hide (HPr0.out.next hf)
  replace HPm3 := hide (HPm3.out.next hf)
  replace HPr3 := hide (HPr3.out.next hf)
  replace HD4 := hide (HD4.out.next hf)
  rw [hw]
  clear hw c1 f1 hf
  have hsz : Hid (w0.heap.size ≤ v0.heap.size ∧ v0.heap.size ≤ w1.heap.size ∧ w1.heap.size ≤ v1.heap.size ∧ v1.heap.size ≤ w2.heap.size ∧ w2.heap.size ≤ v2.heap.size ∧ v2.heap.size ≤ w3.heap.size ∧ w3.heap.size ≤ v3.heap.size ∧ v3.heap.size ≤ w4.heap.size) := hide ⟨HSv0.out, HSw0.out, HSv1.out, HSw1.out, HSv2.out, HSw2.out, HSv3.out, HSw3.out⟩
  have hY := FnD.mk' (base := w0.heap.size) (r := r) (HX.out.below HB.out) HF.out.wf (HPm0.out.now.low (by have := hsz.out; omega)) HPr0.out.now (HPm3.out.now.low (by have := hsz.out; omega)) HPr3.out.now (HD4.out.now.low (by have := hsz.out; omega))
  obtain ⟨y, hyd⟩ : ∃ y, x.mapped A0 A3 A4 bs r = y := ⟨_, rfl⟩
  have hl4 := HD4.out.now.len
  have hyc : ((((x.cells.toArray.setIfInBounds 0 (.string x.nm)).setIfInBounds 1 (.slice A0 x.params.length x.params.length)).setIfInBounds 3 (.slice A3 x.regs.length x.regs.length)).setIfInBounds 4 (.slice A4 x.blocks.length x.blocks.length)) = y.cells.toArray := by
    rw [← hyd]
    simp [FnD.cells, FnD.mapped, hl4]
  have hyn : y.fp.Nodup := by
    rw [← hyd]
    have h := hsz.out
    have e2 := (HR3.out.app HR4.out (by omega) (by omega) (by omega))
    have e1 := (HR0.out.app e2 (by omega) (by omega) (by omega)).1
    have : (x.mapped A0 A3 A4 bs r).fp = slB A0 x.params.length ++ (slB A3 x.regs.length ++ (slB A4 x.blocks.length ++ bs.flatMap BkD.fp)) := by
      simp [FnD.fp, FnD.mapped, hl4]
    rw [this]
    exact e1
  rw [hyd] at hY
  clear hyd hl4
  have HYP := hide hY.2
  have HYN := hide hyn
  have HY := hide hY.1
  rw [hyc] at HA
  clear hY hyn hyc HPm0 HPr0 HPm3 HPr3 HD4 HR0 HR3 HR4
  have hu := Try.underlying27
  have hi : (Try.prog.info? 27).map (·.size) = some 5 := by kernel_rfl
  refine wp_region_lit ?_
  refine wpList_load_mid (by rfl) _ _ rfl q 0 (by rfl) y.cells _ HA.out.range hu rfl hi ?_
  refine wpList_store_mid (by rfl) _ _ _ rfl (q + 2) 0 y.cells.toArray (by rfl) (by rfl) HZ.out.room hi FnD.all1' ?_
  rw [show y.cells.toArray.toList = y.cells from rfl]
  obtain ⟨w6, hw6⟩ : ∃ z, w4.setCells (q + 2) 0 y.cells = z := ⟨_, rfl⟩
  have hl : (loadVar 27 ⟨q + 2, 0, none⟩).run Try.prog w6 = .ok (.agg y.cells.toArray) w6 := by
    rw [← hw6]
    exact Whole.ret (cs := y.cells) (Whole.put (old := [.string ⟨#[]⟩, .slice none 0 0, .int .i64 0, .slice none 0 0, .slice none 0 0]) HZ.out rfl) hu rfl hi
  have f4 := frm_setCells (g := q + 2) y.cells 0 w4
  rw [hw6] at f4
  have h03 : Hid (q + 3 ≤ w0.heap.size) := h00
  have HY4 : Hid (y.own w6 w.heap.size) := hide ((HY.out.frm f4 (fun b hb hb' => by
    have := (HY.out.blk b hb).1
    have := h03.out
    simp only [List.mem_singleton] at hb'
    omega)).low (by have := h03.out; have := hQ.out; omega))
  have HB4 : Hid (Below w.heap.size w w6) := hide (HB.out.trans (f4.toBelow (fun b hb => by rw [List.mem_singleton.1 hb]; have := hQ.out; omega) HB.out.size))
  rw [hw6]
  clear hw6 f4 hu hi
  have HL := hide hl
  clear hl
  go_wp2_with fail
  refine bodyPost_ret (v := .agg y.cells.toArray) ?_ rfl ⟨y, rfl, HYP.out, HY4.out, HYN.out, HB4.out⟩
  simp [results, Try.f47, Act.put, asAddr, HL.out]
theorem InP.re_id (d : InP) : d.re (fun z => z) = d := by simp [InP.re]
theorem EdP.re_id (d : EdP) : d.re (fun z => z) = d := by simp [EdP.re]
theorem TmP.re_id (d : TmP) : d.re (fun z => z) = d := by
  have : EdP.re (fun z => z) = fun d => d := funext EdP.re_id
  simp [TmP.re, this]
theorem BkP.re_id (d : BkP) : d.re (fun z => z) = d := by
  have : InP.re (fun z => z) = fun d => d := funext InP.re_id
  simp [BkP.re, this, TmP.re_id]
theorem FnP.re_id (d : FnP) : d.re (fun z => z) = d := by
  have : BkP.re (fun z => z) = fun d => d := funext BkP.re_id
  simp [FnP.re, this]
set_option maxRecDepth 100000 in
set_option maxHeartbeats 400000 in
theorem same_int (z : Int) (w : World) : Calls Try.prog 53 #[.int .i64 z] w fun e w' => e = .returned (.int .i64 z) ∧ Below w.heap.size w w' := by
  go_enter Try.func53, Try.ntmps53
  go_wp2_with fail
  go_ret
  exact ⟨rfl, Below.refl _ _⟩
theorem fnSame (w : World) : FnI Try.prog w w.heap.size 53 #[] (fun z => z) :=
  ⟨enter4, fun W _ z _ => same_int z W, fun _ h => h, Nat.le_refl _⟩
set_option maxRecDepth 100000 in
set_option maxHeartbeats 2000000 in
theorem dup_any (x : FnD) (w : World) (hx : x.ok w) (hs : x.small) :
    Calls Try.prog 41 #[.agg x.cells.toArray] w fun e w' => ∃ y : FnD, e = .returned (.agg y.cells.toArray) ∧ y.pure = x.pure ∧ y.own w' w.heap.size ∧ y.fp.Nodup ∧ Below w.heap.size w w' := by
  have HX := hide hx
  have HS := hide hs
  obtain ⟨q, hq⟩ : ∃ q, w.heap.size = q := ⟨_, rfl⟩
  obtain ⟨w0, hw0⟩ : ∃ z, (w.alloc (.cells x.cells.toArray 27)).alloc (.cells #[.string ⟨#[]⟩, .slice none 0 0, .int .i64 0, .slice none 0 0, .slice none 0 0] 27) = z := ⟨_, rfl⟩
  have b1 : Below w.heap.size w w0 := by rw [← hw0]; exact ((Below.refl _ _).alloc (Nat.le_refl _) _).alloc (by simp) _
  have HB := hide b1
  have HA : Hid (Whole w0 q 27 x.cells.toArray) := hide (by rw [← hw0, ← hq]; exact (Whole.new w _ _).alloc _)
  have HZ : Hid (Whole w0 (q + 1) 27 #[.string ⟨#[]⟩, .slice none 0 0, .int .i64 0, .slice none 0 0, .slice none 0 0]) := hide (by
    rw [← hw0, ← hq, show w.heap.size + 1 = (w.alloc (.cells x.cells.toArray 27)).heap.size by simp]; exact Whole.new _ _ _)
  have hqs : Hid (q + 2 ≤ w0.heap.size) := hide (by rw [← hw0, ← hq]; simp)
  have hQ : Hid (w.heap.size = q) := hide hq
  have hu := Try.underlying27
  have hi : (Try.prog.info? 27).map (·.size) = some 5 := by kernel_rfl
  have HU := hide hu
  have HI := hide hi
  clear b1 hx hs hu hi
  go_enter Try.func41, Try.ntmps41
  go_upto_region 1 with fail
  clear hw0 hq
  refine wp_region_lit ?_
  refine wpList_load_mid (by rfl) _ _ rfl q 0 (by rfl) x.cells _ HA.out.range HU.out rfl HI.out ?_
  go_step; go_step
  refine (re_func x _ _ 53 #[] _ (fnSame _) (HX.out.below HB.out) HS.out).mono ?_
  rintro en v1 ⟨y, rfl, hyp, hyo, hyn, hb2⟩
  have HYP := hide hyp
  have HYO := hide hyo
  have HYN := hide hyn
  replace HZ := hide (HZ.out.below' hb2)
  replace HB := hide (Below.all HB.out hb2)
  clear hyp hyo hyn hb2
  simp only []
  go_step
  refine wpList_store_mid (by rfl) _ _ _ rfl (q + 1) 0 y.cells.toArray (by rfl) (by rfl) HZ.out.room HI.out FnD.all1' ?_
  rw [show y.cells.toArray.toList = y.cells from rfl]
  obtain ⟨w6, hw6⟩ : ∃ z, v1.setCells (q + 1) 0 y.cells = z := ⟨_, rfl⟩
  have hl : (loadVar 27 ⟨q + 1, 0, none⟩).run Try.prog w6 = .ok (.agg y.cells.toArray) w6 := by
    rw [← hw6]
    exact Whole.ret (cs := y.cells) (Whole.put (old := [.string ⟨#[]⟩, .slice none 0 0, .int .i64 0, .slice none 0 0, .slice none 0 0]) HZ.out rfl) HU.out rfl HI.out
  have f4 := frm_setCells (g := q + 1) y.cells 0 v1
  rw [hw6] at f4
  have HY4 : Hid (y.own w6 w.heap.size) := hide ((HYO.out.frm f4 (fun b hb hb' => by
    have := (HYO.out.blk b hb).1
    have := hqs.out
    simp only [List.mem_singleton] at hb'
    omega)).low (by have := hqs.out; have := hQ.out; omega))
  have HB4 : Hid (Below w.heap.size w w6) := hide (HB.out.trans (f4.toBelow (fun b hb => by rw [List.mem_singleton.1 hb]; have := hQ.out; omega) HB.out.size))
  rw [hw6]
  clear hw6 f4
  have HL := hide hl
  clear hl
  go_wp2_with fail
  refine bodyPost_ret (v := .agg y.cells.toArray) ?_ rfl ⟨y, rfl, by rw [HYP.out, FnP.re_id], HY4.out, HYN.out, HB4.out⟩
  simp [results, Try.f41, Act.put, asAddr, HL.out]
end Go.Proofs.Ythnehmfdadgklaa

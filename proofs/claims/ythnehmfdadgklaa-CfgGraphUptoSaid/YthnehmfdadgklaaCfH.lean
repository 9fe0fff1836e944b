/-
  Layer 20 (cfg): what rebuild makes of an instruction.
-/
import Derived.Test.YthnehmfdadgklaaCfG
namespace Go.Proofs.Ythnehmfdadgklaa
open Go.RowKit Go.Deep

/-- What stays true whatever happens in block q and in new blocks. -/
def Stab (q : Nat) (P : World → Prop) (W : World) : Prop := ∀ w', Frm W w' [q] → P w'
theorem Stab.next {q : Nat} {P : World → Prop} {W W' : World} (h : Stab q P W) (f : Frm W W' [q]) : Stab q P W' := fun w' f' => h w' (f.trans f')
theorem Stab.now {q : Nat} {P : World → Prop} {W : World} (h : Stab q P W) : P W := h W (Frm.refl W [q])
theorem stab_mine {q base m n c : Nat} {e : TypeId} {A : Option Addr} {rows : List (List Value)} {W : World} (h : Mine W base e m A n c rows) (hq : q < base) : Stab q (fun W => Mine W base e m A n c rows) W :=
  fun _ f => h.frm f (fun b hb hb' => by have := (h.blk b hb).1; simp only [List.mem_singleton] at hb'; omega)
theorem stab_rd {q base m n c : Nat} {e : TypeId} {k : IntKind} {A : Option Addr} {rows : List (List Value)} {l : List Int} {W : World} (h : Mine W base e m A n c rows) (hq : q < base) (hr : Rd W k (.slice A n c) l) : Stab q (fun W => Rd W k (.slice A n c) l) W :=
  fun _ f => hr.frmB f (fun b hb hb' => by have := (h.blk b hb).1; simp only [List.mem_singleton] at hb'; omega)
theorem stab_map {D : Type} {m : Nat} {K : DK D m} {q base : Nat} {e : TypeId} {A : Option Addr} {l ys : List D} {Q : D → D → Prop} {W : World} (h : MapD K base W e A l ys Q) (hq : q < base) : Stab q (fun W => MapD K base W e A l ys Q) W :=
  fun _ f => ⟨h.len, h.each, h.mine.frm f (fun b hb hb' => by have := (h.mine.blk b hb).1; simp only [List.mem_singleton] at hb'; omega), h.rd.frmB f (fun b hb hb' => by have := (h.mine.blk b hb).1; simp only [List.mem_singleton] at hb'; omega),
    fun y hy => K.frm (h.own y hy) f (fun b hb hb' => by have := (K.blk (h.own y hy) b hb).1; simp only [List.mem_singleton] at hb'; omega), h.nodup⟩
theorem InD.mk' {w : World} {base : Nat} {x : InD} {A : Option Addr} {r : Int → Int} (hx : x.ok w) (hr : ∀ z, I6 z → I6 (r z)) (hM : Mine w base 3 1 A x.args.length x.args.length (intsN .i64 (x.args.map r))) (hR : Rd w .i64 (.slice A x.args.length x.args.length) (x.args.map r)) :
    (⟨x.op, x.ty, r x.dst, A, x.args.length, x.args.map r, x.imm, x.sym, x.el, x.nw⟩ : InD).own w base := by
  refine ⟨⟨hx.op, hx.ty, hr _ hx.dst, ?_, ?_, ?_, hx.imm, hx.sym, hx.el⟩, ?_⟩
  · simpa using hR
  · simpa using hx.argsB
  · intro z hz
    obtain ⟨a, ha, rfl⟩ := List.mem_map.1 hz
    exact hr a (hx.argsI a ha)
  · simpa using hM
set_option maxRecDepth 100000 in
set_option maxHeartbeats 2000000 in
theorem re_instr (x : InD) (w : World) (pb B : Nat) (f : FuncId) (caps : Array Value) (r : Int → Int) (hp : w.cell? ⟨pb, 0, none⟩ = some (.func (.func f) #[] caps)) (hF : FnI Try.prog w B f caps r) (hx : x.ok w) :
    Calls Try.prog 62 #[.agg x.cells.toArray, .pointer (some ⟨pb, 0, none⟩)] w fun e w' => ∃ y : InD, e = .returned (.agg y.cells.toArray) ∧ y.pure = x.pure.re r ∧ y.own w' w.heap.size ∧ y.fp.Nodup ∧ Below w.heap.size w w' := by
  have HX := hide hx
  have HF := hide hF
  have HP := hide hp
  have hpl := World.block_lt_of_cell? _ _ hp
  have hpl' : Hid (pb < w.heap.size) := hide hpl
  obtain ⟨q, hq⟩ : ∃ q, w.heap.size = q := ⟨_, rfl⟩
  obtain ⟨w1, hw1⟩ : ∃ z, (w.alloc (.cells x.cells.toArray 70)).alloc (.cells #[.int .i64 0, .int .i64 0, .int .i64 0, .slice none 0 0, .int .i64 0, .int .i64 0, .int .i64 0, .bool false] 70) = z := ⟨_, rfl⟩
  have b1 : Below w.heap.size w w1 := by rw [← hw1]; exact ((Below.refl _ _).alloc (Nat.le_refl _) _).alloc (by simp) _
  have A1 : Whole w1 q 70 x.cells.toArray := by rw [← hw1, ← hq]; exact (Whole.new w _ _).alloc _
  have A2 : Whole w1 (q + 1) 70 #[.int .i64 0, .int .i64 0, .int .i64 0, .slice none 0 0, .int .i64 0, .int .i64 0, .int .i64 0, .bool false] := by
    rw [← hw1, ← hq, show w.heap.size + 1 = (w.alloc (.cells x.cells.toArray 70)).heap.size by simp]; exact Whole.new _ _ _
  have c3 : w1.cell? ⟨pb, 0, none⟩ = some (.func (.func f) #[] caps) := (b1.cell (p := ⟨pb, 0, none⟩) hpl).trans hp
  have c1 : w1.cell? ⟨q, 2, none⟩ = some (.int .i64 x.dst) := A1.cell 2
  have hqs : Hid (q + 2 ≤ w1.heap.size) := hide (by rw [← hw1, ← hq]; simp)
  have HA1 := hide A1
  have HA2 := hide A2
  have HB1 := hide b1
  have hQ : Hid (w.heap.size = q) := hide hq
  have hcf := hF.enter
  clear A1 A2 b1 hp hF hx hpl
  go_enter Try.func62, Try.ntmps62
  go_upto_region 1 with fail
  clear hw1 hq
  go_upto_region 2 with (refine (HF.out.call _ (HB1.out.mono HF.out.le) x.dst HX.out.dst).mono ?_; rintro en w2 ⟨rfl, hb2⟩; clear hcf; replace HA1 := hide (HA1.out.below' hb2); replace HA2 := hide (HA2.out.below' hb2); replace HB1 := hide (Below.all HB1.out hb2); replace hqs := hide (Nat.le_trans hqs.out hb2.size); clear hb2 c1 c3; have c1 : w2.cell? ⟨q, 2, none⟩ = some (.int .i64 x.dst) := HA1.out.cell 2; have f1 := HA1.out.free 2)
  obtain ⟨w3, hw3⟩ : ∃ z, w2.setCell ⟨q, 2, none⟩ (.int .i64 (r x.dst)) = z := ⟨_, rfl⟩
  replace HA1 := hide (HA1.out.set 2 (.int .i64 (r x.dst)))
  replace HA2 := hide (HA2.out.far (p := ⟨q, 2, none⟩) (by show q + 1 ≠ q; omega) (.int .i64 (r x.dst)))
  replace HB1 := hide (HB1.out.setCell (p := ⟨q, 2, none⟩) (by show w.heap.size ≤ q; rw [hQ.out]; exact Nat.le_refl _) (.int .i64 (r x.dst)))
  replace hqs : Hid (q + 2 ≤ w3.heap.size) := hide (by rw [← hw3]; simpa [World.setCell] using hqs.out)
  rw [hw3] at HA1 HA2 HB1
  rw [hw3]
  clear hw3 c1 f1
  have c1 : w3.cell? ⟨q, 3, none⟩ = some (.slice x.argsA x.args.length x.argsc) := HA1.out.cell 3
  have c3 : w3.cell? ⟨pb, 0, none⟩ = some (.func (.func f) #[] caps) := (HB1.out.cell (p := ⟨pb, 0, none⟩) hpl'.out).trans HP.out
  have hXR : Hid (Rd w3 .i64 (.slice x.argsA x.args.length x.argsc) x.args) := hide (HX.out.args.below' HB1.out)
  have hF1 := hide (HF.out.next (HB1.out.mono HF.out.le))
  go_upto_region 3 with (go_at_call 57; refine (mapped_int _ x.args _ B f caps r hXR.out HX.out.argsI HX.out.argsB hF1.out).mono ?_; rintro en w4 ⟨A, rfl, hM, hR, hb2⟩; replace HA1 := hide (HA1.out.below' hb2); replace HA2 := hide (HA2.out.below' hb2); replace HB1 := hide (Below.all HB1.out hb2); have HM := hide hM; have HR := hide hR; clear hM hR hb2 c1 c3; have c1 : w4.cell? ⟨q, 3, none⟩ = some (.slice x.argsA x.args.length x.argsc) := HA1.out.cell 3; have f1 := HA1.out.free 3)
  have hy := InD.mk' (w := w4) (base := w3.heap.size) (r := r) (x := x) (A := A) (HX.out.below HB1.out) HF.out.wf HM.out HR.out
  obtain ⟨y, hyd⟩ : ∃ y : InD, (⟨x.op, x.ty, r x.dst, A, x.args.length, x.args.map r, x.imm, x.sym, x.el, x.nw⟩ : InD) = y := ⟨_, rfl⟩
  have hyc : (x.cells.toArray.setIfInBounds 2 (.int .i64 (r x.dst))).setIfInBounds 3 (.slice A x.args.length x.args.length) = y.cells.toArray := by
    rw [← hyd]
    simp [InD.cells]
  have hyp : y.pure = x.pure.re r := by rw [← hyd]; rfl
  have hyn : y.fp.Nodup := by rw [← hyd]; exact slB_nodup _ _
  rw [hyd] at hy
  clear hyd
  obtain ⟨w5, hw5⟩ : ∃ z, w4.setCell ⟨q, 3, none⟩ (.slice A x.args.length x.args.length) = z := ⟨_, rfl⟩
  have HA3 : Hid (Whole w5 q 70 y.cells.toArray) := hide (by rw [← hw5, ← hyc]; exact HA1.out.set 3 _)
  have HA4 : Hid (Whole w5 (q + 1) 70 #[.int .i64 0, .int .i64 0, .int .i64 0, .slice none 0 0, .int .i64 0, .int .i64 0, .int .i64 0, .bool false]) := hide (by rw [← hw5]; exact HA2.out.far (by show q + 1 ≠ q; omega) _)
  have f3 : Frm w4 w5 [q] := by rw [← hw5]; exact (Frm.refl w4 [q]).setCell ⟨q, 3, none⟩ _ (.inl (by simp))
  have HY : Hid (y.own w5 w3.heap.size) := hide (hy.frm f3 (fun b hb hb' => by
    have := (hy.blk b hb).1
    have := hqs.out
    simp only [List.mem_singleton] at hb'
    omega))
  have HB3 : Hid (Below w.heap.size w w5) := hide (by rw [← hw5]; exact HB1.out.setCell (by show w.heap.size ≤ q; rw [hQ.out]; exact Nat.le_refl _) _)
  rw [hw5]
  clear hw5 hyc f3 hy HA1 HA2 HB1 c1 f1 HM HR
  have hu := Try.underlying70
  have hi : (Try.prog.info? 70).map (·.size) = some 8 := by kernel_rfl
  have HYP := hide hyp
  have HYN := hide hyn
  refine wp_region_lit ?_
  refine wpList_load_mid (by rfl) _ _ rfl q 0 (by rfl) y.cells _ HA3.out.range hu rfl hi ?_
  refine wpList_store_mid (by rfl) _ _ _ rfl (q + 1) 0 y.cells.toArray (by rfl) (by rfl) HA4.out.room hi InD.all1' ?_
  rw [show y.cells.toArray.toList = y.cells from rfl]
  obtain ⟨w6, hw6⟩ : ∃ z, w5.setCells (q + 1) 0 y.cells = z := ⟨_, rfl⟩
  have hl : (loadVar 70 ⟨q + 1, 0, none⟩).run Try.prog w6 = .ok (.agg y.cells.toArray) w6 := by
    rw [← hw6]
    exact Whole.ret (cs := y.cells) (Whole.put (old := [.int .i64 0, .int .i64 0, .int .i64 0, .slice none 0 0, .int .i64 0, .int .i64 0, .int .i64 0, .bool false]) HA4.out rfl) hu rfl hi
  have f4 := frm_setCells (g := q + 1) y.cells 0 w5
  rw [hw6] at f4
  have HY4 : Hid (y.own w6 w.heap.size) := hide ((HY.out.frm f4 (fun b hb hb' => by
    have := (HY.out.blk b hb).1
    have := hqs.out
    simp only [List.mem_singleton] at hb'
    omega)).low (by have := hqs.out; have := hQ.out; omega))
  have HB4 : Hid (Below w.heap.size w w6) := hide (HB3.out.trans (f4.toBelow (fun b hb => by rw [List.mem_singleton.1 hb]; have := hQ.out; omega) HB3.out.size))
  rw [hw6]
  clear hw6 f4 hyp hyn hu hi
  have HL := hide hl
  clear hl
  go_wp2_with fail
  refine bodyPost_ret (v := .agg y.cells.toArray) ?_ rfl ⟨y, rfl, HYP.out, HY4.out, HYN.out, HB4.out⟩
  simp [results, Try.f62, Act.put, asAddr, HL.out]
end Go.Proofs.Ythnehmfdadgklaa

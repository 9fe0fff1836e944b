/-
  Layer 20 (cfg): what rebuild makes of an edge.
-/
import Derived.Test.YthnehmfdadgklaaCfFed
namespace Go.Proofs.Ythnehmfdadgklaa
open Go.RowKit Go.Deep

/-- A whole block, all its cells set. -/
theorem Whole.sets {g : Nat} {t : TypeId} : ∀ (new pre old : List Value) (w : World), Whole w g t (pre ++ old).toArray → old.length = new.length → Whole (w.setCells g pre.length new) g t (pre ++ new).toArray
  | [], pre, old, w, h, hl => by
    obtain rfl : old = [] := List.eq_nil_of_length_eq_zero (by simpa using hl)
    exact h
  | v :: r, pre, [], w, h, hl => by simp at hl
  | v :: r, pre, o :: os, w, h, hl => by
    rw [World.setCells]
    have e : (pre ++ o :: os).toArray.setIfInBounds pre.length v = ((pre ++ [v]) ++ os).toArray := by
      apply Array.toList_inj.1
      simp
    have h2 := h.set pre.length v
    rw [e] at h2
    have h3 := Whole.sets r (pre ++ [v]) os _ h2 (by simpa using hl)
    simpa using h3
theorem Whole.put {g : Nat} {t : TypeId} {w : World} {old new : List Value} (h : Whole w g t old.toArray) (hl : old.length = new.length) : Whole (w.setCells g 0 new) g t new.toArray := by
  have := Whole.sets new [] old w (by simpa using h) hl
  simpa using this
theorem Whole.room {g : Nat} {t : TypeId} {w : World} {cs : Array Value} (h : Whole w g t cs) : w.there g 0 cs.size := fun j hj =>
  ⟨by rw [Nat.zero_add, h.cell, Array.getElem?_eq_getElem hj]; rfl, by rw [Nat.zero_add]; exact h.free j⟩
theorem Whole.ret {P : Program} {g : Nat} {t : TypeId} {w : World} {ty : TypeId} {cs : List Value} {d : TypeDesc} (h : Whole w g t cs.toArray) (hu : P.underlying ty = some d) (hd : d.isRow = true) (hi : (P.info? ty).map (·.size) = some cs.length) : (loadVar ty ⟨g, 0, none⟩).run P w = .ok (.agg cs.toArray) w :=
  run_loadVar_mid w g 0 ty cs d h.range hu hd hi
theorem EdD.mk' {w : World} {base : Nat} {x : EdD} {A : Option Addr} {r : Int → Int} (hx : x.ok w) (hr : ∀ z, I6 z → I6 (r z)) (hM : Mine w base 3 1 A x.args.length x.args.length (intsN .i64 (x.args.map r))) (hR : Rd w .i64 (.slice A x.args.length x.args.length) (x.args.map r)) :
    (⟨x.blk, A, x.args.length, x.args.map r⟩ : EdD).own w base := by
  refine ⟨⟨hx.blk, ?_, ?_, ?_⟩, ?_⟩
  · simpa using hR
  · simpa using hx.argsB
  · intro z hz
    obtain ⟨a, ha, rfl⟩ := List.mem_map.1 hz
    exact hr a (hx.argsI a ha)
  · simpa using hM
set_option maxRecDepth 100000 in
set_option maxHeartbeats 2000000 in
theorem re_edge (x : EdD) (w : World) (pb B : Nat) (f : FuncId) (caps : Array Value) (r : Int → Int) (hp : w.cell? ⟨pb, 0, none⟩ = some (.func (.func f) #[] caps)) (hF : FnI Try.prog w B f caps r) (hx : x.ok w) :
    Calls Try.prog 65 #[.agg x.cells.toArray, .pointer (some ⟨pb, 0, none⟩)] w fun e w' => ∃ y : EdD, e = .returned (.agg y.cells.toArray) ∧ y.pure = x.pure.re r ∧ y.own w' w.heap.size ∧ y.fp.Nodup ∧ Below w.heap.size w w' := by
  have HX := hide hx
  have HF := hide hF
  have hpl := World.block_lt_of_cell? _ _ hp
  have hpl' : pb < w.heap.size := hpl
  obtain ⟨q, hq⟩ : ∃ q, w.heap.size = q := ⟨_, rfl⟩
  obtain ⟨w1, hw1⟩ : ∃ z, (w.alloc (.cells x.cells.toArray 56)).alloc (.cells #[.int .i64 0, .slice none 0 0] 56) = z := ⟨_, rfl⟩
  have b1 : Below w.heap.size w w1 := by rw [← hw1]; exact ((Below.refl _ _).alloc (Nat.le_refl _) _).alloc (by simp) _
  have A1 : Whole w1 q 56 x.cells.toArray := by rw [← hw1, ← hq]; exact (Whole.new w _ _).alloc _
  have A2 : Whole w1 (q + 1) 56 #[.int .i64 0, .slice none 0 0] := by
    rw [← hw1, ← hq, show w.heap.size + 1 = (w.alloc (.cells x.cells.toArray 56)).heap.size by simp]; exact Whole.new _ _ _
  have c3 : w1.cell? ⟨pb, 0, none⟩ = some (.func (.func f) #[] caps) := (b1.cell (p := ⟨pb, 0, none⟩) hpl').trans hp
  have c1 : w1.cell? ⟨q, 1, none⟩ = some (.slice x.argsA x.args.length x.argsc) := A1.cell 1
  have hqs : Hid (q + 2 ≤ w1.heap.size) := hide (by rw [← hw1, ← hq]; simp)
  have HA1 := hide A1
  have HA2 := hide A2
  have HB1 := hide b1
  have hQ : Hid (w.heap.size = q) := hide hq
  have hXR : Hid (Rd w1 .i64 (.slice x.argsA x.args.length x.argsc) x.args) := hide (hx.args.below' b1)
  have hF1 := hide (hF.next (b1.mono hF.le))
  clear A1 A2 b1 hp hF hx hpl hpl'
  go_enter Try.func65, Try.ntmps65
  go_upto_region 1 with fail
  clear hw1 hq
  have hFits := hide HX.out.argsB
  go_upto_region 2 with (go_at_call 57; refine (mapped_int _ x.args _ B f caps r hXR.out HX.out.argsI hFits.out hF1.out).mono ?_; rintro en w2 ⟨A, rfl, hM, hR, hb2⟩; replace HA1 := hide (HA1.out.below' hb2); replace HA2 := hide (HA2.out.below' hb2); replace HB1 := hide (Below.all HB1.out hb2); have HM := hide hM; have HR := hide hR; have HS : Hid (w1.heap.size ≤ w2.heap.size) := hide hb2.size; clear hM hR hb2 c1 c3; have c1 : w2.cell? ⟨q, 1, none⟩ = some (.slice x.argsA x.args.length x.argsc) := HA1.out.cell 1; have f1 := HA1.out.free 1)
  have hy := EdD.mk' (w := w2) (base := w1.heap.size) (r := r) (x := x) (A := A) (HX.out.below HB1.out) hF1.out.wf HM.out HR.out
  obtain ⟨y, hyd⟩ : ∃ y : EdD, (⟨x.blk, A, x.args.length, x.args.map r⟩ : EdD) = y := ⟨_, rfl⟩
  have hyc : x.cells.toArray.setIfInBounds 1 (.slice A x.args.length x.args.length) = y.cells.toArray := by
    rw [← hyd]
    simp [EdD.cells]
  have hyp : y.pure = x.pure.re r := by rw [← hyd]; rfl
  have hyn : y.fp.Nodup := by rw [← hyd]; exact slB_nodup _ _
  rw [hyd] at hy
  clear hyd
  obtain ⟨w3, hw3⟩ : ∃ z, w2.setCell ⟨q, 1, none⟩ (.slice A x.args.length x.args.length) = z := ⟨_, rfl⟩
  have HA3 : Hid (Whole w3 q 56 y.cells.toArray) := hide (by rw [← hw3, ← hyc]; exact HA1.out.set 1 _)
  have HA4 : Hid (Whole w3 (q + 1) 56 #[.int .i64 0, .slice none 0 0]) := hide (by rw [← hw3]; exact HA2.out.far (by show q + 1 ≠ q; omega) _)
  have f3 : Frm w2 w3 [q] := by rw [← hw3]; exact (Frm.refl w2 [q]).setCell ⟨q, 1, none⟩ _ (.inl (by simp))
  have hq1 : Hid (q + 2 ≤ w1.heap.size) := hide hqs.out
  have HY : Hid (y.own w3 w1.heap.size) := hide (hy.frm f3 (fun b hb hb' => by
    have := (hy.blk b hb).1
    have := hq1.out
    simp only [List.mem_singleton] at hb'
    omega))
  have HB3 : Hid (Below w.heap.size w w3) := hide (by rw [← hw3]; exact HB1.out.setCell (by show w.heap.size ≤ q; rw [hQ.out]; exact Nat.le_refl _) _)
  rw [hw3]
  clear hw3 hyc f3 hy HA1 HA2 HB1 c1 f1 HM HR
  have hu := Try.underlying56
  have hi : (Try.prog.info? 56).map (·.size) = some 2 := by kernel_rfl
  have HYP := hide hyp
  have HYN := hide hyn
  refine wp_region_lit ?_
  refine wpList_load_mid (by rfl) _ _ rfl q 0 (by rfl) y.cells _ HA3.out.range hu rfl hi ?_
  refine wpList_store_mid (by rfl) _ _ _ rfl (q + 1) 0 y.cells.toArray (by rfl) (by rfl) HA4.out.room hi EdD.all1' ?_
  rw [show y.cells.toArray.toList = y.cells from rfl]
  obtain ⟨w4, hw4⟩ : ∃ z, w3.setCells (q + 1) 0 y.cells = z := ⟨_, rfl⟩
  have hl : (loadVar 56 ⟨q + 1, 0, none⟩).run Try.prog w4 = .ok (.agg y.cells.toArray) w4 := by
    rw [← hw4]
    exact Whole.ret (cs := y.cells) (Whole.put (old := [.int .i64 0, .slice none 0 0]) HA4.out rfl) hu rfl hi
  have f4 := frm_setCells (g := q + 1) y.cells 0 w3
  rw [hw4] at f4
  have HY4 : Hid (y.own w4 w.heap.size) := hide ((HY.out.frm f4 (fun b hb hb' => by
    have := (HY.out.blk b hb).1
    have := hq1.out
    simp only [List.mem_singleton] at hb'
    omega)).low (by have := hq1.out; have := hQ.out; omega))
  have HB4 : Hid (Below w.heap.size w w4) := hide (HB3.out.trans (f4.toBelow (fun b hb => by rw [List.mem_singleton.1 hb]; have := hQ.out; omega) HB3.out.size))
  rw [hw4]
  clear hw4 f4 hyp hyn hu hi
  have HL := hide hl
  clear hl
  go_wp2_with fail
  refine bodyPost_ret (v := .agg y.cells.toArray) ?_ rfl ⟨y, rfl, HYP.out, HY4.out, HYN.out, HB4.out⟩
  simp [results, Try.f65, Act.put, asAddr, HL.out]
end Go.Proofs.Ythnehmfdadgklaa

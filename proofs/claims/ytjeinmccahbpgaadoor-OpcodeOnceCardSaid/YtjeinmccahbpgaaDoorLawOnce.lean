/-
  OpcodeOnce, layer 12 (opcode).
-/
import Derived.Test.YtjeinmccahbpgaaDoorOnceM
namespace Go.Proofs.YtjeinmccahbpgaaDoor
open Go.RowKit

set_option maxRecDepth 100000 in
set_option maxHeartbeats 16000000 in
theorem once_law (op ty dst imm sym el t : Int) (A RA GA FA PA BA : Option Addr) (c rc gn gc fc pn pc bn bc : Nat) (fs : List FD) (l rl : List Int) (hrl : rl.length ≤ 17592186044416) (nw : Bool) (nm : ByteArray) (res : Int) (w : World) (hT : Tab w) (hO : OpTab w)
    (hl : Rd w .i64 (.slice A l.length c) l) (hr : Rd w .i64 (.slice RA rl.length rc) rl) (hF : FnsAt w FA fs) :
    Calls Tryd.prog 12 #[.agg #[.int .i64 op, .int .i64 ty, .int .i64 dst, .slice A l.length c, .int .i64 imm, .int .i64 sym, .int .i64 el, .bool nw], .agg #[.string nm, .slice PA pn pc, .int .i64 res, .slice RA rl.length rc, .slice BA bn bc], .agg #[.slice GA gn gc, .slice FA fs.length fc], .int .i64 t] w fun e w' => e = .returned (.bool true) ∧ Below w.heap.size w w' := by
  obtain ⟨w1, hw1⟩ : ∃ z, ((w.alloc (.cells #[.int .i64 op, .int .i64 ty, .int .i64 dst, .slice A l.length c, .int .i64 imm, .int .i64 sym, .int .i64 el, .bool nw] 38)).alloc (.cells #[.string nm, .slice PA pn pc, .int .i64 res, .slice RA rl.length rc, .slice BA bn bc] 60)).alloc (.cells #[.slice GA gn gc, .slice FA fs.length fc] 64) = z := ⟨_, rfl⟩
  have HS : Hid (BoxS w w1 #[.int .i64 op, .int .i64 ty, .int .i64 dst, .slice A l.length c, .int .i64 imm, .int .i64 sym, .int .i64 el, .bool nw] #[.string nm, .slice PA pn pc, .int .i64 res, .slice RA rl.length rc, .slice BA bn bc] #[.slice GA gn gc, .slice FA fs.length fc]) := hide (by rw [← hw1]; have h := ChkS.new w #[.int .i64 op, .int .i64 ty, .int .i64 dst, .slice A l.length c, .int .i64 imm, .int .i64 sym, .int .i64 el, .bool nw] #[.string nm, .slice PA pn pc, .int .i64 res, .slice RA rl.length rc, .slice BA bn bc] #[.slice GA gn gc, .slice FA fs.length fc] hT hO hl hr; exact ⟨h.i, h.f, h.m, h.b⟩)
  have HIN := hide (And.intro hT (And.intro hO (And.intro hl (And.intro hr hF))))
  clear hT hO hl hr hF
  go_enter Tryd.func12, Tryd.ntmps12
  go_upto_region 1 with fail
  clear hw1
  go_wp2_with fail
  refine (awake_any _ (HIN.out.1.below HS.out.b) (HIN.out.2.1.below HS.out.b)).mono ?_
  rintro en w2 ⟨rfl, hb⟩
  replace HS := hide (HS.out.next hb)
  clear hb
  have i0 : w2.cell? ⟨w.heap.size, 0, none⟩ = some (.int .i64 op) := HS.out.i.cell 0
  have i1 : w2.cell? ⟨w.heap.size, 1, none⟩ = some (.int .i64 ty) := HS.out.i.cell 1
  have i2 : w2.cell? ⟨w.heap.size, 2, none⟩ = some (.int .i64 dst) := HS.out.i.cell 2
  have i3 : w2.cell? ⟨w.heap.size, 3, none⟩ = some (.slice A l.length c) := HS.out.i.cell 3
  have i4 : w2.cell? ⟨w.heap.size, 4, none⟩ = some (.int .i64 imm) := HS.out.i.cell 4
  have i5 : w2.cell? ⟨w.heap.size, 5, none⟩ = some (.int .i64 sym) := HS.out.i.cell 5
  have i6 : w2.cell? ⟨w.heap.size, 6, none⟩ = some (.int .i64 el) := HS.out.i.cell 6
  have i7 : w2.cell? ⟨w.heap.size, 7, none⟩ = some (.bool nw) := HS.out.i.cell 7
  have f0 : w2.cell? ⟨w.heap.size + 1, 0, none⟩ = some (.string nm) := HS.out.f.cell 0
  have f1 : w2.cell? ⟨w.heap.size + 1, 1, none⟩ = some (.slice PA pn pc) := HS.out.f.cell 1
  have f2 : w2.cell? ⟨w.heap.size + 1, 2, none⟩ = some (.int .i64 res) := HS.out.f.cell 2
  have f3 : w2.cell? ⟨w.heap.size + 1, 3, none⟩ = some (.slice RA rl.length rc) := HS.out.f.cell 3
  have f4 : w2.cell? ⟨w.heap.size + 1, 4, none⟩ = some (.slice BA bn bc) := HS.out.f.cell 4
  have m0 : w2.cell? ⟨w.heap.size + 2, 0, none⟩ = some (.slice GA gn gc) := HS.out.m.cell 0
  have m1 : w2.cell? ⟨w.heap.size + 2, 1, none⟩ = some (.slice FA fs.length fc) := HS.out.m.cell 1
  by_cases hlen : 50 < l.length
  · have g : decide ((50 : Int) < (l.length : Int)) = true := by simp; omega
    clear hlen
    go_wp2_with fail
    go_ret
    exact ⟨rfl, HS.out.b⟩
  have g : decide ((50 : Int) < (l.length : Int)) = false := by simp; omega
  have HLN : Hid (l.length ≤ 50) := hide (by omega)
  obtain ⟨R0, hR0⟩ : ∃ x, checkA op ty dst imm sym el nw l rl gn fs = x := ⟨_, rfl⟩
  have HCK := hide (fun (W : World) (hb : Below w.heap.size w W) (op' dst' : Int) (A' : Option Addr) (c' : Nat) (l' : List Int) (hl' : l'.length ≤ 50) (hrd : Rd W .i64 (.slice A' l'.length c') l') => check_any op' ty dst' imm sym el A' RA GA FA c' rc gn gc fc fs l' rl (by omega) nw (.string nm) (.slice PA pn pc) (.slice BA bn bc) res W (HIN.out.1.below hb) (HIN.out.2.1.below hb) hrd (HIN.out.2.2.2.1.below' hb) (HIN.out.2.2.2.2.below hb))
  clear hlen
  go_wp2_with fail
  refine (HCK.out _ HS.out.b op dst A c l HLN.out (HIN.out.2.2.1.below' HS.out.b)).mono ?_
  rintro en w3 ⟨rfl, hb⟩
  rw [hR0]
  replace HS := hide (HS.out.next hb)
  clear i0 i1 i2 i3 i4 i5 i6 i7 f0 f1 f2 f3 f4 m0 m1
  clear hb
  by_cases hz : R0 = 0
  · subst hz
    have HA := hide (acc_of hR0)
    clear hR0
    have i0 : w3.cell? ⟨w.heap.size, 0, none⟩ = some (.int .i64 op) := HS.out.i.cell 0
    have i1 : w3.cell? ⟨w.heap.size, 1, none⟩ = some (.int .i64 ty) := HS.out.i.cell 1
    have i2 : w3.cell? ⟨w.heap.size, 2, none⟩ = some (.int .i64 dst) := HS.out.i.cell 2
    have i3 : w3.cell? ⟨w.heap.size, 3, none⟩ = some (.slice A l.length c) := HS.out.i.cell 3
    have i4 : w3.cell? ⟨w.heap.size, 4, none⟩ = some (.int .i64 imm) := HS.out.i.cell 4
    have i5 : w3.cell? ⟨w.heap.size, 5, none⟩ = some (.int .i64 sym) := HS.out.i.cell 5
    have i6 : w3.cell? ⟨w.heap.size, 6, none⟩ = some (.int .i64 el) := HS.out.i.cell 6
    have i7 : w3.cell? ⟨w.heap.size, 7, none⟩ = some (.bool nw) := HS.out.i.cell 7
    have f0 : w3.cell? ⟨w.heap.size + 1, 0, none⟩ = some (.string nm) := HS.out.f.cell 0
    have f1 : w3.cell? ⟨w.heap.size + 1, 1, none⟩ = some (.slice PA pn pc) := HS.out.f.cell 1
    have f2 : w3.cell? ⟨w.heap.size + 1, 2, none⟩ = some (.int .i64 res) := HS.out.f.cell 2
    have f3 : w3.cell? ⟨w.heap.size + 1, 3, none⟩ = some (.slice RA rl.length rc) := HS.out.f.cell 3
    have f4 : w3.cell? ⟨w.heap.size + 1, 4, none⟩ = some (.slice BA bn bc) := HS.out.f.cell 4
    have m0 : w3.cell? ⟨w.heap.size + 2, 0, none⟩ = some (.slice GA gn gc) := HS.out.m.cell 0
    have m1 : w3.cell? ⟨w.heap.size + 2, 1, none⟩ = some (.slice FA fs.length fc) := HS.out.m.cell 1
    obtain ⟨xa, hxa⟩ : ∃ x, w3.heap.size = x := ⟨_, rfl⟩
    have hx0 : w.heap.size + 2 < xa := by rw [← hxa]; exact HS.out.m.lt
    go_upto_region 6 with fail
    obtain ⟨w4, hw4⟩ : ∃ z, w3.alloc (.cells #[.int .i64 op, .int .i64 ty, .int .i64 dst, .slice A l.length c, .int .i64 imm, .int .i64 sym, .int .i64 el, .bool nw] 38) = z := ⟨_, rfl⟩
    rw [hw4]
    replace HS : Hid (BoxS w w4 #[.int .i64 op, .int .i64 ty, .int .i64 dst, .slice A l.length c, .int .i64 imm, .int .i64 sym, .int .i64 el, .bool nw] #[.string nm, .slice PA pn pc, .int .i64 res, .slice RA rl.length rc, .slice BA bn bc] #[.slice GA gn gc, .slice FA fs.length fc]) := hide (by rw [← hw4]; exact HS.out.alloc _)
    have HX : Hid (Whole w4 xa 38 #[.int .i64 op, .int .i64 ty, .int .i64 dst, .slice A l.length c, .int .i64 imm, .int .i64 sym, .int .i64 el, .bool nw]) := hide (by rw [← hw4, ← hxa]; exact Whole.new w3 _ _)
    clear i0 i1 i2 i3 i4 i5 i6 i7 f0 f1 f2 f3 f4 m0 m1
    clear hw4 hxa
    have f3 : w4.cell? ⟨w.heap.size + 1, 3, none⟩ = some (.slice RA rl.length rc) := HS.out.f.cell 3
    have x2 : w4.cell? ⟨xa, 2, none⟩ = some (.int .i64 dst) := HX.out.cell 2
    have z2 : w4.frozen? ⟨xa, 2, none⟩ = false := HX.out.free 2
    go_upto_region 7 with fail
    obtain ⟨w5, hw5⟩ : ∃ z, w4.setCell ⟨xa, 2, none⟩ (.int .i64 (rl.length : Int)) = z := ⟨_, rfl⟩
    rw [hw5]
    replace HS : Hid (BoxS w w5 #[.int .i64 op, .int .i64 ty, .int .i64 dst, .slice A l.length c, .int .i64 imm, .int .i64 sym, .int .i64 el, .bool nw] #[.string nm, .slice PA pn pc, .int .i64 res, .slice RA rl.length rc, .slice BA bn bc] #[.slice GA gn gc, .slice FA fs.length fc]) := hide (by rw [← hw5]; exact HS.out.far hx0 _)
    replace HX : Hid (Whole w5 xa 38 #[.int .i64 op, .int .i64 ty, .int .i64 (rl.length : Int), .slice A l.length c, .int .i64 imm, .int .i64 sym, .int .i64 el, .bool nw]) := hide (by rw [← hw5]; exact HX.out.set 2 _)
    clear hw5 f3 x2 z2
    obtain ⟨ya, hya⟩ : ∃ x, w5.heap.size = x := ⟨_, rfl⟩
    have hy0 : xa < ya := by rw [← hya]; exact HX.out.lt
    have i0 : w5.cell? ⟨w.heap.size, 0, none⟩ = some (.int .i64 op) := HS.out.i.cell 0
    have i1 : w5.cell? ⟨w.heap.size, 1, none⟩ = some (.int .i64 ty) := HS.out.i.cell 1
    have i2 : w5.cell? ⟨w.heap.size, 2, none⟩ = some (.int .i64 dst) := HS.out.i.cell 2
    have i3 : w5.cell? ⟨w.heap.size, 3, none⟩ = some (.slice A l.length c) := HS.out.i.cell 3
    have i4 : w5.cell? ⟨w.heap.size, 4, none⟩ = some (.int .i64 imm) := HS.out.i.cell 4
    have i5 : w5.cell? ⟨w.heap.size, 5, none⟩ = some (.int .i64 sym) := HS.out.i.cell 5
    have i6 : w5.cell? ⟨w.heap.size, 6, none⟩ = some (.int .i64 el) := HS.out.i.cell 6
    have i7 : w5.cell? ⟨w.heap.size, 7, none⟩ = some (.bool nw) := HS.out.i.cell 7
    have f0 : w5.cell? ⟨w.heap.size + 1, 0, none⟩ = some (.string nm) := HS.out.f.cell 0
    have f1 : w5.cell? ⟨w.heap.size + 1, 1, none⟩ = some (.slice PA pn pc) := HS.out.f.cell 1
    have f2 : w5.cell? ⟨w.heap.size + 1, 2, none⟩ = some (.int .i64 res) := HS.out.f.cell 2
    have f3 : w5.cell? ⟨w.heap.size + 1, 3, none⟩ = some (.slice RA rl.length rc) := HS.out.f.cell 3
    have f4 : w5.cell? ⟨w.heap.size + 1, 4, none⟩ = some (.slice BA bn bc) := HS.out.f.cell 4
    have m0 : w5.cell? ⟨w.heap.size + 2, 0, none⟩ = some (.slice GA gn gc) := HS.out.m.cell 0
    have m1 : w5.cell? ⟨w.heap.size + 2, 1, none⟩ = some (.slice FA fs.length fc) := HS.out.m.cell 1
    go_upto_region 8 with fail
    obtain ⟨w6, hw6⟩ : ∃ z, w5.alloc (.cells #[.int .i64 op, .int .i64 ty, .int .i64 dst, .slice A l.length c, .int .i64 imm, .int .i64 sym, .int .i64 el, .bool nw] 38) = z := ⟨_, rfl⟩
    rw [hw6]
    replace HS : Hid (BoxS w w6 #[.int .i64 op, .int .i64 ty, .int .i64 dst, .slice A l.length c, .int .i64 imm, .int .i64 sym, .int .i64 el, .bool nw] #[.string nm, .slice PA pn pc, .int .i64 res, .slice RA rl.length rc, .slice BA bn bc] #[.slice GA gn gc, .slice FA fs.length fc]) := hide (by rw [← hw6]; exact HS.out.alloc _)
    have HY : Hid (Whole w6 ya 38 #[.int .i64 op, .int .i64 ty, .int .i64 dst, .slice A l.length c, .int .i64 imm, .int .i64 sym, .int .i64 el, .bool nw]) := hide (by rw [← hw6, ← hya]; exact Whole.new w5 _ _)
    replace HX := hide (HX.out.alloc (.cells #[.int .i64 op, .int .i64 ty, .int .i64 dst, .slice A l.length c, .int .i64 imm, .int .i64 sym, .int .i64 el, .bool nw] 38))
    rw [hw6] at HX
    clear i0 i1 i2 i3 i4 i5 i6 i7 f0 f1 f2 f3 f4 m0 m1
    clear hw6 hya
    have hsz : ya < w6.heap.size := HY.out.lt
    obtain ⟨ea, hea⟩ : ∃ x, w6.heap.size = x := ⟨_, rfl⟩
    obtain ⟨w7, hw7⟩ : ∃ z, w6.alloc (.cells #[] 3) = z := ⟨_, rfl⟩
    have HE : Hid (Own w7 ea 3 .i64 (.slice (some ⟨ea, 0, none⟩) 0 0) []) := hide (by rw [← hw7, ← hea]; exact own_empty w6 _ _ _ (Nat.le_refl _))
    replace HS : Hid (BoxS w w7 #[.int .i64 op, .int .i64 ty, .int .i64 dst, .slice A l.length c, .int .i64 imm, .int .i64 sym, .int .i64 el, .bool nw] #[.string nm, .slice PA pn pc, .int .i64 res, .slice RA rl.length rc, .slice BA bn bc] #[.slice GA gn gc, .slice FA fs.length fc]) := hide (by rw [← hw7]; exact HS.out.alloc _)
    replace HX := hide (HX.out.alloc (.cells #[] 3))
    replace HY := hide (HY.out.alloc (.cells #[] 3))
    rw [hw7] at HX HY
    have hw7s : ea < w7.heap.size := by rw [← hw7, World.size_alloc, hea]; omega
    rw [hea] at hsz
    have i3 : w7.cell? ⟨w.heap.size, 3, none⟩ = some (.slice A l.length c) := HS.out.i.cell 3
    have HLI := hide (HIN.out.2.2.1.below' HS.out.b)
    go_wp2_with (first | (refine wpList_append_rd _ rfl _ _ 36 rfl ea 3 .i64 8 intE _ [] rfl HE.out _ l rfl HLI.out ?b1 ?b2 ?b3 ?_))
    case b1 => have := HLN.out; simp only [List.length_nil]; omega
    case b2 => have := HLN.out; unfold maxLen; simp only [List.length_nil]; omega
    case b3 => omega
    intro v' w8 ho _ hb8 _
    clear hw7 hea i3
    obtain ⟨A8, c8, hv8, -, -, -⟩ := ho.rd
    subst hv8
    replace HS := hide (HS.out.low hb8 (by omega))
    replace HX := hide (HX.out.below hb8 (by omega))
    replace HY := hide (HY.out.below hb8 hsz)
    have HOW := hide ho
    clear ho hb8 HE HLI
    have y3 : w8.cell? ⟨ya, 3, none⟩ = some (.slice A l.length c) := HY.out.cell 3
    have z3 : w8.frozen? ⟨ya, 3, none⟩ = false := HY.out.free 3
    go_upto_region 9 with fail
    obtain ⟨w9, hw9⟩ : ∃ z, w8.setCell ⟨ya, 3, none⟩ (.slice A8 l.length c8) = z := ⟨_, rfl⟩
    rw [hw9]
    replace HS : Hid (BoxS w w9 #[.int .i64 op, .int .i64 ty, .int .i64 dst, .slice A l.length c, .int .i64 imm, .int .i64 sym, .int .i64 el, .bool nw] #[.string nm, .slice PA pn pc, .int .i64 res, .slice RA rl.length rc, .slice BA bn bc] #[.slice GA gn gc, .slice FA fs.length fc]) := hide (by rw [← hw9]; exact HS.out.far (by show _ < ya; omega) _)
    replace HX := hide (HX.out.far (p := ⟨ya, 3, none⟩) (by show xa ≠ ya; omega) (.slice A8 l.length c8))
    rw [hw9] at HX
    replace HY : Hid (Whole w9 ya 38 #[.int .i64 op, .int .i64 ty, .int .i64 dst, .slice A8 l.length c8, .int .i64 imm, .int .i64 sym, .int .i64 el, .bool nw]) := hide (by rw [← hw9]; exact HY.out.set 3 _)
    clear y3 z3
    by_cases hl0 : l = []
    · subst hl0
      clear hw9 HOW
      have y3 : w9.cell? ⟨ya, 3, none⟩ = some (.slice A8 0 c8) := HY.out.cell 3
      go_upto_region 15 with fail
      clear y3 HY
      have h33 : 1 ≤ op ∧ op ≤ 33 := by simpa [isOp] using HA.out.isop
      obtain ⟨wa, hwa⟩ : ∃ x, w9.heap.size = x := ⟨_, rfl⟩
      have hwa0 : xa < wa := by rw [← hwa]; exact HX.out.lt
      have i0 : w9.cell? ⟨w.heap.size, 0, none⟩ = some (.int .i64 op) := HS.out.i.cell 0
      have i1 : w9.cell? ⟨w.heap.size, 1, none⟩ = some (.int .i64 ty) := HS.out.i.cell 1
      have i2 : w9.cell? ⟨w.heap.size, 2, none⟩ = some (.int .i64 dst) := HS.out.i.cell 2
      have i3 : w9.cell? ⟨w.heap.size, 3, none⟩ = some (.slice A 0 c) := HS.out.i.cell 3
      have i4 : w9.cell? ⟨w.heap.size, 4, none⟩ = some (.int .i64 imm) := HS.out.i.cell 4
      have i5 : w9.cell? ⟨w.heap.size, 5, none⟩ = some (.int .i64 sym) := HS.out.i.cell 5
      have i6 : w9.cell? ⟨w.heap.size, 6, none⟩ = some (.int .i64 el) := HS.out.i.cell 6
      have i7 : w9.cell? ⟨w.heap.size, 7, none⟩ = some (.bool nw) := HS.out.i.cell 7
      go_upto_region 16 with fail
      obtain ⟨t1, ht1⟩ : ∃ z, w9.alloc (.cells #[.int .i64 op, .int .i64 ty, .int .i64 dst, .slice A 0 c, .int .i64 imm, .int .i64 sym, .int .i64 el, .bool nw] 38) = z := ⟨_, rfl⟩
      rw [ht1]
      replace HS : Hid (BoxS w t1 #[.int .i64 op, .int .i64 ty, .int .i64 dst, .slice A 0 c, .int .i64 imm, .int .i64 sym, .int .i64 el, .bool nw] #[.string nm, .slice PA pn pc, .int .i64 res, .slice RA rl.length rc, .slice BA bn bc] #[.slice GA gn gc, .slice FA fs.length fc]) := hide (by rw [← ht1]; exact HS.out.alloc _)
      have HW : Hid (Whole t1 wa 38 #[.int .i64 op, .int .i64 ty, .int .i64 dst, .slice A 0 c, .int .i64 imm, .int .i64 sym, .int .i64 el, .bool nw]) := hide (by rw [← ht1, ← hwa]; exact Whole.new w9 _ _)
      replace HX := hide (HX.out.alloc (.cells #[.int .i64 op, .int .i64 ty, .int .i64 dst, .slice A 0 c, .int .i64 imm, .int .i64 sym, .int .i64 el, .bool nw] 38))
      rw [ht1] at HX
      clear ht1 hwa i0 i1 i2 i3 i4 i5 i6 i7
      have k0 : t1.cell? ⟨wa, 0, none⟩ = some (.int .i64 op) := HW.out.cell 0
      have z0' : t1.frozen? ⟨wa, 0, none⟩ = false := HW.out.free 0
      go_upto_region 17 with fail
      obtain ⟨t2, ht2⟩ : ∃ z, t1.setCell ⟨wa, 0, none⟩ (.int .i64 (-op)) = z := ⟨_, rfl⟩
      rw [ht2]
      replace HS : Hid (BoxS w t2 #[.int .i64 op, .int .i64 ty, .int .i64 dst, .slice A 0 c, .int .i64 imm, .int .i64 sym, .int .i64 el, .bool nw] #[.string nm, .slice PA pn pc, .int .i64 res, .slice RA rl.length rc, .slice BA bn bc] #[.slice GA gn gc, .slice FA fs.length fc]) := hide (by rw [← ht2]; exact HS.out.far (by show _ < wa; omega) _)
      replace HX := hide (HX.out.far (p := ⟨wa, 0, none⟩) (by show xa ≠ wa; omega) (.int .i64 (-op)))
      rw [ht2] at HX
      replace HW : Hid (Whole t2 wa 38 #[.int .i64 (-op), .int .i64 ty, .int .i64 dst, .slice A 0 c, .int .i64 imm, .int .i64 sym, .int .i64 el, .bool nw]) := hide (by rw [← ht2]; exact HW.out.set 0 _)
      clear ht2 k0 z0'
      have x0 : t2.cell? ⟨xa, 0, none⟩ = some (.int .i64 op) := HX.out.cell 0
      have x1 : t2.cell? ⟨xa, 1, none⟩ = some (.int .i64 ty) := HX.out.cell 1
      have x2 : t2.cell? ⟨xa, 2, none⟩ = some (.int .i64 (rl.length : Int)) := HX.out.cell 2
      have x3 : t2.cell? ⟨xa, 3, none⟩ = some (.slice A 0 c) := HX.out.cell 3
      have x4 : t2.cell? ⟨xa, 4, none⟩ = some (.int .i64 imm) := HX.out.cell 4
      have x5 : t2.cell? ⟨xa, 5, none⟩ = some (.int .i64 sym) := HX.out.cell 5
      have x6 : t2.cell? ⟨xa, 6, none⟩ = some (.int .i64 el) := HX.out.cell 6
      have x7 : t2.cell? ⟨xa, 7, none⟩ = some (.bool nw) := HX.out.cell 7
      have f0 : t2.cell? ⟨w.heap.size + 1, 0, none⟩ = some (.string nm) := HS.out.f.cell 0
      have f1 : t2.cell? ⟨w.heap.size + 1, 1, none⟩ = some (.slice PA pn pc) := HS.out.f.cell 1
      have f2 : t2.cell? ⟨w.heap.size + 1, 2, none⟩ = some (.int .i64 res) := HS.out.f.cell 2
      have f3 : t2.cell? ⟨w.heap.size + 1, 3, none⟩ = some (.slice RA rl.length rc) := HS.out.f.cell 3
      have f4 : t2.cell? ⟨w.heap.size + 1, 4, none⟩ = some (.slice BA bn bc) := HS.out.f.cell 4
      have m0 : t2.cell? ⟨w.heap.size + 2, 0, none⟩ = some (.slice GA gn gc) := HS.out.m.cell 0
      have m1 : t2.cell? ⟨w.heap.size + 2, 1, none⟩ = some (.slice FA fs.length fc) := HS.out.m.cell 1
      have HC1 := hide (HCK.out t2 HS.out.b op rl.length A c [] HLN.out (HIN.out.2.2.1.below' HS.out.b))
      rw [HA.out.reg rl.length (fun l' => by first | (simp [regsM]; done) | (simp [regsM]; omega))] at HC1
      go_wp2_with fail
      refine HC1.out.mono ?_
      rintro en t3 ⟨rfl, hb⟩
      replace HS := hide (HS.out.next hb)
      replace HW := hide (HW.out.below' hb)
      clear hb HX HC1 x0 x1 x2 x3 x4 x5 x6 x7 f0 f1 f2 f3 f4 m0 m1
      have k0 : t3.cell? ⟨wa, 0, none⟩ = some (.int .i64 (-op)) := HW.out.cell 0
      have k1 : t3.cell? ⟨wa, 1, none⟩ = some (.int .i64 ty) := HW.out.cell 1
      have k2 : t3.cell? ⟨wa, 2, none⟩ = some (.int .i64 dst) := HW.out.cell 2
      have k3 : t3.cell? ⟨wa, 3, none⟩ = some (.slice A 0 c) := HW.out.cell 3
      have k4 : t3.cell? ⟨wa, 4, none⟩ = some (.int .i64 imm) := HW.out.cell 4
      have k5 : t3.cell? ⟨wa, 5, none⟩ = some (.int .i64 sym) := HW.out.cell 5
      have k6 : t3.cell? ⟨wa, 6, none⟩ = some (.int .i64 el) := HW.out.cell 6
      have k7 : t3.cell? ⟨wa, 7, none⟩ = some (.bool nw) := HW.out.cell 7
      have f0 : t3.cell? ⟨w.heap.size + 1, 0, none⟩ = some (.string nm) := HS.out.f.cell 0
      have f1 : t3.cell? ⟨w.heap.size + 1, 1, none⟩ = some (.slice PA pn pc) := HS.out.f.cell 1
      have f2 : t3.cell? ⟨w.heap.size + 1, 2, none⟩ = some (.int .i64 res) := HS.out.f.cell 2
      have f3 : t3.cell? ⟨w.heap.size + 1, 3, none⟩ = some (.slice RA rl.length rc) := HS.out.f.cell 3
      have f4 : t3.cell? ⟨w.heap.size + 1, 4, none⟩ = some (.slice BA bn bc) := HS.out.f.cell 4
      have m0 : t3.cell? ⟨w.heap.size + 2, 0, none⟩ = some (.slice GA gn gc) := HS.out.m.cell 0
      have m1 : t3.cell? ⟨w.heap.size + 2, 1, none⟩ = some (.slice FA fs.length fc) := HS.out.m.cell 1
      have HC2 := hide (HCK.out t3 HS.out.b (-op) dst A c [] HLN.out (HIN.out.2.2.1.below' HS.out.b))
      rw [neg_check HA.out.isop] at HC2
      go_wp2_with fail
      refine HC2.out.mono ?_
      rintro en t4 ⟨rfl, hb⟩
      replace HS := hide (HS.out.next hb)
      clear hb HW HC2 k0 k1 k2 k3 k4 k5 k6 k7 f0 f1 f2 f3 f4 m0 m1
      have i0 : t4.cell? ⟨w.heap.size, 0, none⟩ = some (.int .i64 op) := HS.out.i.cell 0
      have i1 : t4.cell? ⟨w.heap.size, 1, none⟩ = some (.int .i64 ty) := HS.out.i.cell 1
      have i2 : t4.cell? ⟨w.heap.size, 2, none⟩ = some (.int .i64 dst) := HS.out.i.cell 2
      by_cases hd : dst = -1
      · have gd : (dst == -1) = true := by simpa using hd
        have g0 : decide ((0 : Int) ≤ dst) = false := by simp; omega
        have HOR : Hid ((ty == 0) = true ∨ (op == 30) = true) := hide (by have := HA.out.hdst; simp [dstM, hd] at this; simpa using this)
        clear hd
        cases gt : (ty == 0) with
        | true =>
          cases g3 : (op == 30) with
          | true =>
            have gnn : (op != 30) = false := by simp [bne, g3]
            go_wp2_with fail
            go_ret
            exact ⟨rfl, HS.out.b⟩
          | false =>
            have gnn : (op != 30) = true := by simp [bne, g3]
            go_wp2_with fail
            go_ret
            exact ⟨rfl, HS.out.b⟩
        | false =>
          have g3 : (op == 30) = true := HOR.out.resolve_left (by rw [gt]; decide)
          have gnn : (op != 30) = false := by simp [bne, g3]
          go_wp2_with fail
          go_ret
          exact ⟨rfl, HS.out.b⟩
      · have gd : (dst == -1) = false := by simpa using hd
        have hreg : 0 ≤ dst ∧ dst < rl.length := by
          have h := HA.out.regs
          simp only [regsM, Bool.and_eq_true, Bool.or_eq_true, decide_eq_true_eq] at h
          exact h.2.resolve_left hd
        obtain ⟨j, rfl⟩ : ∃ j : Nat, dst = j := ⟨dst.toNat, by omega⟩
        have hj : j < rl.length := by omega
        have hdm : ∀ rl' : List Int, dstM op ty (j : Int) rl' = ((ty != 0) && (ty == rl'.getD j 0)) := fun rl' => by unfold dstM; rw [if_neg hd, Int.toNat_natCast]
        have gt : (ty == 0) = false := by
          have h := HA.out.hdst
          rw [hdm, Bool.and_eq_true] at h
          simpa using h.1
        have g0 : decide ((0 : Int) ≤ (j : Int)) = true := by simp
        have HDM := hide hdm
        clear hd hreg hdm
        cases gtt : (t != ty) with
        | false =>
          cases g3 : (op == 30) with
          | true =>
            have gnn : (op != 30) = false := by simp [bne, g3]
            go_wp2_with fail
            go_ret
            exact ⟨rfl, HS.out.b⟩
          | false =>
            have gnn : (op != 30) = true := by simp [bne, g3]
            go_wp2_with fail
            go_ret
            exact ⟨rfl, HS.out.b⟩
        | true =>
          obtain ⟨ga, hga⟩ : ∃ x, t4.heap.size = x := ⟨_, rfl⟩
          have hga0 : w.heap.size + 2 < ga := by rw [← hga]; exact HS.out.m.lt
          have f0 : t4.cell? ⟨w.heap.size + 1, 0, none⟩ = some (.string nm) := HS.out.f.cell 0
          have f1 : t4.cell? ⟨w.heap.size + 1, 1, none⟩ = some (.slice PA pn pc) := HS.out.f.cell 1
          have f2 : t4.cell? ⟨w.heap.size + 1, 2, none⟩ = some (.int .i64 res) := HS.out.f.cell 2
          have f3 : t4.cell? ⟨w.heap.size + 1, 3, none⟩ = some (.slice RA rl.length rc) := HS.out.f.cell 3
          have f4 : t4.cell? ⟨w.heap.size + 1, 4, none⟩ = some (.slice BA bn bc) := HS.out.f.cell 4
          cases g3 : (op == 30) with
          | true =>
            have gnn : (op != 30) = false := by simp [bne, g3]
            go_upto_region 21 with fail
            obtain ⟨t5, ht5⟩ : ∃ z, t4.alloc (.cells #[.string nm, .slice PA pn pc, .int .i64 res, .slice RA rl.length rc, .slice BA bn bc] 60) = z := ⟨_, rfl⟩
            rw [ht5]
            replace HS : Hid (BoxS w t5 #[.int .i64 op, .int .i64 ty, .int .i64 (j : Int), .slice A 0 c, .int .i64 imm, .int .i64 sym, .int .i64 el, .bool nw] #[.string nm, .slice PA pn pc, .int .i64 res, .slice RA rl.length rc, .slice BA bn bc] #[.slice GA gn gc, .slice FA fs.length fc]) := hide (by rw [← ht5]; exact HS.out.alloc _)
            have HG : Hid (Whole t5 ga 60 #[.string nm, .slice PA pn pc, .int .i64 res, .slice RA rl.length rc, .slice BA bn bc]) := hide (by rw [← ht5, ← hga]; exact Whole.new t4 _ _)
            clear ht5 hga f0 f1 f2 f3 f4 i0 i1 i2
            obtain ⟨eb, heb⟩ : ∃ x, t5.heap.size = x := ⟨_, rfl⟩
            have hgb : ga < eb := by rw [← heb]; exact HG.out.lt
            obtain ⟨t6, ht6⟩ : ∃ z, t5.alloc (.cells #[] 22) = z := ⟨_, rfl⟩
            have HE2 : Hid (Own t6 eb 22 .i64 (.slice (some ⟨eb, 0, none⟩) 0 0) []) := hide (by rw [← ht6, ← heb]; exact own_empty t5 _ _ _ (Nat.le_refl _))
            replace HS : Hid (BoxS w t6 #[.int .i64 op, .int .i64 ty, .int .i64 (j : Int), .slice A 0 c, .int .i64 imm, .int .i64 sym, .int .i64 el, .bool nw] #[.string nm, .slice PA pn pc, .int .i64 res, .slice RA rl.length rc, .slice BA bn bc] #[.slice GA gn gc, .slice FA fs.length fc]) := hide (by rw [← ht6]; exact HS.out.alloc _)
            replace HG := hide (HG.out.alloc (.cells #[] 22))
            rw [ht6] at HG
            have ht6s : eb < t6.heap.size := by rw [← ht6, World.size_alloc, heb]; omega
            have f3 : t6.cell? ⟨w.heap.size + 1, 3, none⟩ = some (.slice RA rl.length rc) := HS.out.f.cell 3
            have HRI := hide (HIN.out.2.2.2.1.below' HS.out.b)
            go_wp2_with (first | (refine wpList_append_rd _ rfl _ _ 57 rfl eb 22 .i64 8 typE _ [] rfl HE2.out _ rl rfl HRI.out ?b1 ?b2 ?b3 ?_))
            case b1 => simp only [List.length_nil]; omega
            case b2 => unfold maxLen; simp only [List.length_nil]; omega
            case b3 => omega
            intro v7 t7 ho7 _ hb7 _
            clear ht6 heb f3
            obtain ⟨gr, cap, cur, hv7, hgr, hwr, hra⟩ := own_row ho7 (by show 0 < rl.length; omega)
            subst hv7
            replace HS := hide (HS.out.low hb7 (by omega))
            replace HG := hide (HG.out.below hb7 hgb)
            have HRW := hide (And.intro hwr hra)
            clear ho7 hb7 HE2 HRI hwr hra
            have y3 : t7.cell? ⟨ga, 3, none⟩ = some (.slice RA rl.length rc) := HG.out.cell 3
            have z3 : t7.frozen? ⟨ga, 3, none⟩ = false := HG.out.free 3
            go_upto_region 22 with fail
            obtain ⟨t8, ht8⟩ : ∃ z, t7.setCell ⟨ga, 3, none⟩ (.slice (some ⟨gr, 0, none⟩) rl.length cap) = z := ⟨_, rfl⟩
            rw [ht8]
            replace HS : Hid (BoxS w t8 #[.int .i64 op, .int .i64 ty, .int .i64 (j : Int), .slice A 0 c, .int .i64 imm, .int .i64 sym, .int .i64 el, .bool nw] #[.string nm, .slice PA pn pc, .int .i64 res, .slice RA rl.length rc, .slice BA bn bc] #[.slice GA gn gc, .slice FA fs.length fc]) := hide (by rw [← ht8]; exact HS.out.far hga0 _)
            replace HG : Hid (Whole t8 ga 60 #[.string nm, .slice PA pn pc, .int .i64 res, .slice (some ⟨gr, 0, none⟩) rl.length cap, .slice BA bn bc]) := hide (by rw [← ht8]; exact HG.out.set 3 _)
            replace HRW : Hid (Whole t8 gr 22 cur ∧ RowAt cur rl cap) := hide (by rw [← ht8]; exact ⟨HRW.out.1.far (by show gr ≠ ga; omega) _, HRW.out.2⟩)
            clear ht8 y3 z3
            have y3 : t8.cell? ⟨ga, 3, none⟩ = some (.slice (some ⟨gr, 0, none⟩) rl.length cap) := HG.out.cell 3
            have i2 : t8.cell? ⟨w.heap.size, 2, none⟩ = some (.int .i64 (j : Int)) := HS.out.i.cell 2
            have hjl : (j : Int) < (rl.length : Int) := by omega
            have rj : (t8.cell? ⟨gr, j, none⟩) = some (.int .i64 (rl.getD j 0)) := by
              obtain ⟨z, hz⟩ : ∃ z, rl[j]? = some z := ⟨_, List.getElem?_eq_getElem hj⟩
              obtain ⟨bq, oq, e, hc⟩ := (row_rd HRW.out.1 HRW.out.2).at (by omega)
              simp only [Option.some.injEq, Addr.mk.injEq, and_true] at e
              obtain ⟨rfl, rfl⟩ := e
              have := hc j z hz
              rw [Nat.zero_add] at this
              rw [this, List.getD_eq_getElem?_getD, hz]; rfl
            have zj : t8.frozen? ⟨gr, j, none⟩ = false := HRW.out.1.free j
            go_upto_region 23 with fail
            obtain ⟨t9, ht9⟩ : ∃ z, t8.setCell ⟨gr, j, none⟩ (.int .i64 t) = z := ⟨_, rfl⟩
            rw [ht9]
            replace HS : Hid (BoxS w t9 #[.int .i64 op, .int .i64 ty, .int .i64 (j : Int), .slice A 0 c, .int .i64 imm, .int .i64 sym, .int .i64 el, .bool nw] #[.string nm, .slice PA pn pc, .int .i64 res, .slice RA rl.length rc, .slice BA bn bc] #[.slice GA gn gc, .slice FA fs.length fc]) := hide (by rw [← ht9]; exact HS.out.far (by show _ < gr; omega) _)
            replace HG : Hid (Whole t9 ga 60 #[.string nm, .slice PA pn pc, .int .i64 res, .slice (some ⟨gr, 0, none⟩) rl.length cap, .slice BA bn bc]) := hide (by rw [← ht9]; exact HG.out.far (by show ga ≠ gr; omega) _)
            have HR9 : Hid (Rd t9 .i64 (.slice (some ⟨gr, 0, none⟩) (rl.set j t).length cap) (rl.set j t)) := hide (by rw [← ht9]; exact row_rd (HRW.out.1.set j _) (row_set HRW.out.2 j t))
            clear ht9 y3 i2 hjl rj zj HRW
            have i0 : t9.cell? ⟨w.heap.size, 0, none⟩ = some (.int .i64 op) := HS.out.i.cell 0
            have i1 : t9.cell? ⟨w.heap.size, 1, none⟩ = some (.int .i64 ty) := HS.out.i.cell 1
            have i2 : t9.cell? ⟨w.heap.size, 2, none⟩ = some (.int .i64 (j : Int)) := HS.out.i.cell 2
            have i3 : t9.cell? ⟨w.heap.size, 3, none⟩ = some (.slice A 0 c) := HS.out.i.cell 3
            have i4 : t9.cell? ⟨w.heap.size, 4, none⟩ = some (.int .i64 imm) := HS.out.i.cell 4
            have i5 : t9.cell? ⟨w.heap.size, 5, none⟩ = some (.int .i64 sym) := HS.out.i.cell 5
            have i6 : t9.cell? ⟨w.heap.size, 6, none⟩ = some (.int .i64 el) := HS.out.i.cell 6
            have i7 : t9.cell? ⟨w.heap.size, 7, none⟩ = some (.bool nw) := HS.out.i.cell 7
            have k0 : t9.cell? ⟨ga, 0, none⟩ = some (.string nm) := HG.out.cell 0
            have k1 : t9.cell? ⟨ga, 1, none⟩ = some (.slice PA pn pc) := HG.out.cell 1
            have k2 : t9.cell? ⟨ga, 2, none⟩ = some (.int .i64 res) := HG.out.cell 2
            have k3 : t9.cell? ⟨ga, 3, none⟩ = some (.slice (some ⟨gr, 0, none⟩) rl.length cap) := HG.out.cell 3
            have k4 : t9.cell? ⟨ga, 4, none⟩ = some (.slice BA bn bc) := HG.out.cell 4
            have m0 : t9.cell? ⟨w.heap.size + 2, 0, none⟩ = some (.slice GA gn gc) := HS.out.m.cell 0
            have m1 : t9.cell? ⟨w.heap.size + 2, 1, none⟩ = some (.slice FA fs.length fc) := HS.out.m.cell 1
            have HC3 := hide (check_any op ty j imm sym el A (some ⟨gr, 0, none⟩) GA FA c cap gn gc fc fs [] (rl.set j t) (Nat.le_trans HLN.out (by decide)) nw (.string nm) (.slice PA pn pc) (.slice BA bn bc) res t9 (HIN.out.1.below HS.out.b) (HIN.out.2.1.below HS.out.b) (HIN.out.2.2.1.below' HS.out.b) HR9.out (HIN.out.2.2.2.2.below HS.out.b))
            have hne3 := HA.out.types (rl.set j t) (by
              rw [HDM.out, List.getD_eq_getElem?_getD, List.getElem?_set_self hj]
              have : (ty == t) = false := by
                have h := gtt
                simp only [bne, Bool.not_eq_true'] at h
                rw [beq_eq_false_iff_ne] at h ⊢
                exact fun e => h e.symm
              simp [this])
            obtain ⟨R3, hR3⟩ : ∃ x, checkA op ty j imm sym el nw [] (rl.set j t) gn fs = x := ⟨_, rfl⟩
            rw [hR3] at HC3 hne3
            rw [List.length_set] at HC3
            have gR : (R3 != 0) = true := by simpa using hne3
            clear hR3 hne3 HR9
            go_wp2_with fail
            refine HC3.out.mono ?_
            rintro en t10 ⟨rfl, hb⟩
            replace HS := hide (HS.out.next hb)
            clear hb
            have i2 : t10.cell? ⟨w.heap.size, 2, none⟩ = some (.int .i64 (j : Int)) := HS.out.i.cell 2
            have k3 : t10.cell? ⟨w.heap.size + 1, 3, none⟩ = some (.slice RA rl.length rc) := HS.out.f.cell 3
            go_wp2_with fail
            go_ret
            exact ⟨rfl, HS.out.b⟩
          | false =>
            have gnn : (op != 30) = true := by simp [bne, g3]
            go_upto_region 21 with fail
            obtain ⟨t5, ht5⟩ : ∃ z, t4.alloc (.cells #[.string nm, .slice PA pn pc, .int .i64 res, .slice RA rl.length rc, .slice BA bn bc] 60) = z := ⟨_, rfl⟩
            rw [ht5]
            replace HS : Hid (BoxS w t5 #[.int .i64 op, .int .i64 ty, .int .i64 (j : Int), .slice A 0 c, .int .i64 imm, .int .i64 sym, .int .i64 el, .bool nw] #[.string nm, .slice PA pn pc, .int .i64 res, .slice RA rl.length rc, .slice BA bn bc] #[.slice GA gn gc, .slice FA fs.length fc]) := hide (by rw [← ht5]; exact HS.out.alloc _)
            have HG : Hid (Whole t5 ga 60 #[.string nm, .slice PA pn pc, .int .i64 res, .slice RA rl.length rc, .slice BA bn bc]) := hide (by rw [← ht5, ← hga]; exact Whole.new t4 _ _)
            clear ht5 hga f0 f1 f2 f3 f4 i0 i1 i2
            obtain ⟨eb, heb⟩ : ∃ x, t5.heap.size = x := ⟨_, rfl⟩
            have hgb : ga < eb := by rw [← heb]; exact HG.out.lt
            obtain ⟨t6, ht6⟩ : ∃ z, t5.alloc (.cells #[] 22) = z := ⟨_, rfl⟩
            have HE2 : Hid (Own t6 eb 22 .i64 (.slice (some ⟨eb, 0, none⟩) 0 0) []) := hide (by rw [← ht6, ← heb]; exact own_empty t5 _ _ _ (Nat.le_refl _))
            replace HS : Hid (BoxS w t6 #[.int .i64 op, .int .i64 ty, .int .i64 (j : Int), .slice A 0 c, .int .i64 imm, .int .i64 sym, .int .i64 el, .bool nw] #[.string nm, .slice PA pn pc, .int .i64 res, .slice RA rl.length rc, .slice BA bn bc] #[.slice GA gn gc, .slice FA fs.length fc]) := hide (by rw [← ht6]; exact HS.out.alloc _)
            replace HG := hide (HG.out.alloc (.cells #[] 22))
            rw [ht6] at HG
            have ht6s : eb < t6.heap.size := by rw [← ht6, World.size_alloc, heb]; omega
            have f3 : t6.cell? ⟨w.heap.size + 1, 3, none⟩ = some (.slice RA rl.length rc) := HS.out.f.cell 3
            have HRI := hide (HIN.out.2.2.2.1.below' HS.out.b)
            go_wp2_with (first | (refine wpList_append_rd _ rfl _ _ 57 rfl eb 22 .i64 8 typE _ [] rfl HE2.out _ rl rfl HRI.out ?b1 ?b2 ?b3 ?_))
            case b1 => simp only [List.length_nil]; omega
            case b2 => unfold maxLen; simp only [List.length_nil]; omega
            case b3 => omega
            intro v7 t7 ho7 _ hb7 _
            clear ht6 heb f3
            obtain ⟨gr, cap, cur, hv7, hgr, hwr, hra⟩ := own_row ho7 (by show 0 < rl.length; omega)
            subst hv7
            replace HS := hide (HS.out.low hb7 (by omega))
            replace HG := hide (HG.out.below hb7 hgb)
            have HRW := hide (And.intro hwr hra)
            clear ho7 hb7 HE2 HRI hwr hra
            have y3 : t7.cell? ⟨ga, 3, none⟩ = some (.slice RA rl.length rc) := HG.out.cell 3
            have z3 : t7.frozen? ⟨ga, 3, none⟩ = false := HG.out.free 3
            go_upto_region 22 with fail
            obtain ⟨t8, ht8⟩ : ∃ z, t7.setCell ⟨ga, 3, none⟩ (.slice (some ⟨gr, 0, none⟩) rl.length cap) = z := ⟨_, rfl⟩
            rw [ht8]
            replace HS : Hid (BoxS w t8 #[.int .i64 op, .int .i64 ty, .int .i64 (j : Int), .slice A 0 c, .int .i64 imm, .int .i64 sym, .int .i64 el, .bool nw] #[.string nm, .slice PA pn pc, .int .i64 res, .slice RA rl.length rc, .slice BA bn bc] #[.slice GA gn gc, .slice FA fs.length fc]) := hide (by rw [← ht8]; exact HS.out.far hga0 _)
            replace HG : Hid (Whole t8 ga 60 #[.string nm, .slice PA pn pc, .int .i64 res, .slice (some ⟨gr, 0, none⟩) rl.length cap, .slice BA bn bc]) := hide (by rw [← ht8]; exact HG.out.set 3 _)
            replace HRW : Hid (Whole t8 gr 22 cur ∧ RowAt cur rl cap) := hide (by rw [← ht8]; exact ⟨HRW.out.1.far (by show gr ≠ ga; omega) _, HRW.out.2⟩)
            clear ht8 y3 z3
            have y3 : t8.cell? ⟨ga, 3, none⟩ = some (.slice (some ⟨gr, 0, none⟩) rl.length cap) := HG.out.cell 3
            have i2 : t8.cell? ⟨w.heap.size, 2, none⟩ = some (.int .i64 (j : Int)) := HS.out.i.cell 2
            have hjl : (j : Int) < (rl.length : Int) := by omega
            have rj : (t8.cell? ⟨gr, j, none⟩) = some (.int .i64 (rl.getD j 0)) := by
              obtain ⟨z, hz⟩ : ∃ z, rl[j]? = some z := ⟨_, List.getElem?_eq_getElem hj⟩
              obtain ⟨bq, oq, e, hc⟩ := (row_rd HRW.out.1 HRW.out.2).at (by omega)
              simp only [Option.some.injEq, Addr.mk.injEq, and_true] at e
              obtain ⟨rfl, rfl⟩ := e
              have := hc j z hz
              rw [Nat.zero_add] at this
              rw [this, List.getD_eq_getElem?_getD, hz]; rfl
            have zj : t8.frozen? ⟨gr, j, none⟩ = false := HRW.out.1.free j
            go_upto_region 23 with fail
            obtain ⟨t9, ht9⟩ : ∃ z, t8.setCell ⟨gr, j, none⟩ (.int .i64 t) = z := ⟨_, rfl⟩
            rw [ht9]
            replace HS : Hid (BoxS w t9 #[.int .i64 op, .int .i64 ty, .int .i64 (j : Int), .slice A 0 c, .int .i64 imm, .int .i64 sym, .int .i64 el, .bool nw] #[.string nm, .slice PA pn pc, .int .i64 res, .slice RA rl.length rc, .slice BA bn bc] #[.slice GA gn gc, .slice FA fs.length fc]) := hide (by rw [← ht9]; exact HS.out.far (by show _ < gr; omega) _)
            replace HG : Hid (Whole t9 ga 60 #[.string nm, .slice PA pn pc, .int .i64 res, .slice (some ⟨gr, 0, none⟩) rl.length cap, .slice BA bn bc]) := hide (by rw [← ht9]; exact HG.out.far (by show ga ≠ gr; omega) _)
            have HR9 : Hid (Rd t9 .i64 (.slice (some ⟨gr, 0, none⟩) (rl.set j t).length cap) (rl.set j t)) := hide (by rw [← ht9]; exact row_rd (HRW.out.1.set j _) (row_set HRW.out.2 j t))
            clear ht9 y3 i2 hjl rj zj HRW
            have i0 : t9.cell? ⟨w.heap.size, 0, none⟩ = some (.int .i64 op) := HS.out.i.cell 0
            have i1 : t9.cell? ⟨w.heap.size, 1, none⟩ = some (.int .i64 ty) := HS.out.i.cell 1
            have i2 : t9.cell? ⟨w.heap.size, 2, none⟩ = some (.int .i64 (j : Int)) := HS.out.i.cell 2
            have i3 : t9.cell? ⟨w.heap.size, 3, none⟩ = some (.slice A 0 c) := HS.out.i.cell 3
            have i4 : t9.cell? ⟨w.heap.size, 4, none⟩ = some (.int .i64 imm) := HS.out.i.cell 4
            have i5 : t9.cell? ⟨w.heap.size, 5, none⟩ = some (.int .i64 sym) := HS.out.i.cell 5
            have i6 : t9.cell? ⟨w.heap.size, 6, none⟩ = some (.int .i64 el) := HS.out.i.cell 6
            have i7 : t9.cell? ⟨w.heap.size, 7, none⟩ = some (.bool nw) := HS.out.i.cell 7
            have k0 : t9.cell? ⟨ga, 0, none⟩ = some (.string nm) := HG.out.cell 0
            have k1 : t9.cell? ⟨ga, 1, none⟩ = some (.slice PA pn pc) := HG.out.cell 1
            have k2 : t9.cell? ⟨ga, 2, none⟩ = some (.int .i64 res) := HG.out.cell 2
            have k3 : t9.cell? ⟨ga, 3, none⟩ = some (.slice (some ⟨gr, 0, none⟩) rl.length cap) := HG.out.cell 3
            have k4 : t9.cell? ⟨ga, 4, none⟩ = some (.slice BA bn bc) := HG.out.cell 4
            have m0 : t9.cell? ⟨w.heap.size + 2, 0, none⟩ = some (.slice GA gn gc) := HS.out.m.cell 0
            have m1 : t9.cell? ⟨w.heap.size + 2, 1, none⟩ = some (.slice FA fs.length fc) := HS.out.m.cell 1
            have HC3 := hide (check_any op ty j imm sym el A (some ⟨gr, 0, none⟩) GA FA c cap gn gc fc fs [] (rl.set j t) (Nat.le_trans HLN.out (by decide)) nw (.string nm) (.slice PA pn pc) (.slice BA bn bc) res t9 (HIN.out.1.below HS.out.b) (HIN.out.2.1.below HS.out.b) (HIN.out.2.2.1.below' HS.out.b) HR9.out (HIN.out.2.2.2.2.below HS.out.b))
            have hne3 := HA.out.types (rl.set j t) (by
              rw [HDM.out, List.getD_eq_getElem?_getD, List.getElem?_set_self hj]
              have : (ty == t) = false := by
                have h := gtt
                simp only [bne, Bool.not_eq_true'] at h
                rw [beq_eq_false_iff_ne] at h ⊢
                exact fun e => h e.symm
              simp [this])
            obtain ⟨R3, hR3⟩ : ∃ x, checkA op ty j imm sym el nw [] (rl.set j t) gn fs = x := ⟨_, rfl⟩
            rw [hR3] at HC3 hne3
            rw [List.length_set] at HC3
            have gR : (R3 != 0) = true := by simpa using hne3
            clear hR3 hne3 HR9
            go_wp2_with fail
            refine HC3.out.mono ?_
            rintro en t10 ⟨rfl, hb⟩
            replace HS := hide (HS.out.next hb)
            clear hb
            have i2 : t10.cell? ⟨w.heap.size, 2, none⟩ = some (.int .i64 (j : Int)) := HS.out.i.cell 2
            have k3 : t10.cell? ⟨w.heap.size + 1, 3, none⟩ = some (.slice RA rl.length rc) := HS.out.f.cell 3
            go_wp2_with fail
            go_ret
            exact ⟨rfl, HS.out.b⟩
    have hpos : 0 < l.length := List.length_pos_iff.2 hl0
    obtain ⟨b, off, rfl, -⟩ := HIN.out.2.2.1.at hpos
    obtain ⟨ra, cap0, cur, hv, hge, hw, hra⟩ := own_row HOW.out hpos
    simp only [Value.slice.injEq, true_and] at hv
    obtain ⟨rfl, rfl⟩ := hv
    have HRY : Hid (Whole w9 ra 3 cur ∧ RowAt cur l c8) := hide ⟨by rw [← hw9]; exact hw.far (by show ra ≠ ya; omega) _, hra⟩
    clear hw9 HOW hw hra hl0
    have y3 : w9.cell? ⟨ya, 3, none⟩ = some (.slice (some ⟨ra, 0, none⟩) l.length c8) := HY.out.cell 3
    have hpB : decide ((0 : Int) < (l.length : Int)) = true := by simp; omega
    have hra0 : ∃ z0, w9.cell? ⟨ra, 0, none⟩ = some (.int .i64 z0) := by
      obtain ⟨z, hz⟩ : ∃ z, l[0]? = some z := ⟨_, List.getElem?_eq_getElem hpos⟩
      obtain ⟨bq, oq, e, hc⟩ := (row_rd HRY.out.1 HRY.out.2).at hpos
      simp only [Option.some.injEq, Addr.mk.injEq, and_true] at e
      obtain ⟨rfl, rfl⟩ := e
      exact ⟨z, hc 0 z hz⟩
    obtain ⟨z0, hr0⟩ := hra0
    have hrz : w9.frozen? ⟨ra, 0, none⟩ = false := HRY.out.1.free 0
    go_upto_region 11 with fail
    obtain ⟨w10, hw10⟩ : ∃ z, w9.setCell ⟨ra, 0, none⟩ (.int .i64 (-1)) = z := ⟨_, rfl⟩
    rw [hw10]
    replace HS : Hid (BoxS w w10 #[.int .i64 op, .int .i64 ty, .int .i64 dst, .slice (some ⟨b, off, none⟩) l.length c, .int .i64 imm, .int .i64 sym, .int .i64 el, .bool nw] #[.string nm, .slice PA pn pc, .int .i64 res, .slice RA rl.length rc, .slice BA bn bc] #[.slice GA gn gc, .slice FA fs.length fc]) := hide (by rw [← hw10]; exact HS.out.far (by show _ < ra; omega) _)
    replace HX := hide (HX.out.far (p := ⟨ra, 0, none⟩) (by show xa ≠ ra; omega) (.int .i64 (-1)))
    replace HY := hide (HY.out.far (p := ⟨ra, 0, none⟩) (by show ya ≠ ra; omega) (.int .i64 (-1)))
    rw [hw10] at HX HY
    have HRD : Hid (Rd w10 .i64 (.slice (some ⟨ra, 0, none⟩) (l.set 0 (-1)).length c8) (l.set 0 (-1))) := hide (by rw [← hw10]; exact row_rd (HRY.out.1.set 0 _) (row_set HRY.out.2 0 (-1)))
    clear hw10 y3 hr0 hrz HRY
    have i0 : w10.cell? ⟨w.heap.size, 0, none⟩ = some (.int .i64 op) := HS.out.i.cell 0
    have i1 : w10.cell? ⟨w.heap.size, 1, none⟩ = some (.int .i64 ty) := HS.out.i.cell 1
    have i2 : w10.cell? ⟨w.heap.size, 2, none⟩ = some (.int .i64 dst) := HS.out.i.cell 2
    have i3 : w10.cell? ⟨w.heap.size, 3, none⟩ = some (.slice (some ⟨b, off, none⟩) l.length c) := HS.out.i.cell 3
    have i4 : w10.cell? ⟨w.heap.size, 4, none⟩ = some (.int .i64 imm) := HS.out.i.cell 4
    have i5 : w10.cell? ⟨w.heap.size, 5, none⟩ = some (.int .i64 sym) := HS.out.i.cell 5
    have i6 : w10.cell? ⟨w.heap.size, 6, none⟩ = some (.int .i64 el) := HS.out.i.cell 6
    have i7 : w10.cell? ⟨w.heap.size, 7, none⟩ = some (.bool nw) := HS.out.i.cell 7
    obtain ⟨za, hza⟩ : ∃ x, w10.heap.size = x := ⟨_, rfl⟩
    have hza0 : xa < za := by rw [← hza]; exact HX.out.lt
    have hza1 : ya < za := by rw [← hza]; exact HY.out.lt
    go_upto_region 12 with fail
    obtain ⟨w11, hw11⟩ : ∃ z, w10.alloc (.cells #[.int .i64 op, .int .i64 ty, .int .i64 dst, .slice (some ⟨b, off, none⟩) l.length c, .int .i64 imm, .int .i64 sym, .int .i64 el, .bool nw] 38) = z := ⟨_, rfl⟩
    rw [hw11]
    replace HS : Hid (BoxS w w11 #[.int .i64 op, .int .i64 ty, .int .i64 dst, .slice (some ⟨b, off, none⟩) l.length c, .int .i64 imm, .int .i64 sym, .int .i64 el, .bool nw] #[.string nm, .slice PA pn pc, .int .i64 res, .slice RA rl.length rc, .slice BA bn bc] #[.slice GA gn gc, .slice FA fs.length fc]) := hide (by rw [← hw11]; exact HS.out.alloc _)
    have HZ : Hid (Whole w11 za 38 #[.int .i64 op, .int .i64 ty, .int .i64 dst, .slice (some ⟨b, off, none⟩) l.length c, .int .i64 imm, .int .i64 sym, .int .i64 el, .bool nw]) := hide (by rw [← hw11, ← hza]; exact Whole.new w10 _ _)
    replace HX := hide (HX.out.alloc (.cells #[.int .i64 op, .int .i64 ty, .int .i64 dst, .slice (some ⟨b, off, none⟩) l.length c, .int .i64 imm, .int .i64 sym, .int .i64 el, .bool nw] 38))
    replace HY := hide (HY.out.alloc (.cells #[.int .i64 op, .int .i64 ty, .int .i64 dst, .slice (some ⟨b, off, none⟩) l.length c, .int .i64 imm, .int .i64 sym, .int .i64 el, .bool nw] 38))
    have HRDo := HRD
    replace HRD := hide (HRD.out.alloc (.cells #[.int .i64 op, .int .i64 ty, .int .i64 dst, .slice (some ⟨b, off, none⟩) l.length c, .int .i64 imm, .int .i64 sym, .int .i64 el, .bool nw] 38))
    have hrza : ra < za := by
      obtain ⟨bq, oq, e, hlt, -⟩ := (show ∃ bq oq, (some (⟨ra, 0, none⟩ : Addr)) = some ⟨bq, oq, none⟩ ∧ bq < w10.heap.size ∧ True by
        obtain ⟨A', c', e', _, _, hr⟩ := HRDo.out
        obtain ⟨bq, oq, e2, hlt, _⟩ := hr (by rw [List.length_set]; exact hpos)
        simp only [Value.slice.injEq] at e'
        exact ⟨bq, oq, e'.1.trans e2, hlt, trivial⟩)
      simp only [Option.some.injEq, Addr.mk.injEq] at e
      rw [← hza, e.1]; exact hlt
    rw [hw11] at HX HY HRD
    clear hw11 hza i0 i1 i2 i3 i4 i5 i6 i7 HRDo
    have i3 : w11.cell? ⟨w.heap.size, 3, none⟩ = some (.slice (some ⟨b, off, none⟩) l.length c) := HS.out.i.cell 3
    have q3 : w11.cell? ⟨za, 3, none⟩ = some (.slice (some ⟨b, off, none⟩) l.length c) := HZ.out.cell 3
    have qz : w11.frozen? ⟨za, 3, none⟩ = false := HZ.out.free 3
    have hcap : l.length ≤ c ∧ c ≤ maxLen := by
      obtain ⟨_, _, e, h1, h2, _⟩ := HIN.out.2.2.1
      simp only [Value.slice.injEq, true_and] at e
      exact ⟨by omega, by omega⟩
    have hcx : (c : Int) ≤ 9223372036854775807 := by have := hcap.2; unfold maxLen at this; omega
    have hcl : l.length ≤ c := hcap.1
    have hl1 : 1 ≤ l.length := hpos
    have HRT : Hid (∀ W, Below w.heap.size w W → (c = 1 → Rd W .i64 (.slice (some ⟨b, off, none⟩) l.tail.length 0) l.tail) ∧ Rd W .i64 (.slice (some ⟨b, off + 1, none⟩) l.tail.length (c - 1)) l.tail) := hide (fun W hb => by
      have h0 := HIN.out.2.2.1.below' hb
      obtain ⟨zq, lq, hq⟩ : ∃ zq lq, l = zq :: lq := by
        cases l with
        | nil => simp at hpos
        | cons zq lq => exact ⟨zq, lq, rfl⟩
      rw [hq] at h0 hcl ⊢
      refine ⟨fun h1 => ?_, Rd.tail h0⟩
      have : lq = [] := List.eq_nil_of_length_eq_zero (by simp at hcl; omega)
      subst this
      exact ⟨_, _, rfl, Nat.le_refl _, Nat.zero_le _, fun h => absurd h (by simp)⟩)
    clear hcap
    go_upto_region 13 with fail
    obtain ⟨A2, hA2⟩ : ∃ x : Option Addr, (if c = 1 then some ⟨b, off, none⟩ else some ⟨b, off + 1, none⟩) = x := ⟨_, rfl⟩
    rw [hA2]
    have HRU : Hid (∀ W, Below w.heap.size w W → Rd W .i64 (.slice A2 l.tail.length (c - 1)) l.tail) := hide (fun W hb => by
      rw [← hA2]
      split
      · rename_i h1
        have h2 := (HRT.out W hb).1 h1
        rw [h1]; exact h2
      · exact (HRT.out W hb).2)
    clear hA2 HRT
    obtain ⟨w12, hw12⟩ : ∃ z, w11.setCell ⟨za, 3, none⟩ (.slice A2 (l.length - 1) (c - 1)) = z := ⟨_, rfl⟩
    rw [hw12]
    replace HS : Hid (BoxS w w12 #[.int .i64 op, .int .i64 ty, .int .i64 dst, .slice (some ⟨b, off, none⟩) l.length c, .int .i64 imm, .int .i64 sym, .int .i64 el, .bool nw] #[.string nm, .slice PA pn pc, .int .i64 res, .slice RA rl.length rc, .slice BA bn bc] #[.slice GA gn gc, .slice FA fs.length fc]) := hide (by rw [← hw12]; exact HS.out.far (by show _ < za; omega) _)
    replace HX := hide (HX.out.far (p := ⟨za, 3, none⟩) (by show xa ≠ za; omega) (.slice A2 (l.length - 1) (c - 1)))
    replace HY := hide (HY.out.far (p := ⟨za, 3, none⟩) (by show ya ≠ za; omega) (.slice A2 (l.length - 1) (c - 1)))
    replace HRD := hide (rd_far HRD.out (p := ⟨za, 3, none⟩) (by show ra ≠ za; omega) (.slice A2 (l.length - 1) (c - 1)))
    rw [hw12] at HX HY HRD
    replace HZ : Hid (Whole w12 za 38 #[.int .i64 op, .int .i64 ty, .int .i64 dst, .slice A2 (l.length - 1) (c - 1), .int .i64 imm, .int .i64 sym, .int .i64 el, .bool nw]) := hide (by rw [← hw12]; exact HZ.out.set 3 _)
    clear hw12 i3 q3 qz
    have y0 : w12.cell? ⟨ya, 0, none⟩ = some (.int .i64 op) := HY.out.cell 0
    have y1 : w12.cell? ⟨ya, 1, none⟩ = some (.int .i64 ty) := HY.out.cell 1
    have y2 : w12.cell? ⟨ya, 2, none⟩ = some (.int .i64 dst) := HY.out.cell 2
    have y3 : w12.cell? ⟨ya, 3, none⟩ = some (.slice (some ⟨ra, 0, none⟩) l.length c8) := HY.out.cell 3
    have y4 : w12.cell? ⟨ya, 4, none⟩ = some (.int .i64 imm) := HY.out.cell 4
    have y5 : w12.cell? ⟨ya, 5, none⟩ = some (.int .i64 sym) := HY.out.cell 5
    have y6 : w12.cell? ⟨ya, 6, none⟩ = some (.int .i64 el) := HY.out.cell 6
    have y7 : w12.cell? ⟨ya, 7, none⟩ = some (.bool nw) := HY.out.cell 7
    have f0 : w12.cell? ⟨w.heap.size + 1, 0, none⟩ = some (.string nm) := HS.out.f.cell 0
    have f1 : w12.cell? ⟨w.heap.size + 1, 1, none⟩ = some (.slice PA pn pc) := HS.out.f.cell 1
    have f2 : w12.cell? ⟨w.heap.size + 1, 2, none⟩ = some (.int .i64 res) := HS.out.f.cell 2
    have f3 : w12.cell? ⟨w.heap.size + 1, 3, none⟩ = some (.slice RA rl.length rc) := HS.out.f.cell 3
    have f4 : w12.cell? ⟨w.heap.size + 1, 4, none⟩ = some (.slice BA bn bc) := HS.out.f.cell 4
    have m0 : w12.cell? ⟨w.heap.size + 2, 0, none⟩ = some (.slice GA gn gc) := HS.out.m.cell 0
    have m1 : w12.cell? ⟨w.heap.size + 2, 1, none⟩ = some (.slice FA fs.length fc) := HS.out.m.cell 1
    have HCY := hide (HCK.out w12 HS.out.b op dst (some ⟨ra, 0, none⟩) c8 (l.set 0 (-1)) (by rw [List.length_set]; exact HLN.out) HRD.out)
    rw [HA.out.bad (l.set 0 (-1)) (by rw [List.length_set]) (fun d => by
      obtain ⟨zq, lq, hq⟩ : ∃ zq lq, l = zq :: lq := by
        cases l with
        | nil => simp at hpos
        | cons zq lq => exact ⟨zq, lq, rfl⟩
      rw [hq]; simp [regsM]), List.length_set] at HCY
    go_wp2_with fail
    refine HCY.out.mono ?_
    rintro en w13 ⟨rfl, hb⟩
    replace HS := hide (HS.out.next hb); replace HX := hide (HX.out.below' hb); replace HZ := hide (HZ.out.below' hb)
    clear hb HY HRD HCY y0 y1 y2 y3 y4 y5 y6 y7 f0 f1 f2 f3 f4 m0 m1
    have y0 : w13.cell? ⟨za, 0, none⟩ = some (.int .i64 op) := HZ.out.cell 0
    have y1 : w13.cell? ⟨za, 1, none⟩ = some (.int .i64 ty) := HZ.out.cell 1
    have y2 : w13.cell? ⟨za, 2, none⟩ = some (.int .i64 dst) := HZ.out.cell 2
    have y3 : w13.cell? ⟨za, 3, none⟩ = some (.slice A2 (l.length - 1) (c - 1)) := HZ.out.cell 3
    have y4 : w13.cell? ⟨za, 4, none⟩ = some (.int .i64 imm) := HZ.out.cell 4
    have y5 : w13.cell? ⟨za, 5, none⟩ = some (.int .i64 sym) := HZ.out.cell 5
    have y6 : w13.cell? ⟨za, 6, none⟩ = some (.int .i64 el) := HZ.out.cell 6
    have y7 : w13.cell? ⟨za, 7, none⟩ = some (.bool nw) := HZ.out.cell 7
    have f0 : w13.cell? ⟨w.heap.size + 1, 0, none⟩ = some (.string nm) := HS.out.f.cell 0
    have f1 : w13.cell? ⟨w.heap.size + 1, 1, none⟩ = some (.slice PA pn pc) := HS.out.f.cell 1
    have f2 : w13.cell? ⟨w.heap.size + 1, 2, none⟩ = some (.int .i64 res) := HS.out.f.cell 2
    have f3 : w13.cell? ⟨w.heap.size + 1, 3, none⟩ = some (.slice RA rl.length rc) := HS.out.f.cell 3
    have f4 : w13.cell? ⟨w.heap.size + 1, 4, none⟩ = some (.slice BA bn bc) := HS.out.f.cell 4
    have m0 : w13.cell? ⟨w.heap.size + 2, 0, none⟩ = some (.slice GA gn gc) := HS.out.m.cell 0
    have m1 : w13.cell? ⟨w.heap.size + 2, 1, none⟩ = some (.slice FA fs.length fc) := HS.out.m.cell 1
    have HCZ := hide (HCK.out w13 HS.out.b op dst A2 (c - 1) l.tail (by rw [List.length_tail]; have := HLN.out; omega) (HRU.out _ HS.out.b))
    rw [HA.out.short l.tail (by rw [List.length_tail]; omega), List.length_tail] at HCZ
    go_wp2_with fail
    refine HCZ.out.mono ?_
    rintro en w14 ⟨rfl, hb⟩
    replace HS := hide (HS.out.next hb); replace HX := hide (HX.out.below' hb)
    clear hb HZ HCZ y0 y1 y2 y3 y4 y5 y6 y7 f0 f1 f2 f3 f4 m0 m1
    go_upto_region 15 with fail
    have h33 : 1 ≤ op ∧ op ≤ 33 := by simpa [isOp] using HA.out.isop
    obtain ⟨wa, hwa⟩ : ∃ x, w14.heap.size = x := ⟨_, rfl⟩
    have hwa0 : xa < wa := by rw [← hwa]; exact HX.out.lt
    have i0 : w14.cell? ⟨w.heap.size, 0, none⟩ = some (.int .i64 op) := HS.out.i.cell 0
    have i1 : w14.cell? ⟨w.heap.size, 1, none⟩ = some (.int .i64 ty) := HS.out.i.cell 1
    have i2 : w14.cell? ⟨w.heap.size, 2, none⟩ = some (.int .i64 dst) := HS.out.i.cell 2
    have i3 : w14.cell? ⟨w.heap.size, 3, none⟩ = some (.slice (some ⟨b, off, none⟩) l.length c) := HS.out.i.cell 3
    have i4 : w14.cell? ⟨w.heap.size, 4, none⟩ = some (.int .i64 imm) := HS.out.i.cell 4
    have i5 : w14.cell? ⟨w.heap.size, 5, none⟩ = some (.int .i64 sym) := HS.out.i.cell 5
    have i6 : w14.cell? ⟨w.heap.size, 6, none⟩ = some (.int .i64 el) := HS.out.i.cell 6
    have i7 : w14.cell? ⟨w.heap.size, 7, none⟩ = some (.bool nw) := HS.out.i.cell 7
    go_upto_region 16 with fail
    obtain ⟨t1, ht1⟩ : ∃ z, w14.alloc (.cells #[.int .i64 op, .int .i64 ty, .int .i64 dst, .slice (some ⟨b, off, none⟩) l.length c, .int .i64 imm, .int .i64 sym, .int .i64 el, .bool nw] 38) = z := ⟨_, rfl⟩
    rw [ht1]
    replace HS : Hid (BoxS w t1 #[.int .i64 op, .int .i64 ty, .int .i64 dst, .slice (some ⟨b, off, none⟩) l.length c, .int .i64 imm, .int .i64 sym, .int .i64 el, .bool nw] #[.string nm, .slice PA pn pc, .int .i64 res, .slice RA rl.length rc, .slice BA bn bc] #[.slice GA gn gc, .slice FA fs.length fc]) := hide (by rw [← ht1]; exact HS.out.alloc _)
    have HW : Hid (Whole t1 wa 38 #[.int .i64 op, .int .i64 ty, .int .i64 dst, .slice (some ⟨b, off, none⟩) l.length c, .int .i64 imm, .int .i64 sym, .int .i64 el, .bool nw]) := hide (by rw [← ht1, ← hwa]; exact Whole.new w14 _ _)
    replace HX := hide (HX.out.alloc (.cells #[.int .i64 op, .int .i64 ty, .int .i64 dst, .slice (some ⟨b, off, none⟩) l.length c, .int .i64 imm, .int .i64 sym, .int .i64 el, .bool nw] 38))
    rw [ht1] at HX
    clear ht1 hwa i0 i1 i2 i3 i4 i5 i6 i7
    have k0 : t1.cell? ⟨wa, 0, none⟩ = some (.int .i64 op) := HW.out.cell 0
    have z0' : t1.frozen? ⟨wa, 0, none⟩ = false := HW.out.free 0
    go_upto_region 17 with fail
    obtain ⟨t2, ht2⟩ : ∃ z, t1.setCell ⟨wa, 0, none⟩ (.int .i64 (-op)) = z := ⟨_, rfl⟩
    rw [ht2]
    replace HS : Hid (BoxS w t2 #[.int .i64 op, .int .i64 ty, .int .i64 dst, .slice (some ⟨b, off, none⟩) l.length c, .int .i64 imm, .int .i64 sym, .int .i64 el, .bool nw] #[.string nm, .slice PA pn pc, .int .i64 res, .slice RA rl.length rc, .slice BA bn bc] #[.slice GA gn gc, .slice FA fs.length fc]) := hide (by rw [← ht2]; exact HS.out.far (by show _ < wa; omega) _)
    replace HX := hide (HX.out.far (p := ⟨wa, 0, none⟩) (by show xa ≠ wa; omega) (.int .i64 (-op)))
    rw [ht2] at HX
    replace HW : Hid (Whole t2 wa 38 #[.int .i64 (-op), .int .i64 ty, .int .i64 dst, .slice (some ⟨b, off, none⟩) l.length c, .int .i64 imm, .int .i64 sym, .int .i64 el, .bool nw]) := hide (by rw [← ht2]; exact HW.out.set 0 _)
    clear ht2 k0 z0'
    have x0 : t2.cell? ⟨xa, 0, none⟩ = some (.int .i64 op) := HX.out.cell 0
    have x1 : t2.cell? ⟨xa, 1, none⟩ = some (.int .i64 ty) := HX.out.cell 1
    have x2 : t2.cell? ⟨xa, 2, none⟩ = some (.int .i64 (rl.length : Int)) := HX.out.cell 2
    have x3 : t2.cell? ⟨xa, 3, none⟩ = some (.slice (some ⟨b, off, none⟩) l.length c) := HX.out.cell 3
    have x4 : t2.cell? ⟨xa, 4, none⟩ = some (.int .i64 imm) := HX.out.cell 4
    have x5 : t2.cell? ⟨xa, 5, none⟩ = some (.int .i64 sym) := HX.out.cell 5
    have x6 : t2.cell? ⟨xa, 6, none⟩ = some (.int .i64 el) := HX.out.cell 6
    have x7 : t2.cell? ⟨xa, 7, none⟩ = some (.bool nw) := HX.out.cell 7
    have f0 : t2.cell? ⟨w.heap.size + 1, 0, none⟩ = some (.string nm) := HS.out.f.cell 0
    have f1 : t2.cell? ⟨w.heap.size + 1, 1, none⟩ = some (.slice PA pn pc) := HS.out.f.cell 1
    have f2 : t2.cell? ⟨w.heap.size + 1, 2, none⟩ = some (.int .i64 res) := HS.out.f.cell 2
    have f3 : t2.cell? ⟨w.heap.size + 1, 3, none⟩ = some (.slice RA rl.length rc) := HS.out.f.cell 3
    have f4 : t2.cell? ⟨w.heap.size + 1, 4, none⟩ = some (.slice BA bn bc) := HS.out.f.cell 4
    have m0 : t2.cell? ⟨w.heap.size + 2, 0, none⟩ = some (.slice GA gn gc) := HS.out.m.cell 0
    have m1 : t2.cell? ⟨w.heap.size + 2, 1, none⟩ = some (.slice FA fs.length fc) := HS.out.m.cell 1
    have HC1 := hide (HCK.out t2 HS.out.b op rl.length (some ⟨b, off, none⟩) c l HLN.out (HIN.out.2.2.1.below' HS.out.b))
    rw [HA.out.reg rl.length (fun l' => by first | (simp [regsM]; done) | (simp [regsM]; omega))] at HC1
    go_wp2_with fail
    refine HC1.out.mono ?_
    rintro en t3 ⟨rfl, hb⟩
    replace HS := hide (HS.out.next hb)
    replace HW := hide (HW.out.below' hb)
    clear hb HX HC1 x0 x1 x2 x3 x4 x5 x6 x7 f0 f1 f2 f3 f4 m0 m1
    have k0 : t3.cell? ⟨wa, 0, none⟩ = some (.int .i64 (-op)) := HW.out.cell 0
    have k1 : t3.cell? ⟨wa, 1, none⟩ = some (.int .i64 ty) := HW.out.cell 1
    have k2 : t3.cell? ⟨wa, 2, none⟩ = some (.int .i64 dst) := HW.out.cell 2
    have k3 : t3.cell? ⟨wa, 3, none⟩ = some (.slice (some ⟨b, off, none⟩) l.length c) := HW.out.cell 3
    have k4 : t3.cell? ⟨wa, 4, none⟩ = some (.int .i64 imm) := HW.out.cell 4
    have k5 : t3.cell? ⟨wa, 5, none⟩ = some (.int .i64 sym) := HW.out.cell 5
    have k6 : t3.cell? ⟨wa, 6, none⟩ = some (.int .i64 el) := HW.out.cell 6
    have k7 : t3.cell? ⟨wa, 7, none⟩ = some (.bool nw) := HW.out.cell 7
    have f0 : t3.cell? ⟨w.heap.size + 1, 0, none⟩ = some (.string nm) := HS.out.f.cell 0
    have f1 : t3.cell? ⟨w.heap.size + 1, 1, none⟩ = some (.slice PA pn pc) := HS.out.f.cell 1
    have f2 : t3.cell? ⟨w.heap.size + 1, 2, none⟩ = some (.int .i64 res) := HS.out.f.cell 2
    have f3 : t3.cell? ⟨w.heap.size + 1, 3, none⟩ = some (.slice RA rl.length rc) := HS.out.f.cell 3
    have f4 : t3.cell? ⟨w.heap.size + 1, 4, none⟩ = some (.slice BA bn bc) := HS.out.f.cell 4
    have m0 : t3.cell? ⟨w.heap.size + 2, 0, none⟩ = some (.slice GA gn gc) := HS.out.m.cell 0
    have m1 : t3.cell? ⟨w.heap.size + 2, 1, none⟩ = some (.slice FA fs.length fc) := HS.out.m.cell 1
    have HC2 := hide (HCK.out t3 HS.out.b (-op) dst (some ⟨b, off, none⟩) c l HLN.out (HIN.out.2.2.1.below' HS.out.b))
    rw [neg_check HA.out.isop] at HC2
    go_wp2_with fail
    refine HC2.out.mono ?_
    rintro en t4 ⟨rfl, hb⟩
    replace HS := hide (HS.out.next hb)
    clear hb HW HC2 k0 k1 k2 k3 k4 k5 k6 k7 f0 f1 f2 f3 f4 m0 m1
    have i0 : t4.cell? ⟨w.heap.size, 0, none⟩ = some (.int .i64 op) := HS.out.i.cell 0
    have i1 : t4.cell? ⟨w.heap.size, 1, none⟩ = some (.int .i64 ty) := HS.out.i.cell 1
    have i2 : t4.cell? ⟨w.heap.size, 2, none⟩ = some (.int .i64 dst) := HS.out.i.cell 2
    by_cases hd : dst = -1
    · have gd : (dst == -1) = true := by simpa using hd
      have g0 : decide ((0 : Int) ≤ dst) = false := by simp; omega
      have HOR : Hid ((ty == 0) = true ∨ (op == 30) = true) := hide (by have := HA.out.hdst; simp [dstM, hd] at this; simpa using this)
      clear hd
      cases gt : (ty == 0) with
      | true =>
        cases g3 : (op == 30) with
        | true =>
          have gnn : (op != 30) = false := by simp [bne, g3]
          go_wp2_with fail
          go_ret
          exact ⟨rfl, HS.out.b⟩
        | false =>
          have gnn : (op != 30) = true := by simp [bne, g3]
          go_wp2_with fail
          go_ret
          exact ⟨rfl, HS.out.b⟩
      | false =>
        have g3 : (op == 30) = true := HOR.out.resolve_left (by rw [gt]; decide)
        have gnn : (op != 30) = false := by simp [bne, g3]
        go_wp2_with fail
        go_ret
        exact ⟨rfl, HS.out.b⟩
    · have gd : (dst == -1) = false := by simpa using hd
      have hreg : 0 ≤ dst ∧ dst < rl.length := by
        have h := HA.out.regs
        simp only [regsM, Bool.and_eq_true, Bool.or_eq_true, decide_eq_true_eq] at h
        exact h.2.resolve_left hd
      obtain ⟨j, rfl⟩ : ∃ j : Nat, dst = j := ⟨dst.toNat, by omega⟩
      have hj : j < rl.length := by omega
      have hdm : ∀ rl' : List Int, dstM op ty (j : Int) rl' = ((ty != 0) && (ty == rl'.getD j 0)) := fun rl' => by unfold dstM; rw [if_neg hd, Int.toNat_natCast]
      have gt : (ty == 0) = false := by
        have h := HA.out.hdst
        rw [hdm, Bool.and_eq_true] at h
        simpa using h.1
      have g0 : decide ((0 : Int) ≤ (j : Int)) = true := by simp
      have HDM := hide hdm
      clear hd hreg hdm
      cases gtt : (t != ty) with
      | false =>
        cases g3 : (op == 30) with
        | true =>
          have gnn : (op != 30) = false := by simp [bne, g3]
          go_wp2_with fail
          go_ret
          exact ⟨rfl, HS.out.b⟩
        | false =>
          have gnn : (op != 30) = true := by simp [bne, g3]
          go_wp2_with fail
          go_ret
          exact ⟨rfl, HS.out.b⟩
      | true =>
        obtain ⟨ga, hga⟩ : ∃ x, t4.heap.size = x := ⟨_, rfl⟩
        have hga0 : w.heap.size + 2 < ga := by rw [← hga]; exact HS.out.m.lt
        have f0 : t4.cell? ⟨w.heap.size + 1, 0, none⟩ = some (.string nm) := HS.out.f.cell 0
        have f1 : t4.cell? ⟨w.heap.size + 1, 1, none⟩ = some (.slice PA pn pc) := HS.out.f.cell 1
        have f2 : t4.cell? ⟨w.heap.size + 1, 2, none⟩ = some (.int .i64 res) := HS.out.f.cell 2
        have f3 : t4.cell? ⟨w.heap.size + 1, 3, none⟩ = some (.slice RA rl.length rc) := HS.out.f.cell 3
        have f4 : t4.cell? ⟨w.heap.size + 1, 4, none⟩ = some (.slice BA bn bc) := HS.out.f.cell 4
        cases g3 : (op == 30) with
        | true =>
          have gnn : (op != 30) = false := by simp [bne, g3]
          go_upto_region 21 with fail
          obtain ⟨t5, ht5⟩ : ∃ z, t4.alloc (.cells #[.string nm, .slice PA pn pc, .int .i64 res, .slice RA rl.length rc, .slice BA bn bc] 60) = z := ⟨_, rfl⟩
          rw [ht5]
          replace HS : Hid (BoxS w t5 #[.int .i64 op, .int .i64 ty, .int .i64 (j : Int), .slice (some ⟨b, off, none⟩) l.length c, .int .i64 imm, .int .i64 sym, .int .i64 el, .bool nw] #[.string nm, .slice PA pn pc, .int .i64 res, .slice RA rl.length rc, .slice BA bn bc] #[.slice GA gn gc, .slice FA fs.length fc]) := hide (by rw [← ht5]; exact HS.out.alloc _)
          have HG : Hid (Whole t5 ga 60 #[.string nm, .slice PA pn pc, .int .i64 res, .slice RA rl.length rc, .slice BA bn bc]) := hide (by rw [← ht5, ← hga]; exact Whole.new t4 _ _)
          clear ht5 hga f0 f1 f2 f3 f4 i0 i1 i2
          obtain ⟨eb, heb⟩ : ∃ x, t5.heap.size = x := ⟨_, rfl⟩
          have hgb : ga < eb := by rw [← heb]; exact HG.out.lt
          obtain ⟨t6, ht6⟩ : ∃ z, t5.alloc (.cells #[] 22) = z := ⟨_, rfl⟩
          have HE2 : Hid (Own t6 eb 22 .i64 (.slice (some ⟨eb, 0, none⟩) 0 0) []) := hide (by rw [← ht6, ← heb]; exact own_empty t5 _ _ _ (Nat.le_refl _))
          replace HS : Hid (BoxS w t6 #[.int .i64 op, .int .i64 ty, .int .i64 (j : Int), .slice (some ⟨b, off, none⟩) l.length c, .int .i64 imm, .int .i64 sym, .int .i64 el, .bool nw] #[.string nm, .slice PA pn pc, .int .i64 res, .slice RA rl.length rc, .slice BA bn bc] #[.slice GA gn gc, .slice FA fs.length fc]) := hide (by rw [← ht6]; exact HS.out.alloc _)
          replace HG := hide (HG.out.alloc (.cells #[] 22))
          rw [ht6] at HG
          have ht6s : eb < t6.heap.size := by rw [← ht6, World.size_alloc, heb]; omega
          have f3 : t6.cell? ⟨w.heap.size + 1, 3, none⟩ = some (.slice RA rl.length rc) := HS.out.f.cell 3
          have HRI := hide (HIN.out.2.2.2.1.below' HS.out.b)
          go_wp2_with (first | (refine wpList_append_rd _ rfl _ _ 57 rfl eb 22 .i64 8 typE _ [] rfl HE2.out _ rl rfl HRI.out ?b1 ?b2 ?b3 ?_))
          case b1 => simp only [List.length_nil]; omega
          case b2 => unfold maxLen; simp only [List.length_nil]; omega
          case b3 => omega
          intro v7 t7 ho7 _ hb7 _
          clear ht6 heb f3
          obtain ⟨gr, cap, cur, hv7, hgr, hwr, hra⟩ := own_row ho7 (by show 0 < rl.length; omega)
          subst hv7
          replace HS := hide (HS.out.low hb7 (by omega))
          replace HG := hide (HG.out.below hb7 hgb)
          have HRW := hide (And.intro hwr hra)
          clear ho7 hb7 HE2 HRI hwr hra
          have y3 : t7.cell? ⟨ga, 3, none⟩ = some (.slice RA rl.length rc) := HG.out.cell 3
          have z3 : t7.frozen? ⟨ga, 3, none⟩ = false := HG.out.free 3
          go_upto_region 22 with fail
          obtain ⟨t8, ht8⟩ : ∃ z, t7.setCell ⟨ga, 3, none⟩ (.slice (some ⟨gr, 0, none⟩) rl.length cap) = z := ⟨_, rfl⟩
          rw [ht8]
          replace HS : Hid (BoxS w t8 #[.int .i64 op, .int .i64 ty, .int .i64 (j : Int), .slice (some ⟨b, off, none⟩) l.length c, .int .i64 imm, .int .i64 sym, .int .i64 el, .bool nw] #[.string nm, .slice PA pn pc, .int .i64 res, .slice RA rl.length rc, .slice BA bn bc] #[.slice GA gn gc, .slice FA fs.length fc]) := hide (by rw [← ht8]; exact HS.out.far hga0 _)
          replace HG : Hid (Whole t8 ga 60 #[.string nm, .slice PA pn pc, .int .i64 res, .slice (some ⟨gr, 0, none⟩) rl.length cap, .slice BA bn bc]) := hide (by rw [← ht8]; exact HG.out.set 3 _)
          replace HRW : Hid (Whole t8 gr 22 cur ∧ RowAt cur rl cap) := hide (by rw [← ht8]; exact ⟨HRW.out.1.far (by show gr ≠ ga; omega) _, HRW.out.2⟩)
          clear ht8 y3 z3
          have y3 : t8.cell? ⟨ga, 3, none⟩ = some (.slice (some ⟨gr, 0, none⟩) rl.length cap) := HG.out.cell 3
          have i2 : t8.cell? ⟨w.heap.size, 2, none⟩ = some (.int .i64 (j : Int)) := HS.out.i.cell 2
          have hjl : (j : Int) < (rl.length : Int) := by omega
          have rj : (t8.cell? ⟨gr, j, none⟩) = some (.int .i64 (rl.getD j 0)) := by
            obtain ⟨z, hz⟩ : ∃ z, rl[j]? = some z := ⟨_, List.getElem?_eq_getElem hj⟩
            obtain ⟨bq, oq, e, hc⟩ := (row_rd HRW.out.1 HRW.out.2).at (by omega)
            simp only [Option.some.injEq, Addr.mk.injEq, and_true] at e
            obtain ⟨rfl, rfl⟩ := e
            have := hc j z hz
            rw [Nat.zero_add] at this
            rw [this, List.getD_eq_getElem?_getD, hz]; rfl
          have zj : t8.frozen? ⟨gr, j, none⟩ = false := HRW.out.1.free j
          go_upto_region 23 with fail
          obtain ⟨t9, ht9⟩ : ∃ z, t8.setCell ⟨gr, j, none⟩ (.int .i64 t) = z := ⟨_, rfl⟩
          rw [ht9]
          replace HS : Hid (BoxS w t9 #[.int .i64 op, .int .i64 ty, .int .i64 (j : Int), .slice (some ⟨b, off, none⟩) l.length c, .int .i64 imm, .int .i64 sym, .int .i64 el, .bool nw] #[.string nm, .slice PA pn pc, .int .i64 res, .slice RA rl.length rc, .slice BA bn bc] #[.slice GA gn gc, .slice FA fs.length fc]) := hide (by rw [← ht9]; exact HS.out.far (by show _ < gr; omega) _)
          replace HG : Hid (Whole t9 ga 60 #[.string nm, .slice PA pn pc, .int .i64 res, .slice (some ⟨gr, 0, none⟩) rl.length cap, .slice BA bn bc]) := hide (by rw [← ht9]; exact HG.out.far (by show ga ≠ gr; omega) _)
          have HR9 : Hid (Rd t9 .i64 (.slice (some ⟨gr, 0, none⟩) (rl.set j t).length cap) (rl.set j t)) := hide (by rw [← ht9]; exact row_rd (HRW.out.1.set j _) (row_set HRW.out.2 j t))
          clear ht9 y3 i2 hjl rj zj HRW
          have i0 : t9.cell? ⟨w.heap.size, 0, none⟩ = some (.int .i64 op) := HS.out.i.cell 0
          have i1 : t9.cell? ⟨w.heap.size, 1, none⟩ = some (.int .i64 ty) := HS.out.i.cell 1
          have i2 : t9.cell? ⟨w.heap.size, 2, none⟩ = some (.int .i64 (j : Int)) := HS.out.i.cell 2
          have i3 : t9.cell? ⟨w.heap.size, 3, none⟩ = some (.slice (some ⟨b, off, none⟩) l.length c) := HS.out.i.cell 3
          have i4 : t9.cell? ⟨w.heap.size, 4, none⟩ = some (.int .i64 imm) := HS.out.i.cell 4
          have i5 : t9.cell? ⟨w.heap.size, 5, none⟩ = some (.int .i64 sym) := HS.out.i.cell 5
          have i6 : t9.cell? ⟨w.heap.size, 6, none⟩ = some (.int .i64 el) := HS.out.i.cell 6
          have i7 : t9.cell? ⟨w.heap.size, 7, none⟩ = some (.bool nw) := HS.out.i.cell 7
          have k0 : t9.cell? ⟨ga, 0, none⟩ = some (.string nm) := HG.out.cell 0
          have k1 : t9.cell? ⟨ga, 1, none⟩ = some (.slice PA pn pc) := HG.out.cell 1
          have k2 : t9.cell? ⟨ga, 2, none⟩ = some (.int .i64 res) := HG.out.cell 2
          have k3 : t9.cell? ⟨ga, 3, none⟩ = some (.slice (some ⟨gr, 0, none⟩) rl.length cap) := HG.out.cell 3
          have k4 : t9.cell? ⟨ga, 4, none⟩ = some (.slice BA bn bc) := HG.out.cell 4
          have m0 : t9.cell? ⟨w.heap.size + 2, 0, none⟩ = some (.slice GA gn gc) := HS.out.m.cell 0
          have m1 : t9.cell? ⟨w.heap.size + 2, 1, none⟩ = some (.slice FA fs.length fc) := HS.out.m.cell 1
          have HC3 := hide (check_any op ty j imm sym el (some ⟨b, off, none⟩) (some ⟨gr, 0, none⟩) GA FA c cap gn gc fc fs l (rl.set j t) (Nat.le_trans HLN.out (by decide)) nw (.string nm) (.slice PA pn pc) (.slice BA bn bc) res t9 (HIN.out.1.below HS.out.b) (HIN.out.2.1.below HS.out.b) (HIN.out.2.2.1.below' HS.out.b) HR9.out (HIN.out.2.2.2.2.below HS.out.b))
          have hne3 := HA.out.types (rl.set j t) (by
            rw [HDM.out, List.getD_eq_getElem?_getD, List.getElem?_set_self hj]
            have : (ty == t) = false := by
              have h := gtt
              simp only [bne, Bool.not_eq_true'] at h
              rw [beq_eq_false_iff_ne] at h ⊢
              exact fun e => h e.symm
            simp [this])
          obtain ⟨R3, hR3⟩ : ∃ x, checkA op ty j imm sym el nw l (rl.set j t) gn fs = x := ⟨_, rfl⟩
          rw [hR3] at HC3 hne3
          rw [List.length_set] at HC3
          have gR : (R3 != 0) = true := by simpa using hne3
          clear hR3 hne3 HR9
          go_wp2_with fail
          refine HC3.out.mono ?_
          rintro en t10 ⟨rfl, hb⟩
          replace HS := hide (HS.out.next hb)
          clear hb
          have i2 : t10.cell? ⟨w.heap.size, 2, none⟩ = some (.int .i64 (j : Int)) := HS.out.i.cell 2
          have k3 : t10.cell? ⟨w.heap.size + 1, 3, none⟩ = some (.slice RA rl.length rc) := HS.out.f.cell 3
          go_wp2_with fail
          go_ret
          exact ⟨rfl, HS.out.b⟩
        | false =>
          have gnn : (op != 30) = true := by simp [bne, g3]
          go_upto_region 21 with fail
          obtain ⟨t5, ht5⟩ : ∃ z, t4.alloc (.cells #[.string nm, .slice PA pn pc, .int .i64 res, .slice RA rl.length rc, .slice BA bn bc] 60) = z := ⟨_, rfl⟩
          rw [ht5]
          replace HS : Hid (BoxS w t5 #[.int .i64 op, .int .i64 ty, .int .i64 (j : Int), .slice (some ⟨b, off, none⟩) l.length c, .int .i64 imm, .int .i64 sym, .int .i64 el, .bool nw] #[.string nm, .slice PA pn pc, .int .i64 res, .slice RA rl.length rc, .slice BA bn bc] #[.slice GA gn gc, .slice FA fs.length fc]) := hide (by rw [← ht5]; exact HS.out.alloc _)
          have HG : Hid (Whole t5 ga 60 #[.string nm, .slice PA pn pc, .int .i64 res, .slice RA rl.length rc, .slice BA bn bc]) := hide (by rw [← ht5, ← hga]; exact Whole.new t4 _ _)
          clear ht5 hga f0 f1 f2 f3 f4 i0 i1 i2
          obtain ⟨eb, heb⟩ : ∃ x, t5.heap.size = x := ⟨_, rfl⟩
          have hgb : ga < eb := by rw [← heb]; exact HG.out.lt
          obtain ⟨t6, ht6⟩ : ∃ z, t5.alloc (.cells #[] 22) = z := ⟨_, rfl⟩
          have HE2 : Hid (Own t6 eb 22 .i64 (.slice (some ⟨eb, 0, none⟩) 0 0) []) := hide (by rw [← ht6, ← heb]; exact own_empty t5 _ _ _ (Nat.le_refl _))
          replace HS : Hid (BoxS w t6 #[.int .i64 op, .int .i64 ty, .int .i64 (j : Int), .slice (some ⟨b, off, none⟩) l.length c, .int .i64 imm, .int .i64 sym, .int .i64 el, .bool nw] #[.string nm, .slice PA pn pc, .int .i64 res, .slice RA rl.length rc, .slice BA bn bc] #[.slice GA gn gc, .slice FA fs.length fc]) := hide (by rw [← ht6]; exact HS.out.alloc _)
          replace HG := hide (HG.out.alloc (.cells #[] 22))
          rw [ht6] at HG
          have ht6s : eb < t6.heap.size := by rw [← ht6, World.size_alloc, heb]; omega
          have f3 : t6.cell? ⟨w.heap.size + 1, 3, none⟩ = some (.slice RA rl.length rc) := HS.out.f.cell 3
          have HRI := hide (HIN.out.2.2.2.1.below' HS.out.b)
          go_wp2_with (first | (refine wpList_append_rd _ rfl _ _ 57 rfl eb 22 .i64 8 typE _ [] rfl HE2.out _ rl rfl HRI.out ?b1 ?b2 ?b3 ?_))
          case b1 => simp only [List.length_nil]; omega
          case b2 => unfold maxLen; simp only [List.length_nil]; omega
          case b3 => omega
          intro v7 t7 ho7 _ hb7 _
          clear ht6 heb f3
          obtain ⟨gr, cap, cur, hv7, hgr, hwr, hra⟩ := own_row ho7 (by show 0 < rl.length; omega)
          subst hv7
          replace HS := hide (HS.out.low hb7 (by omega))
          replace HG := hide (HG.out.below hb7 hgb)
          have HRW := hide (And.intro hwr hra)
          clear ho7 hb7 HE2 HRI hwr hra
          have y3 : t7.cell? ⟨ga, 3, none⟩ = some (.slice RA rl.length rc) := HG.out.cell 3
          have z3 : t7.frozen? ⟨ga, 3, none⟩ = false := HG.out.free 3
          go_upto_region 22 with fail
          obtain ⟨t8, ht8⟩ : ∃ z, t7.setCell ⟨ga, 3, none⟩ (.slice (some ⟨gr, 0, none⟩) rl.length cap) = z := ⟨_, rfl⟩
          rw [ht8]
          replace HS : Hid (BoxS w t8 #[.int .i64 op, .int .i64 ty, .int .i64 (j : Int), .slice (some ⟨b, off, none⟩) l.length c, .int .i64 imm, .int .i64 sym, .int .i64 el, .bool nw] #[.string nm, .slice PA pn pc, .int .i64 res, .slice RA rl.length rc, .slice BA bn bc] #[.slice GA gn gc, .slice FA fs.length fc]) := hide (by rw [← ht8]; exact HS.out.far hga0 _)
          replace HG : Hid (Whole t8 ga 60 #[.string nm, .slice PA pn pc, .int .i64 res, .slice (some ⟨gr, 0, none⟩) rl.length cap, .slice BA bn bc]) := hide (by rw [← ht8]; exact HG.out.set 3 _)
          replace HRW : Hid (Whole t8 gr 22 cur ∧ RowAt cur rl cap) := hide (by rw [← ht8]; exact ⟨HRW.out.1.far (by show gr ≠ ga; omega) _, HRW.out.2⟩)
          clear ht8 y3 z3
          have y3 : t8.cell? ⟨ga, 3, none⟩ = some (.slice (some ⟨gr, 0, none⟩) rl.length cap) := HG.out.cell 3
          have i2 : t8.cell? ⟨w.heap.size, 2, none⟩ = some (.int .i64 (j : Int)) := HS.out.i.cell 2
          have hjl : (j : Int) < (rl.length : Int) := by omega
          have rj : (t8.cell? ⟨gr, j, none⟩) = some (.int .i64 (rl.getD j 0)) := by
            obtain ⟨z, hz⟩ : ∃ z, rl[j]? = some z := ⟨_, List.getElem?_eq_getElem hj⟩
            obtain ⟨bq, oq, e, hc⟩ := (row_rd HRW.out.1 HRW.out.2).at (by omega)
            simp only [Option.some.injEq, Addr.mk.injEq, and_true] at e
            obtain ⟨rfl, rfl⟩ := e
            have := hc j z hz
            rw [Nat.zero_add] at this
            rw [this, List.getD_eq_getElem?_getD, hz]; rfl
          have zj : t8.frozen? ⟨gr, j, none⟩ = false := HRW.out.1.free j
          go_upto_region 23 with fail
          obtain ⟨t9, ht9⟩ : ∃ z, t8.setCell ⟨gr, j, none⟩ (.int .i64 t) = z := ⟨_, rfl⟩
          rw [ht9]
          replace HS : Hid (BoxS w t9 #[.int .i64 op, .int .i64 ty, .int .i64 (j : Int), .slice (some ⟨b, off, none⟩) l.length c, .int .i64 imm, .int .i64 sym, .int .i64 el, .bool nw] #[.string nm, .slice PA pn pc, .int .i64 res, .slice RA rl.length rc, .slice BA bn bc] #[.slice GA gn gc, .slice FA fs.length fc]) := hide (by rw [← ht9]; exact HS.out.far (by show _ < gr; omega) _)
          replace HG : Hid (Whole t9 ga 60 #[.string nm, .slice PA pn pc, .int .i64 res, .slice (some ⟨gr, 0, none⟩) rl.length cap, .slice BA bn bc]) := hide (by rw [← ht9]; exact HG.out.far (by show ga ≠ gr; omega) _)
          have HR9 : Hid (Rd t9 .i64 (.slice (some ⟨gr, 0, none⟩) (rl.set j t).length cap) (rl.set j t)) := hide (by rw [← ht9]; exact row_rd (HRW.out.1.set j _) (row_set HRW.out.2 j t))
          clear ht9 y3 i2 hjl rj zj HRW
          have i0 : t9.cell? ⟨w.heap.size, 0, none⟩ = some (.int .i64 op) := HS.out.i.cell 0
          have i1 : t9.cell? ⟨w.heap.size, 1, none⟩ = some (.int .i64 ty) := HS.out.i.cell 1
          have i2 : t9.cell? ⟨w.heap.size, 2, none⟩ = some (.int .i64 (j : Int)) := HS.out.i.cell 2
          have i3 : t9.cell? ⟨w.heap.size, 3, none⟩ = some (.slice (some ⟨b, off, none⟩) l.length c) := HS.out.i.cell 3
          have i4 : t9.cell? ⟨w.heap.size, 4, none⟩ = some (.int .i64 imm) := HS.out.i.cell 4
          have i5 : t9.cell? ⟨w.heap.size, 5, none⟩ = some (.int .i64 sym) := HS.out.i.cell 5
          have i6 : t9.cell? ⟨w.heap.size, 6, none⟩ = some (.int .i64 el) := HS.out.i.cell 6
          have i7 : t9.cell? ⟨w.heap.size, 7, none⟩ = some (.bool nw) := HS.out.i.cell 7
          have k0 : t9.cell? ⟨ga, 0, none⟩ = some (.string nm) := HG.out.cell 0
          have k1 : t9.cell? ⟨ga, 1, none⟩ = some (.slice PA pn pc) := HG.out.cell 1
          have k2 : t9.cell? ⟨ga, 2, none⟩ = some (.int .i64 res) := HG.out.cell 2
          have k3 : t9.cell? ⟨ga, 3, none⟩ = some (.slice (some ⟨gr, 0, none⟩) rl.length cap) := HG.out.cell 3
          have k4 : t9.cell? ⟨ga, 4, none⟩ = some (.slice BA bn bc) := HG.out.cell 4
          have m0 : t9.cell? ⟨w.heap.size + 2, 0, none⟩ = some (.slice GA gn gc) := HS.out.m.cell 0
          have m1 : t9.cell? ⟨w.heap.size + 2, 1, none⟩ = some (.slice FA fs.length fc) := HS.out.m.cell 1
          have HC3 := hide (check_any op ty j imm sym el (some ⟨b, off, none⟩) (some ⟨gr, 0, none⟩) GA FA c cap gn gc fc fs l (rl.set j t) (Nat.le_trans HLN.out (by decide)) nw (.string nm) (.slice PA pn pc) (.slice BA bn bc) res t9 (HIN.out.1.below HS.out.b) (HIN.out.2.1.below HS.out.b) (HIN.out.2.2.1.below' HS.out.b) HR9.out (HIN.out.2.2.2.2.below HS.out.b))
          have hne3 := HA.out.types (rl.set j t) (by
            rw [HDM.out, List.getD_eq_getElem?_getD, List.getElem?_set_self hj]
            have : (ty == t) = false := by
              have h := gtt
              simp only [bne, Bool.not_eq_true'] at h
              rw [beq_eq_false_iff_ne] at h ⊢
              exact fun e => h e.symm
            simp [this])
          obtain ⟨R3, hR3⟩ : ∃ x, checkA op ty j imm sym el nw l (rl.set j t) gn fs = x := ⟨_, rfl⟩
          rw [hR3] at HC3 hne3
          rw [List.length_set] at HC3
          have gR : (R3 != 0) = true := by simpa using hne3
          clear hR3 hne3 HR9
          go_wp2_with fail
          refine HC3.out.mono ?_
          rintro en t10 ⟨rfl, hb⟩
          replace HS := hide (HS.out.next hb)
          clear hb
          have i2 : t10.cell? ⟨w.heap.size, 2, none⟩ = some (.int .i64 (j : Int)) := HS.out.i.cell 2
          have k3 : t10.cell? ⟨w.heap.size + 1, 3, none⟩ = some (.slice RA rl.length rc) := HS.out.f.cell 3
          go_wp2_with fail
          go_ret
          exact ⟨rfl, HS.out.b⟩
  · have g0 : (R0 != 0) = true := by simpa using hz
    clear hz hR0
    go_wp2_with fail
    go_ret
    exact ⟨rfl, HS.out.b⟩
end Go.Proofs.YtjeinmccahbpgaaDoor

/-
  Layer 12 (opcode): destinationFits and immediateFits.
-/
import Derived.Test.YtnhaanjpcnnifaaDoorOpH
namespace Go.Proofs.YtnhaanjpcnnifaaDoor
open Go.RowKit

/-- The result is assigned where it may be. -/
def dstM (op ty dst : Int) (rl : List Int) : Bool := if dst = -1 then decide (ty = 0) || decide (op = 30) else (ty != 0) && (ty == rl.getD dst.toNat 0)
set_option maxRecDepth 100000 in
set_option maxHeartbeats 4000000 in
theorem dst_any (op ty dst imm sym el : Int) (A RA : Option Addr) (c rc : Nat) (l rl : List Int) (hin : dst = -1 ∨ 0 ≤ dst ∧ dst < rl.length) (nw : Bool) (v0 v1 v4 : Value) (res : Int) (w : World) (hr : Rd w .i64 (.slice RA rl.length rc) rl) :
    Calls Tryd.prog 63 #[.agg #[.int .i64 op, .int .i64 ty, .int .i64 dst, .slice A l.length c, .int .i64 imm, .int .i64 sym, .int .i64 el, .bool nw], .agg #[v0, v1, .int .i64 res, .slice RA rl.length rc, v4]] w fun e w' => e = .returned (.bool (dstM op ty dst rl)) ∧ Below w.heap.size w w' := by
  obtain ⟨w1, hw1⟩ : ∃ z, ((w).alloc (.cells #[.int .i64 op, .int .i64 ty, .int .i64 dst, .slice A l.length c, .int .i64 imm, .int .i64 sym, .int .i64 el, .bool nw] 78)).alloc (.cells #[v0, v1, .int .i64 res, .slice RA rl.length rc, v4] 28) = z := ⟨_, rfl⟩
  have hb : Below w.heap.size w w1 := by rw [← hw1]; exact (((Below.refl _ _).alloc (Nat.le_refl _) _).alloc (by simp [go_sem]) _)
  have HI : Hid (Whole w1 (w.heap.size) 78 #[.int .i64 op, .int .i64 ty, .int .i64 dst, .slice A l.length c, .int .i64 imm, .int .i64 sym, .int .i64 el, .bool nw]) := by show Whole _ _ _ _; rw [← hw1]; exact ((Whole.new w _ _).alloc (.cells #[v0, v1, .int .i64 res, .slice RA rl.length rc, v4] 28))
  have HF : Hid (Whole w1 (w.heap.size + 1) 28 #[v0, v1, .int .i64 res, .slice RA rl.length rc, v4]) := by show Whole _ _ _ _; rw [← hw1]; have h0 := (Whole.new ((w.alloc (.cells #[.int .i64 op, .int .i64 ty, .int .i64 dst, .slice A l.length c, .int .i64 imm, .int .i64 sym, .int .i64 el, .bool nw] 78))) 28 #[v0, v1, .int .i64 res, .slice RA rl.length rc, v4]); simpa [go_sem] using h0
  have HRL := hide (hr.below' hb)
  have HB := hide hb
  have i0 : w1.cell? ⟨w.heap.size, 0, none⟩ = some (.int .i64 op) := HI.out.cell 0
  have i1 : w1.cell? ⟨w.heap.size, 1, none⟩ = some (.int .i64 ty) := HI.out.cell 1
  have i2 : w1.cell? ⟨w.heap.size, 2, none⟩ = some (.int .i64 dst) := HI.out.cell 2
  have f3 : w1.cell? ⟨w.heap.size + 1, 3, none⟩ = some (.slice RA rl.length rc) := HF.out.cell 3
  clear hr
  rcases hin with hd | ⟨h0, h1⟩
  · have gd : (dst == -1) = true := by simpa using hd
    have hm : dstM op ty dst rl = (decide (ty = 0) || decide (op = 30)) := if_pos hd
    rw [hm]
    clear hm hd
    cases ht : decide (ty = 0) with
    | true =>
      have gt : (ty == 0) = true := by simpa using ht
      clear ht
      go_enter Tryd.func63, Tryd.ntmps63
      go_upto_region 1 with fail
      clear hb hw1
      go_wp2_with fail
      go_ret
      exact ⟨rfl, HB.out⟩
    | false =>
      have gt : (ty == 0) = false := by simpa using ht
      clear ht
      go_enter Tryd.func63, Tryd.ntmps63
      go_upto_region 1 with fail
      clear hb hw1
      go_wp2_with fail
      go_ret
      exact ⟨by first | (simp; done) | (simp; rfl), HB.out⟩
  · obtain ⟨j, rfl⟩ : ∃ j : Nat, dst = j := ⟨dst.toNat, by omega⟩
    have gd : ((j : Int) == -1) = false := by first | (simp; done) | (simp; omega)
    obtain ⟨y, hy⟩ : ∃ y, rl[j]? = some y := ⟨_, List.getElem?_eq_getElem (by omega)⟩
    have hm : dstM op ty j rl = ((ty != 0) && (ty == y)) := by
      unfold dstM
      rw [if_neg (by omega), Int.toNat_natCast, List.getD_eq_getElem?_getD, hy]; rfl
    rw [hm]
    obtain ⟨b2, off2, rfl, hc2⟩ := HRL.out.at (by omega)
    have hcell2 := hc2 j y hy
    clear hm hc2 HRL hy h0
    cases gt : (ty != 0) with
    | true =>
      go_enter Tryd.func63, Tryd.ntmps63
      go_upto_region 1 with fail
      clear hb hw1
      go_wp2_with fail
      go_quiet (fail)
      go_wp2_with fail
      go_ret
      exact ⟨by first | (simp; done) | (simp; rfl), Below.drewN' HB.out _⟩
    | false =>
      go_enter Tryd.func63, Tryd.ntmps63
      go_upto_region 1 with fail
      clear hb hw1
      go_wp2_with fail
      go_quiet (fail)
      go_wp2_with fail
      go_ret
      exact ⟨rfl, Below.drewN' HB.out _⟩
/-- The immediate is in range. -/
def immM (op ty imm a0 : Int) : Bool := if op = 1 then imm == wrapI ty imm else if op = 26 then decide (1 ≤ imm) && decide (imm ≤ 256) else if op = 33 then decide (0 ≤ imm) && decide (imm < accN a0) else true
set_option maxRecDepth 100000 in
set_option maxHeartbeats 4000000 in
theorem imm_any (op ty dst imm sym el : Int) (A RA : Option Addr) (c rc : Nat) (l rl : List Int) (hin : ∀ z ∈ l, 0 ≤ z ∧ z < rl.length) (hne : op = 33 → l ≠ []) (nw : Bool) (v0 v1 v4 : Value) (res : Int) (w : World) (hT : Tab w) (hl : Rd w .i64 (.slice A l.length c) l) (hr : Rd w .i64 (.slice RA rl.length rc) rl) :
    Calls Tryd.prog 65 #[.agg #[.int .i64 op, .int .i64 ty, .int .i64 dst, .slice A l.length c, .int .i64 imm, .int .i64 sym, .int .i64 el, .bool nw], .agg #[v0, v1, .int .i64 res, .slice RA rl.length rc, v4]] w fun e w' => e = .returned (.bool (immM op ty imm (rl.getD (l.headD 0).toNat 0))) ∧ Below w.heap.size w w' := by
  obtain ⟨w1, hw1⟩ : ∃ z, ((w).alloc (.cells #[.int .i64 op, .int .i64 ty, .int .i64 dst, .slice A l.length c, .int .i64 imm, .int .i64 sym, .int .i64 el, .bool nw] 78)).alloc (.cells #[v0, v1, .int .i64 res, .slice RA rl.length rc, v4] 28) = z := ⟨_, rfl⟩
  have hb : Below w.heap.size w w1 := by rw [← hw1]; exact (((Below.refl _ _).alloc (Nat.le_refl _) _).alloc (by simp [go_sem]) _)
  have HI : Hid (Whole w1 (w.heap.size) 78 #[.int .i64 op, .int .i64 ty, .int .i64 dst, .slice A l.length c, .int .i64 imm, .int .i64 sym, .int .i64 el, .bool nw]) := by show Whole _ _ _ _; rw [← hw1]; exact ((Whole.new w _ _).alloc (.cells #[v0, v1, .int .i64 res, .slice RA rl.length rc, v4] 28))
  have HF : Hid (Whole w1 (w.heap.size + 1) 28 #[v0, v1, .int .i64 res, .slice RA rl.length rc, v4]) := by show Whole _ _ _ _; rw [← hw1]; have h0 := (Whole.new ((w.alloc (.cells #[.int .i64 op, .int .i64 ty, .int .i64 dst, .slice A l.length c, .int .i64 imm, .int .i64 sym, .int .i64 el, .bool nw] 78))) 28 #[v0, v1, .int .i64 res, .slice RA rl.length rc, v4]); simpa [go_sem] using h0
  have HRL := hide (hr.below' hb)
  have HL := hide (hl.below' hb)
  have HT := hide (hT.below hb)
  have HB := hide hb
  have i0 : w1.cell? ⟨w.heap.size, 0, none⟩ = some (.int .i64 op) := HI.out.cell 0
  have i1 : w1.cell? ⟨w.heap.size, 1, none⟩ = some (.int .i64 ty) := HI.out.cell 1
  have i3 : w1.cell? ⟨w.heap.size, 3, none⟩ = some (.slice A l.length c) := HI.out.cell 3
  have i4 : w1.cell? ⟨w.heap.size, 4, none⟩ = some (.int .i64 imm) := HI.out.cell 4
  have f3 : w1.cell? ⟨w.heap.size + 1, 3, none⟩ = some (.slice RA rl.length rc) := HF.out.cell 3
  clear hr hl hT
  by_cases h1 : op = 1
  · have g1 : (op == 1) = true := by simpa using h1
    rw [show immM op ty imm (rl.getD (l.headD 0).toNat 0) = (imm == wrapI ty imm) from if_pos h1]
    obtain ⟨y, hy⟩ : ∃ y, wrapI ty imm = y := ⟨_, rfl⟩
    have HC := hide (fun W hT => (wrap_any ty imm W hT).mono (fun e w' h => h))
    rw [hy] at HC ⊢
    clear hy h1 hne
    go_enter Tryd.func65, Tryd.ntmps65
    go_upto_region 1 with fail
    clear hb hw1
    go_wp2_with fail
    go_quiet (first | (go_at_call 89; exact Calls.quiet_of_same ((HC.out _ (HT.out.below (Below.drewN' (Below.refl _ _) _))).mono fun _ _ ⟨e1, e2⟩ => ⟨e1, e2.symm⟩)))
    go_wp2_with fail
    go_ret
    exact ⟨rfl, Below.drewN' HB.out _⟩
  by_cases h26 : op = 26
  · have g1 : (op == 1) = false := by simpa using h1
    have g26 : (op == 26) = true := by simpa using h26
    rw [show immM op ty imm (rl.getD (l.headD 0).toNat 0) = (decide (1 ≤ imm) && decide (imm ≤ 256)) by unfold immM; rw [if_neg h1, if_pos h26]]
    clear h1 h26 hne
    cases ht : decide (1 ≤ imm) with
    | true =>
      go_enter Tryd.func65, Tryd.ntmps65
      go_upto_region 1 with fail
      clear hb hw1
      go_wp2_with fail
      go_ret
      exact ⟨by first | (simp; done) | (simp; rfl), HB.out⟩
    | false =>
      go_enter Tryd.func65, Tryd.ntmps65
      go_upto_region 1 with fail
      clear hb hw1
      go_wp2_with fail
      go_ret
      exact ⟨rfl, HB.out⟩
  have g1 : (op == 1) = false := by simpa using h1
  have g26 : (op == 26) = false := by simpa using h26
  by_cases h33 : op = 33
  · have g33 : (op == 33) = true := by simpa using h33
    obtain ⟨z, l', rfl⟩ : ∃ z l', l = z :: l' := by
      cases l with
      | nil => exact absurd rfl (hne h33)
      | cons z l' => exact ⟨z, l', rfl⟩
    obtain ⟨hz0, hz1⟩ := hin z (by simp)
    obtain ⟨j, rfl⟩ : ∃ j : Nat, z = j := ⟨z.toNat, by omega⟩
    obtain ⟨y, hy⟩ : ∃ y, rl[j]? = some y := ⟨_, List.getElem?_eq_getElem (by omega)⟩
    rw [show immM op ty imm (rl.getD (((j : Int) :: l').headD 0).toNat 0) = (decide (0 ≤ imm) && decide (imm < accN y)) by
      unfold immM; rw [if_neg h1, if_neg h26, if_pos h33]; simp [List.getD_eq_getElem?_getD, hy]]
    obtain ⟨b, off, rfl, hc⟩ := HL.out.at (by simp)
    have hcell : w1.cell? ⟨b, off, none⟩ = some (.int .i64 (j : Int)) := hc 0 _ rfl
    obtain ⟨b2, off2, rfl, hc2⟩ := HRL.out.at (by omega)
    have hcell2 := hc2 j y hy
    have hn : ((j : Int) :: l').length = l'.length + 1 := rfl
    rw [hn] at i3 hw1 ⊢
    clear h1 h26 h33 hne hc hc2 HL HRL hy hin hz0 hn
    cases ht : decide (0 ≤ imm) with
    | true =>
      go_enter Tryd.func65, Tryd.ntmps65
      go_upto_region 1 with fail
      clear hb hw1
      go_wp2_with fail
      go_quiet (first | (go_at_call 90; exact Calls.quiet_of_same ((acc_any y _).mono fun _ _ ⟨e1, e2⟩ => ⟨e1, e2.symm⟩)))
      go_wp2_with fail
      go_ret
      exact ⟨by first | (simp; done) | (simp; rfl), Below.drewN' HB.out _⟩
    | false =>
      go_enter Tryd.func65, Tryd.ntmps65
      go_upto_region 1 with fail
      clear hb hw1
      go_wp2_with fail
      go_quiet (first | (go_at_call 90; exact Calls.quiet_of_same ((acc_any y _).mono fun _ _ ⟨e1, e2⟩ => ⟨e1, e2.symm⟩)))
      go_wp2_with fail
      go_ret
      exact ⟨rfl, Below.drewN' HB.out _⟩
  have g33 : (op == 33) = false := by simpa using h33
  rw [show immM op ty imm (rl.getD (l.headD 0).toNat 0) = true by unfold immM; rw [if_neg h1, if_neg h26, if_neg h33]]
  clear h1 h26 h33 hne
  go_enter Tryd.func65, Tryd.ntmps65
  go_upto_region 1 with fail
  clear hb hw1
  go_wp2_with fail
  go_ret
  exact ⟨rfl, HB.out⟩
end Go.Proofs.YtnhaanjpcnnifaaDoor

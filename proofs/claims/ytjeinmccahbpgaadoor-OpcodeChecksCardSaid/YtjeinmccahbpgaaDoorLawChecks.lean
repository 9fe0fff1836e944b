/-
  OpcodeChecks, layer 12 (opcode): Check and the reference's answer the same.
-/
import Derived.Deep.RegionHeld3
import Derived.Test.YtjeinmccahbpgaaDoorRfF
import Derived.Test.YtjeinmccahbpgaaDoorOpN
namespace Go.Proofs.YtjeinmccahbpgaaDoor
open Go.RowKit

set_option maxRecDepth 100000 in
set_option maxHeartbeats 16000000 in
theorem checks_law (op ty dst imm sym el : Int) (A RA GA FA PA BA : Option Addr) (c rc gn gc fc pn pc bn bc : Nat) (fs : List FD) (hsh : ∀ d ∈ fs, Shp d) (l rl : List Int) (nw : Bool) (nm : ByteArray) (res : Int) (w : World) (hT : Tab w) (hO : OpTab w)
    (hl : Rd w .i64 (.slice A l.length c) l) (hr : Rd w .i64 (.slice RA rl.length rc) rl) (hF : FnsAt w FA fs) :
    Calls Tryd.prog 10 #[.agg #[.int .i64 op, .int .i64 ty, .int .i64 dst, .slice A l.length c, .int .i64 imm, .int .i64 sym, .int .i64 el, .bool nw], .agg #[.string nm, .slice PA pn pc, .int .i64 res, .slice RA rl.length rc, .slice BA bn bc], .agg #[.slice GA gn gc, .slice FA fs.length fc]] w fun e w' => e = .returned (.bool true) ∧ Below w.heap.size w w' := by
  obtain ⟨w1, hw1⟩ : ∃ z, ((w.alloc (.cells #[.int .i64 op, .int .i64 ty, .int .i64 dst, .slice A l.length c, .int .i64 imm, .int .i64 sym, .int .i64 el, .bool nw] 38)).alloc (.cells #[.string nm, .slice PA pn pc, .int .i64 res, .slice RA rl.length rc, .slice BA bn bc] 60)).alloc (.cells #[.slice GA gn gc, .slice FA fs.length fc] 64) = z := ⟨_, rfl⟩
  have HS : Hid (ChkS w w1 #[.int .i64 op, .int .i64 ty, .int .i64 dst, .slice A l.length c, .int .i64 imm, .int .i64 sym, .int .i64 el, .bool nw] #[.string nm, .slice PA pn pc, .int .i64 res, .slice RA rl.length rc, .slice BA bn bc] #[.slice GA gn gc, .slice FA fs.length fc] (.slice A l.length c) (.slice RA rl.length rc) l rl) := hide (by rw [← hw1]; exact ChkS.new w _ _ _ hT hO hl hr)
  have HF : Hid (FnsAt w1 FA fs) := hide (hF.below HS.out.b)
  have HSH := hide hsh
  clear hT hO hl hr hF hsh
  have i3 : w1.cell? ⟨w.heap.size, 3, none⟩ = some (.slice A l.length c) := HS.out.i.cell 3
  by_cases hm : 50 < l.length
  · have g0 : decide ((50 : Int) < (l.length : Int)) = true := by simp; omega
    have g1 : decide (50 < l.length) = true := by simp; omega
    clear hm
    go_enter Tryd.func10, Tryd.ntmps10
    go_upto_region 1 with fail
    clear hw1
    go_wp2_with fail
    refine (awake_any _ HS.out.t HS.out.o).mono ?_
    rintro en w2 ⟨rfl, hb⟩
    go_wp2_with fail
    go_ret
    exact ⟨rfl, (HS.out.next hb).b⟩
  · have g0 : decide ((50 : Int) < (l.length : Int)) = false := by simp; omega
    have g1 : decide (50 < l.length) = false := by simp; omega
    have hm' : l.length ≤ 50 := by omega
    have HM := hide hm'
    clear hm hm'
    have hq : (checkA op ty dst imm sym el nw l rl gn fs == checkA op ty dst imm sym el nw l rl gn fs) = true := by simp
    go_enter Tryd.func10, Tryd.ntmps10
    go_upto_region 1 with fail
    clear hw1
    go_upto_region 3 with fail
    clear i3
    replace HS := hide (HS.out.next ((Below.refl _ _).drew))
    replace HF := hide (HF.out.below ((Below.refl _ _).drew))
    go_region_held3 (fun w' => w'.cell? ⟨w.heap.size, 0, none⟩ = some (.int .i64 op) ∧ w'.cell? ⟨w.heap.size, 1, none⟩ = some (.int .i64 ty) ∧ w'.cell? ⟨w.heap.size, 2, none⟩ = some (.int .i64 dst) ∧ w'.cell? ⟨w.heap.size, 3, none⟩ = some (.slice A l.length c) ∧ w'.cell? ⟨w.heap.size, 4, none⟩ = some (.int .i64 imm) ∧ w'.cell? ⟨w.heap.size, 5, none⟩ = some (.int .i64 sym) ∧ w'.cell? ⟨w.heap.size, 6, none⟩ = some (.int .i64 el) ∧ w'.cell? ⟨w.heap.size, 7, none⟩ = some (.bool nw) ∧ w'.cell? ⟨w.heap.size + 1, 0, none⟩ = some (.string nm) ∧ w'.cell? ⟨w.heap.size + 1, 1, none⟩ = some (.slice PA pn pc) ∧ w'.cell? ⟨w.heap.size + 1, 2, none⟩ = some (.int .i64 res) ∧ w'.cell? ⟨w.heap.size + 1, 3, none⟩ = some (.slice RA rl.length rc) ∧ w'.cell? ⟨w.heap.size + 1, 4, none⟩ = some (.slice BA bn bc) ∧ w'.cell? ⟨w.heap.size + 2, 0, none⟩ = some (.slice GA gn gc) ∧ w'.cell? ⟨w.heap.size + 2, 1, none⟩ = some (.slice FA fs.length fc)) (exact ⟨HS.out.i.cell 0, HS.out.i.cell 1, HS.out.i.cell 2, HS.out.i.cell 3, HS.out.i.cell 4, HS.out.i.cell 5, HS.out.i.cell 6, HS.out.i.cell 7, HS.out.f.cell 0, HS.out.f.cell 1, HS.out.f.cell 2, HS.out.f.cell 3, HS.out.f.cell 4, HS.out.m.cell 0, HS.out.m.cell 1⟩) (first | (go_at_call 49; refine (check_any op ty dst imm sym el A RA GA FA c rc gn gc fc fs l rl (Nat.le_trans HM.out (by decide)) nw _ _ _ res _ HS.out.t HS.out.o HS.out.l HS.out.r HF.out).mono ?_; rintro en w2 ⟨rfl, hb⟩; replace HS := hide (HS.out.next hb); replace HF := hide (HF.out.below hb); clear hb) | (go_at_call 50; refine (rcheck_any op ty dst imm sym el A RA GA FA c rc gn gc fc fs HSH.out l rl HM.out nw _ _ _ res _ HS.out.t HS.out.o HS.out.l HS.out.r HF.out).mono ?_; rintro en w2 ⟨rfl, hb⟩; replace HS := hide (HS.out.next hb); replace HF := hide (HF.out.below hb); clear hb) | (go_at_call 48; refine (awake_any _ HS.out.t HS.out.o).mono ?_; rintro en w2 ⟨rfl, hb⟩; replace HS := hide (HS.out.next hb); replace HF := hide (HF.out.below hb); clear hb))
    go_wp2_with fail
    go_ret
    exact ⟨rfl, HS.out.b⟩
end Go.Proofs.YtjeinmccahbpgaaDoor

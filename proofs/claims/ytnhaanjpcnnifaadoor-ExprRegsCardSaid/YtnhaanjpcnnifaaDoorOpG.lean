/-
  Layer 12 (opcode): calls and packs, registers, the result, the immediate.
-/
import Derived.Test.YtnhaanjpcnnifaaDoorOpF
namespace Go.Proofs.YtnhaanjpcnnifaaDoor
open Go.RowKit

set_option maxRecDepth 100000 in
theorem count_pack (ty dst imm sym el : Int) (A GA FA : Option Addr) (n c gn gc fn fc : Nat) (nw : Bool) (w : World) : Calls Tryd.prog 60 #[.agg #[.int .i64 32, .int .i64 ty, .int .i64 dst, .slice A n c, .int .i64 imm, .int .i64 sym, .int .i64 el, .bool nw], .agg #[.slice GA gn gc, .slice FA fn fc]] w fun e w' => e = .returned (.bool (decide (n = 2 ∨ n = 4))) ∧ Below w.heap.size w w' := by
  obtain ⟨w1, hw1⟩ : ∃ z, ((w).alloc (.cells #[.int .i64 32, .int .i64 ty, .int .i64 dst, .slice A n c, .int .i64 imm, .int .i64 sym, .int .i64 el, .bool nw] 78)).alloc (.cells #[.slice GA gn gc, .slice FA fn fc] 32) = z := ⟨_, rfl⟩
  have hb : Below w.heap.size w w1 := by rw [← hw1]; exact (((Below.refl _ _).alloc (Nat.le_refl _) _).alloc (by simp [go_sem]) _)
  have HI : Hid (Whole w1 (w.heap.size) 78 #[.int .i64 32, .int .i64 ty, .int .i64 dst, .slice A n c, .int .i64 imm, .int .i64 sym, .int .i64 el, .bool nw]) := by show Whole _ _ _ _; rw [← hw1]; exact ((Whole.new w _ _).alloc (.cells #[.slice GA gn gc, .slice FA fn fc] 32))
  have HM : Hid (Whole w1 (w.heap.size + 1) 32 #[.slice GA gn gc, .slice FA fn fc]) := by show Whole _ _ _ _; rw [← hw1]; have h0 := (Whole.new ((w.alloc (.cells #[.int .i64 32, .int .i64 ty, .int .i64 dst, .slice A n c, .int .i64 imm, .int .i64 sym, .int .i64 el, .bool nw] 78))) 32 #[.slice GA gn gc, .slice FA fn fc]); simpa [go_sem] using h0
  have i0 : w1.cell? ⟨w.heap.size, 0, none⟩ = some (.int .i64 32) := HI.out.cell 0
  have i3 : w1.cell? ⟨w.heap.size, 3, none⟩ = some (.slice A n c) := HI.out.cell 3
  have HB := hide hb
  by_cases h2 : n = 2
  · have g2 : ((n : Int) == 2) = true := by simp; omega
    have H2 := hide h2
    clear h2
    go_enter Tryd.func60, Tryd.ntmps60
    go_upto_region 1 with fail
    clear hb hw1
    go_wp2_with fail
    go_ret
    exact ⟨by simp [H2.out], HB.out⟩
  · have g2 : ((n : Int) == 2) = false := by simp; omega
    have H2 := hide h2
    clear h2
    go_enter Tryd.func60, Tryd.ntmps60
    go_upto_region 1 with fail
    clear hb hw1
    go_wp2_with fail
    go_ret
    have h2 := H2.out
    have hfin : ((n : Int) == 4) = decide (n = 2 ∨ n = 4) := by rw [Bool.eq_iff_iff]; simp; omega
    exact ⟨by rw [← hfin]; rfl, HB.out⟩
set_option maxRecDepth 100000 in
theorem count_call (ty dst imm el : Int) (A GA PA : Option Addr) (n c gn gc fb fo fn fc s pn pc : Nat) (nw : Bool) (hs : s < fn) (w : World) (hF : w.cell? ⟨fb, fo + s * 5 + 1, none⟩ = some (.slice PA pn pc)) :
    Calls Tryd.prog 60 #[.agg #[.int .i64 30, .int .i64 ty, .int .i64 dst, .slice A n c, .int .i64 imm, .int .i64 (s : Int), .int .i64 el, .bool nw], .agg #[.slice GA gn gc, .slice (some ⟨fb, fo, none⟩) fn fc]] w fun e w' => e = .returned (.bool (decide (n = pn))) ∧ Below w.heap.size w w' := by
  obtain ⟨w1, hw1⟩ : ∃ z, ((w).alloc (.cells #[.int .i64 30, .int .i64 ty, .int .i64 dst, .slice A n c, .int .i64 imm, .int .i64 (s : Int), .int .i64 el, .bool nw] 78)).alloc (.cells #[.slice GA gn gc, .slice (some ⟨fb, fo, none⟩) fn fc] 32) = z := ⟨_, rfl⟩
  have hb : Below w.heap.size w w1 := by rw [← hw1]; exact (((Below.refl _ _).alloc (Nat.le_refl _) _).alloc (by simp [go_sem]) _)
  have HI : Hid (Whole w1 (w.heap.size) 78 #[.int .i64 30, .int .i64 ty, .int .i64 dst, .slice A n c, .int .i64 imm, .int .i64 (s : Int), .int .i64 el, .bool nw]) := by show Whole _ _ _ _; rw [← hw1]; exact ((Whole.new w _ _).alloc (.cells #[.slice GA gn gc, .slice (some ⟨fb, fo, none⟩) fn fc] 32))
  have HM : Hid (Whole w1 (w.heap.size + 1) 32 #[.slice GA gn gc, .slice (some ⟨fb, fo, none⟩) fn fc]) := by show Whole _ _ _ _; rw [← hw1]; have h0 := (Whole.new ((w.alloc (.cells #[.int .i64 30, .int .i64 ty, .int .i64 dst, .slice A n c, .int .i64 imm, .int .i64 (s : Int), .int .i64 el, .bool nw] 78))) 32 #[.slice GA gn gc, .slice (some ⟨fb, fo, none⟩) fn fc]); simpa [go_sem] using h0
  have i0 : w1.cell? ⟨w.heap.size, 0, none⟩ = some (.int .i64 30) := HI.out.cell 0
  have i3 : w1.cell? ⟨w.heap.size, 3, none⟩ = some (.slice A n c) := HI.out.cell 3
  have i5 : w1.cell? ⟨w.heap.size, 5, none⟩ = some (.int .i64 (s : Int)) := HI.out.cell 5
  have m1 : w1.cell? ⟨w.heap.size + 1, 1, none⟩ = some (.slice (some ⟨fb, fo, none⟩) fn fc) := HM.out.cell 1
  have hF1 := cell_below hb hF
  have HB := hide hb
  go_enter Tryd.func60, Tryd.ntmps60
  go_upto_region 1 with fail
  clear hb hw1 hF
  go_wp2_with fail
  go_ret
  have hfin : ((n : Int) == (pn : Int)) = decide (n = pn) := by rw [Bool.eq_iff_iff]; simp; omega
  exact ⟨by rw [← hfin]; rfl, HB.out⟩
/-- The arguments are registers, and so is the result or there is none. -/
def regsM (l : List Int) (dst : Int) (rn : Nat) : Bool := l.all (fun r => decide (0 ≤ r ∧ r < rn)) && (decide (dst = -1) || decide (0 ≤ dst ∧ dst < rn))
set_option maxRecDepth 100000 in
set_option maxHeartbeats 4000000 in
theorem regs_any (op ty dst imm sym el : Int) (A RA : Option Addr) (c rn rc : Nat) (l : List Int) (hm : l.length ≤ 1000000) (nw : Bool) (v0 v1 v4 : Value) (res : Int) (w : World) (hl : Rd w .i64 (.slice A l.length c) l) :
    Calls Tryd.prog 61 #[.agg #[.int .i64 op, .int .i64 ty, .int .i64 dst, .slice A l.length c, .int .i64 imm, .int .i64 sym, .int .i64 el, .bool nw], .agg #[v0, v1, .int .i64 res, .slice RA rn rc, v4]] w fun e w' => e = .returned (.bool (regsM l dst rn)) ∧ Below w.heap.size w w' := by
  obtain ⟨w1, hw1⟩ : ∃ z, ((w).alloc (.cells #[.int .i64 op, .int .i64 ty, .int .i64 dst, .slice A l.length c, .int .i64 imm, .int .i64 sym, .int .i64 el, .bool nw] 78)).alloc (.cells #[v0, v1, .int .i64 res, .slice RA rn rc, v4] 28) = z := ⟨_, rfl⟩
  have hb : Below w.heap.size w w1 := by rw [← hw1]; exact (((Below.refl _ _).alloc (Nat.le_refl _) _).alloc (by simp [go_sem]) _)
  have HI : Hid (Whole w1 (w.heap.size) 78 #[.int .i64 op, .int .i64 ty, .int .i64 dst, .slice A l.length c, .int .i64 imm, .int .i64 sym, .int .i64 el, .bool nw]) := by show Whole _ _ _ _; rw [← hw1]; exact ((Whole.new w _ _).alloc (.cells #[v0, v1, .int .i64 res, .slice RA rn rc, v4] 28))
  have HF : Hid (Whole w1 (w.heap.size + 1) 28 #[v0, v1, .int .i64 res, .slice RA rn rc, v4]) := by show Whole _ _ _ _; rw [← hw1]; have h0 := (Whole.new ((w.alloc (.cells #[.int .i64 op, .int .i64 ty, .int .i64 dst, .slice A l.length c, .int .i64 imm, .int .i64 sym, .int .i64 el, .bool nw] 78))) 28 #[v0, v1, .int .i64 res, .slice RA rn rc, v4]); simpa [go_sem] using h0
  have HL := hide (hl.below' hb)
  have HB := hide hb
  obtain ⟨R, hR⟩ : ∃ R, regsM l dst rn = R := ⟨_, rfl⟩
  rw [hR]
  have HR := hide hR
  clear hR hl
  have i3 : w1.cell? ⟨w.heap.size, 3, none⟩ = some (.slice A l.length c) := HI.out.cell 3
  have i2 : w1.cell? ⟨w.heap.size, 2, none⟩ = some (.int .i64 dst) := HI.out.cell 2
  go_enter Tryd.func61, Tryd.ntmps61
  go_upto_region 1 with fail
  clear hb hw1
  go_wp2_with fail
  have HIF := hide (And.intro HI.out HF.out)
  clear HI HF i3 i2
  go_loopw [10] (fun v W => ∃ k : Nat, v = .int .i64 (k : Int) ∧ k ≤ l.length ∧ Below w1.heap.size w1 W ∧ ∀ z ∈ l.take k, 0 ≤ z ∧ z < rn) (fun v _ => l.length - (intOf v).toNat)
  case atStart => exact ⟨0, rfl, by omega, Below.refl _ _, by simp⟩
  case round =>
    obtain ⟨k, rfl, hk, hbk, hI⟩ := hrel
    rename_i wr _
    have HL2 := hide (HL.out.below' hbk)
    have HF := hide (HIF.out.2.below' hbk)
    have HI := hide (HIF.out.1.below' hbk)
    have HB2 := hide (Below.all HB.out hbk)
    have HBK := hide hbk
    clear hbk HL HIF HB
    have f0 : wr.cell? ⟨w.heap.size + 1, 0, none⟩ = some (v0) := HF.out.cell 0
    have f1 : wr.cell? ⟨w.heap.size + 1, 1, none⟩ = some (v1) := HF.out.cell 1
    have f2 : wr.cell? ⟨w.heap.size + 1, 2, none⟩ = some (.int .i64 res) := HF.out.cell 2
    have f3 : wr.cell? ⟨w.heap.size + 1, 3, none⟩ = some (.slice RA rn rc) := HF.out.cell 3
    have f4 : wr.cell? ⟨w.heap.size + 1, 4, none⟩ = some (v4) := HF.out.cell 4
    rcases Nat.lt_or_ge k l.length with hlt | hge
    · obtain ⟨z, hz⟩ : ∃ z, l[k]? = some z := ⟨_, List.getElem?_eq_getElem hlt⟩
      obtain ⟨b, off, rfl, hc⟩ := HL2.out.at (by omega)
      have hcell := hc k z hz
      clear hc HL2
      have htake : l.take (k + 1) = l.take k ++ [z] := by rw [List.take_add_one, hz]; rfl
      cases hh : decide (0 ≤ z ∧ z < rn) with
      | true =>
        have hnext : ∀ y ∈ l.take (k + 1), 0 ≤ y ∧ y < rn := fun y hy => by
          rw [htake] at hy
          rcases List.mem_append.1 hy with h | h
          · exact hI y h
          · simp at h; subst h; simpa using hh
        clear hI htake hz
        go_wp2_with fail
        refine (isreg_any z _ _ _ _ _ _ _ _).mono ?_
        rintro en wn ⟨rfl, hn⟩
        have HN := hide (Below.all HBK.out hn)
        rw [hh]
        clear hn
        go_wp2_with fail
        go_roundw
        case rel => exact ⟨k + 1, by go_num, by omega, HN.out, hnext⟩
        case measure => simp [intOf]; omega
      | false =>
        have hres : regsM l dst rn = false := by
          simp only [regsM, Bool.and_eq_false_iff, List.all_eq_false]
          exact .inl ⟨z, List.mem_of_getElem? hz, by simpa using hh⟩
        obtain rfl := hres.symm.trans HR.out
        clear hI htake hz hres
        go_wp2_with fail
        refine (isreg_any z _ _ _ _ _ _ _ _).mono ?_
        rintro en wn ⟨rfl, hn⟩
        have HN := hide (Below.all HB2.out hn)
        rw [hh]
        clear hn
        go_wp2_with fail
        go_ret
        exact ⟨rfl, HN.out⟩
    · have hall : l.all (fun r => decide (0 ≤ r ∧ r < rn)) = true := by
        rw [List.take_of_length_le (by omega)] at hI
        rw [List.all_eq_true]
        exact fun y hy => by simpa using hI y hy
      have i2 : wr.cell? ⟨w.heap.size, 2, none⟩ = some (.int .i64 dst) := HI.out.cell 2
      have hres : (decide (dst = -1) || decide (0 ≤ dst ∧ dst < rn)) = R := by have := HR.out; unfold regsM at this; rw [hall] at this; simpa using this
      clear hI hall HR
      by_cases hd : dst = -1
      · have gd : (dst == -1) = true := by simpa using hd
        have hr1 : true = R := by rw [← hres]; simp [hd]
        subst hr1
        have HD := hide hd
        clear hd hres
        go_wp2_with fail
        go_ret
        exact ⟨rfl, HB2.out⟩
      · have gd : (dst == -1) = false := by simpa using hd
        have hr1 : decide (0 ≤ dst ∧ dst < rn) = R := by rw [← hres]; simp [hd]
        clear hd hres
        go_wp2_with fail
        refine (isreg_any dst _ _ _ _ _ _ _ _).mono ?_
        rintro en wn ⟨rfl, hn⟩
        have HN := hide (Below.all HB2.out hn)
        rw [hr1]
        clear hn
        go_wp2_with fail
        go_ret
        exact ⟨rfl, HN.out⟩
end Go.Proofs.YtnhaanjpcnnifaaDoor

/-
  Layer 12 (opcode): Check of the reference, for a call; then for every instruction.
-/
import Derived.Test.YtnhaanjpcnnifaaDoorRfE
import Derived.Test.YtnhaanjpcnnifaaDoorRfK
namespace Go.Proofs.YtnhaanjpcnnifaaDoor
open Go.RowKit

theorem stray_30 (imm sym el : Int) (nw : Bool) : strayM 30 imm sym el nw = (nw || (imm != 0) || (el != 0)) := by
  unfold strayM
  cases nw <;> cases h : (imm != 0) <;> cases h2 : (el != 0) <;> cases h3 : (sym != 0) <;> simp_all
set_option maxRecDepth 100000 in
set_option maxHeartbeats 16000000 in
theorem rcheck_nosym (ty dst imm sym el : Int) (A RA GA FA : Option Addr) (c rc gn gc fn fc : Nat) (hs : ¬ (0 ≤ sym ∧ sym < fn)) (l rl : List Int) (nw : Bool) (v0 v1 v4 : Value) (res : Int) (w : World) (hT : Tab w) (hO : OpTab w) (hl : Rd w .i64 (.slice A l.length c) l) (hr : Rd w .i64 (.slice RA rl.length rc) rl) :
    Calls Tryd.prog 46 #[.agg #[.int .i64 30, .int .i64 ty, .int .i64 dst, .slice A l.length c, .int .i64 imm, .int .i64 sym, .int .i64 el, .bool nw], .agg #[v0, v1, .int .i64 res, .slice RA rl.length rc, v4], .agg #[.slice GA gn gc, .slice FA fn fc]] w fun e w' => e = .returned (.int .i64 (if strayM 30 imm sym el nw then 3 else 8)) ∧ Below w.heap.size w w' := by
  obtain ⟨w1, hw1⟩ : ∃ z, ((w.alloc (.cells #[.int .i64 30, .int .i64 ty, .int .i64 dst, .slice A l.length c, .int .i64 imm, .int .i64 sym, .int .i64 el, .bool nw] 78)).alloc (.cells #[v0, v1, .int .i64 res, .slice RA rl.length rc, v4] 28)).alloc (.cells #[.slice GA gn gc, .slice FA fn fc] 32) = z := ⟨_, rfl⟩
  have HS : Hid (ChkS w w1 #[.int .i64 30, .int .i64 ty, .int .i64 dst, .slice A l.length c, .int .i64 imm, .int .i64 sym, .int .i64 el, .bool nw] #[v0, v1, .int .i64 res, .slice RA rl.length rc, v4] #[.slice GA gn gc, .slice FA fn fc] (.slice A l.length c) (.slice RA rl.length rc) l rl) := hide (by rw [← hw1]; exact ChkS.new w _ _ _ hT hO hl hr)
  have m0 : w1.cell? ⟨w.heap.size + 2, 0, none⟩ = some (.slice GA gn gc) := HS.out.m.cell 0
  have m1 : w1.cell? ⟨w.heap.size + 2, 1, none⟩ = some (.slice FA fn fc) := HS.out.m.cell 1
  have HST := hide (stray_30 imm sym el nw)
  clear hT hO hl hr
  have i0 : w1.cell? ⟨w.heap.size, 0, none⟩ = some (.int .i64 30) := HS.out.i.cell 0
  have i1 : w1.cell? ⟨w.heap.size, 1, none⟩ = some (.int .i64 ty) := HS.out.i.cell 1
  have i2 : w1.cell? ⟨w.heap.size, 2, none⟩ = some (.int .i64 dst) := HS.out.i.cell 2
  have i3 : w1.cell? ⟨w.heap.size, 3, none⟩ = some (.slice A l.length c) := HS.out.i.cell 3
  have i4 : w1.cell? ⟨w.heap.size, 4, none⟩ = some (.int .i64 imm) := HS.out.i.cell 4
  have i5 : w1.cell? ⟨w.heap.size, 5, none⟩ = some (.int .i64 sym) := HS.out.i.cell 5
  have i6 : w1.cell? ⟨w.heap.size, 6, none⟩ = some (.int .i64 el) := HS.out.i.cell 6
  have i7 : w1.cell? ⟨w.heap.size, 7, none⟩ = some (.bool nw) := HS.out.i.cell 7
  go_enter Tryd.func46, Tryd.ntmps46
  go_upto_region 4 with fail
  clear hw1
  go_cut [0, 87] from 400 (fun a v wx => a = .agg #[.int .i64 30, .int .i64 ty, .int .i64 dst, .slice A l.length c, .int .i64 imm, .int .i64 sym, .int .i64 el, .bool nw] ∧ v = .bool (strayM 30 imm sym el nw) ∧ wx = w1)
  case first =>
    go_wp2_with fail
    all_goals
      go_meet
      case rel => exact ⟨by first | rfl | simp_all, by rw [HST.out]; simp_all, rfl⟩
  case rest =>
    obtain ⟨rfl, rfl, rfl⟩ := hcut
    cases e2 : strayM 30 imm sym el nw with
    | true =>
      go_wp2_with fail
      all_goals (go_ret; exact ⟨by first | rfl | (simp; rfl), HS.out.b⟩)
    | false =>
      cases s0 : decide (sym < 0) with
      | true =>
        clear hs
        go_wp2_with fail
        all_goals (go_ret; exact ⟨by first | rfl | (simp; rfl), HS.out.b⟩)
      | false =>
        have s2 : decide ((fn : Int) ≤ sym) = true := by simp at s0 ⊢; omega
        clear hs
        go_wp2_with fail
        all_goals (go_ret; exact ⟨by first | rfl | (simp; rfl), HS.out.b⟩)
set_option maxRecDepth 100000 in
set_option maxHeartbeats 16000000 in
theorem rcheck_call (ty dst imm el : Int) (A RA GA : Option Addr) (c rc gn gc fb fo fn fc s : Nat) (d : FD) (hs : s < fn) (hsh : Shp d) (l rl : List Int) (hm : l.length ≤ 50) (nw : Bool) (v0 v1 v4 : Value) (res : Int) (w : World) (hT : Tab w) (hO : OpTab w) (hl : Rd w .i64 (.slice A l.length c) l) (hr : Rd w .i64 (.slice RA rl.length rc) rl) (hF : FnAt w fb (fo + s * 5) d) :
    Calls Tryd.prog 46 #[.agg #[.int .i64 30, .int .i64 ty, .int .i64 dst, .slice A l.length c, .int .i64 imm, .int .i64 (s : Int), .int .i64 el, .bool nw], .agg #[v0, v1, .int .i64 res, .slice RA rl.length rc, v4], .agg #[.slice GA gn gc, .slice (some ⟨fb, fo, none⟩) fn fc]] w fun e w' => e = .returned (.int .i64 (checkC ty dst imm el nw l rl s gn fn d)) ∧ Below w.heap.size w w' := by
  obtain ⟨w1, hw1⟩ : ∃ z, ((w.alloc (.cells #[.int .i64 30, .int .i64 ty, .int .i64 dst, .slice A l.length c, .int .i64 imm, .int .i64 (s : Int), .int .i64 el, .bool nw] 78)).alloc (.cells #[v0, v1, .int .i64 res, .slice RA rl.length rc, v4] 28)).alloc (.cells #[.slice GA gn gc, .slice (some ⟨fb, fo, none⟩) fn fc] 32) = z := ⟨_, rfl⟩
  have HS : Hid (ChkS w w1 #[.int .i64 30, .int .i64 ty, .int .i64 dst, .slice A l.length c, .int .i64 imm, .int .i64 (s : Int), .int .i64 el, .bool nw] #[v0, v1, .int .i64 res, .slice RA rl.length rc, v4] #[.slice GA gn gc, .slice (some ⟨fb, fo, none⟩) fn fc] (.slice A l.length c) (.slice RA rl.length rc) l rl) := hide (by rw [← hw1]; exact ChkS.new w _ _ _ hT hO hl hr)
  have m0 : w1.cell? ⟨w.heap.size + 2, 0, none⟩ = some (.slice GA gn gc) := HS.out.m.cell 0
  have m1 : w1.cell? ⟨w.heap.size + 2, 1, none⟩ = some (.slice (some ⟨fb, fo, none⟩) fn fc) := HS.out.m.cell 1
  have HST := hide (stray_30 imm (s : Int) el nw)
  have HF : Hid (FnAt w1 fb (fo + s * 5) d) := hide (hF.below HS.out.b)
  have hsy : symM 30 (s : Int) gn fn = true := by first | (simp [symM]; done) | (simp [symM]; omega)
  have HCK : Hid (checkC ty dst imm el nw l rl s gn fn d = (if strayM 30 imm (s : Int) el nw = true then 3 else if decide (l.length = d.pl.length) = false then 3 else if regsM l dst rl.length = false then 10 else if callM ty d.res l rl d.pl d.cl = false then 9 else if dstM 30 ty dst rl = false then 9 else 0)) := hide (by unfold checkC chkM; rw [hsy]; rfl)
  have HSH := hide hsh
  have s0 : decide ((s : Int) < 0) = false := by simp
  have s1 : decide ((fn : Int) ≤ (s : Int)) = false := by simp; omega
  have s2 : decide (fn ≤ s) = false := by simp; omega
  have HHS := hide hs
  clear hT hO hl hr hF hsy hsh hs
  have i0 : w1.cell? ⟨w.heap.size, 0, none⟩ = some (.int .i64 30) := HS.out.i.cell 0
  have i1 : w1.cell? ⟨w.heap.size, 1, none⟩ = some (.int .i64 ty) := HS.out.i.cell 1
  have i2 : w1.cell? ⟨w.heap.size, 2, none⟩ = some (.int .i64 dst) := HS.out.i.cell 2
  have i3 : w1.cell? ⟨w.heap.size, 3, none⟩ = some (.slice A l.length c) := HS.out.i.cell 3
  have i4 : w1.cell? ⟨w.heap.size, 4, none⟩ = some (.int .i64 imm) := HS.out.i.cell 4
  have i5 : w1.cell? ⟨w.heap.size, 5, none⟩ = some (.int .i64 (s : Int)) := HS.out.i.cell 5
  have i6 : w1.cell? ⟨w.heap.size, 6, none⟩ = some (.int .i64 el) := HS.out.i.cell 6
  have i7 : w1.cell? ⟨w.heap.size, 7, none⟩ = some (.bool nw) := HS.out.i.cell 7
  go_enter Tryd.func46, Tryd.ntmps46
  go_upto_region 4 with fail
  clear hw1
  go_cut [0, 87] from 400 (fun a v wx => a = .agg #[.int .i64 30, .int .i64 ty, .int .i64 dst, .slice A l.length c, .int .i64 imm, .int .i64 (s : Int), .int .i64 el, .bool nw] ∧ v = .bool (strayM 30 imm (s : Int) el nw) ∧ wx = w1)
  case first =>
    go_wp2_with fail
    all_goals
      go_meet
      case rel => exact ⟨by first | rfl | simp_all, by rw [HST.out]; simp_all, rfl⟩
  case rest =>
    obtain ⟨rfl, rfl, rfl⟩ := hcut
    cases e2 : strayM 30 imm (s : Int) el nw with
    | true =>
      go_wp2_with fail
      go_ret
      exact ⟨by rw [HCK.out, if_pos e2]; rfl, HS.out.b⟩
    | false =>
      replace HCK := hide (HCK.out.trans (if_neg (by rw [e2]; simp)))
      clear e2 HST
      go_wp2_with fail
      refine (rcount_call ty dst imm el A GA l.length c gn gc fb fo fn fc s d HHS.out nw _ HF.out).mono ?_
      rintro en x1 ⟨rfl, hb⟩
      replace HS := hide (HS.out.next hb)
      replace HF := hide (HF.out.below hb)
      clear hb i0 i1 i2 i3 i4 i5 i6 i7 m0 m1
      have i3 : x1.cell? ⟨w.heap.size, 3, none⟩ = some (.slice A l.length c) := HS.out.i.cell 3
      cases e4 : decide (l.length = d.pl.length) with
      | false =>
        have gn4 : ((d.pl.length : Int) != (l.length : Int)) = true := by simp at e4 ⊢; omega
        go_wp2_with fail
        go_ret
        exact ⟨by rw [HCK.out, if_pos e4]; rfl, HS.out.b⟩
      | true =>
        have gn4 : ((d.pl.length : Int) != (l.length : Int)) = false := by simp at e4 ⊢; omega
        have hpl : l.length = d.pl.length := of_decide_eq_true e4
        have HPL := hide hpl
        replace HCK := hide (HCK.out.trans (if_neg (by rw [e4]; simp)))
        clear e4 hpl
        go_upto_region 11 with fail
        clear i3 gn4
        obtain ⟨ea, hea⟩ : ∃ x, x1.heap.size = x := ⟨_, rfl⟩
        obtain ⟨x2, hx2⟩ : ∃ z, x1.alloc (.cells #[] 3) = z := ⟨_, rfl⟩
        have HE : Hid (Own x2 ea 3 .i64 (.slice (some ⟨ea, 0, none⟩) 0 0) []) := hide (by rw [← hx2, ← hea]; exact own_empty x1 _ _ _ (Nat.le_refl _))
        have hxs : ea < x2.heap.size := by rw [← hx2, World.size_alloc, hea]; omega
        have hb12 : Below ea x1 x2 := by rw [← hx2, ← hea]; exact (Below.refl _ _).alloc (Nat.le_refl _) (.cells #[] 3)
        have HS2 := hide (HS.out.next (by rw [hea]; exact hb12))
        have i3 : x2.cell? ⟨w.heap.size, 3, none⟩ = some (.slice A l.length c) := HS2.out.i.cell 3
        have HB12 := hide hb12
        clear hb12
        go_wp2_with (first | (refine wpList_append_rd _ rfl _ _ 23 rfl ea 3 .i64 8 intE _ [] rfl HE.out _ l rfl HS2.out.l ?b1 ?b2 ?b3 ?_))
        case b1 => simp only [List.length_nil]; omega
        case b2 => unfold maxLen; simp only [List.length_nil]; omega
        case b3 => omega
        intro v' x3 ho hg8 hb8 hy8
        obtain ⟨A2, c2, rfl, hq⟩ := ho.rd
        have HV : Hid (Rd x3 .i64 (.slice A2 l.length c2) l) := hide ⟨A2, c2, rfl, hq⟩
        have hb13 : Below x1.heap.size x1 x3 := by rw [hea]; exact HB12.out.trans hb8
        replace HS := hide (HS.out.next hb13)
        replace HF := hide (HF.out.below hb13)
        clear ho i3 hq hb8 hg8 hy8 HB12 HE HS2 hxs hea hx2 hb13
        have f3 : x3.cell? ⟨w.heap.size + 1, 3, none⟩ = some (.slice RA rl.length rc) := HS.out.f.cell 3
        go_wp2_with fail
        go_loopw [142] (fun v W => ∃ j : Nat, v = .int .i64 (j : Int) ∧ j ≤ l.length ∧ W = x3 ∧ ∀ z ∈ l.take j, 0 ≤ z ∧ z < (rl.length : Int)) (fun v _ => l.length - (intOf v).toNat)
        case atStart => exact ⟨0, rfl, by omega, rfl, by simp⟩
        case round =>
          rename_i wr _
          obtain ⟨j, rfl, hj, rfl, hI⟩ := hrel
          rcases Nat.lt_or_ge j l.length with hlt | hge
          · obtain ⟨z, hz⟩ : ∃ z, l[j]? = some z := ⟨_, List.getElem?_eq_getElem hlt⟩
            obtain ⟨b, off, rfl, hc⟩ := HV.out.at (by omega)
            have hcell := hc j z hz
            clear hc
            have htake : l.take (j + 1) = l.take j ++ [z] := by rw [List.take_add_one, hz]; rfl
            have hbad : ¬ (0 ≤ z ∧ z < (rl.length : Int)) → regsM l dst rl.length = false := fun h => by
              simp only [regsM, Bool.and_eq_false_iff, List.all_eq_false]
              exact .inl ⟨z, List.mem_of_getElem? hz, by simpa using h⟩
            cases s5 : decide (z < 0) with
            | true =>
              have e5 := hbad (by simp at s5; omega)
              clear hI htake hz hbad
              go_wp2_with fail
              go_ret
              exact ⟨by rw [HCK.out, if_pos e5]; rfl, HS.out.b⟩
            | false =>
              cases s6 : decide ((rl.length : Int) ≤ z) with
              | true =>
                have e5 := hbad (by simp at s6; omega)
                clear hI htake hz hbad
                go_wp2_with fail
                go_ret
                exact ⟨by rw [HCK.out, if_pos e5]; rfl, HS.out.b⟩
              | false =>
                have hnext : ∀ y ∈ l.take (j + 1), 0 ≤ y ∧ y < (rl.length : Int) := fun y hy => by
                  rw [htake] at hy
                  rcases List.mem_append.1 hy with h | h
                  · exact hI y h
                  · simp at h; subst h; simp at s5 s6; omega
                clear hI htake hz hbad
                go_wp2_with fail
                go_roundw
                case rel => exact ⟨j + 1, by go_num, by omega, by trivial, hnext⟩
                case measure => simp [intOf]; omega
          · have hA : ∀ z ∈ l, 0 ≤ z ∧ z < (rl.length : Int) := by rw [List.take_of_length_le (by omega)] at hI; exact hI
            have hall : l.all (fun r => decide (0 ≤ r ∧ r < (rl.length : Int))) = true := by
              rw [List.all_eq_true]
              exact fun y hy => by simpa using hA y hy
            have hrm : regsM l dst rl.length = (decide (dst = -1) || decide (0 ≤ dst ∧ dst < (rl.length : Int))) := by unfold regsM; rw [hall, Bool.true_and]
            clear hI hall HV
            have HA := hide hA
            clear hA
            have i2 : wr.cell? ⟨w.heap.size, 2, none⟩ = some (.int .i64 dst) := HS.out.i.cell 2
            cases s3 : decide (dst < -1) with
            | true =>
              have e5 : regsM l dst rl.length = false := by rw [hrm]; simp at s3 ⊢; omega
              clear hrm
              go_wp2_with fail
              go_ret
              exact ⟨by rw [HCK.out, if_pos e5]; rfl, HS.out.b⟩
            | false =>
              cases s4 : decide ((rl.length : Int) ≤ dst) with
              | true =>
                have e5 : regsM l dst rl.length = false := by rw [hrm]; simp at s4 ⊢; omega
                clear hrm
                go_wp2_with fail
                go_ret
                exact ⟨by rw [HCK.out, if_pos e5]; rfl, HS.out.b⟩
              | false =>
                have e5 : regsM l dst rl.length = true := by rw [hrm]; simp at s3 s4 ⊢; omega
                have hin : dst = -1 ∨ 0 ≤ dst ∧ dst < rl.length := by simp at s3 s4; omega
                have HIN := hide hin
                replace HCK := hide (HCK.out.trans (if_neg (by rw [e5]; simp)))
                clear hrm e5 hin
                go_upto_region 19 with fail
                clear s3 s4 i2 f3
                have i0 : wr.cell? ⟨w.heap.size, 0, none⟩ = some (.int .i64 30) := HS.out.i.cell 0
                have i1 : wr.cell? ⟨w.heap.size, 1, none⟩ = some (.int .i64 ty) := HS.out.i.cell 1
                have i2 : wr.cell? ⟨w.heap.size, 2, none⟩ = some (.int .i64 dst) := HS.out.i.cell 2
                have i3 : wr.cell? ⟨w.heap.size, 3, none⟩ = some (.slice A l.length c) := HS.out.i.cell 3
                have i4 : wr.cell? ⟨w.heap.size, 4, none⟩ = some (.int .i64 imm) := HS.out.i.cell 4
                have i5 : wr.cell? ⟨w.heap.size, 5, none⟩ = some (.int .i64 (s : Int)) := HS.out.i.cell 5
                have i6 : wr.cell? ⟨w.heap.size, 6, none⟩ = some (.int .i64 el) := HS.out.i.cell 6
                have i7 : wr.cell? ⟨w.heap.size, 7, none⟩ = some (.bool nw) := HS.out.i.cell 7
                have m0 : wr.cell? ⟨w.heap.size + 2, 0, none⟩ = some (.slice GA gn gc) := HS.out.m.cell 0
                have m1 : wr.cell? ⟨w.heap.size + 2, 1, none⟩ = some (.slice (some ⟨fb, fo, none⟩) fn fc) := HS.out.m.cell 1
                go_wp2_with fail
                refine (res_call ty dst imm el A GA l.length c gn gc fb fo fn fc s d HHS.out nw _ HF.out).mono ?_
                rintro en x4 ⟨rfl, hb⟩
                replace HS := hide (HS.out.next hb)
                replace HF := hide (HF.out.below hb)
                clear hb i0 i1 i2 i3 i4 i5 i6 i7 m0 m1
                cases e6 : (ty == d.res) with
                | false =>
                  have e7 : callM ty d.res l rl d.pl d.cl = false := by
                    unfold callM; rw [decide_eq_false (by simpa using e6), Bool.and_false]
                  go_wp2_with fail
                  go_ret
                  exact ⟨by rw [HCK.out, if_pos e7]; rfl, HS.out.b⟩
                | true =>
                  have i3 : x4.cell? ⟨w.heap.size, 3, none⟩ = some (.slice A l.length c) := HS.out.i.cell 3
                  go_upto_region 21 with fail
                  go_wp2_with fail
                  clear i3
                  have HCM : Hid (callM ty d.res l rl d.pl d.cl = (d.pl.zip l).all (fun x => fitsAt rl d.cl x.1 x.2)) := hide (by
                    unfold callM; rw [decide_eq_true (by simpa using e6), Bool.and_true])
                  clear e6
                  go_loopw [174] (fun v W => ∃ j : Nat, v = .int .i64 (j : Int) ∧ j ≤ l.length ∧ Below x4.heap.size x4 W ∧ (d.pl.zip l).all (fun x => fitsAt rl d.cl x.1 x.2) = ((d.pl.zip l).drop j).all (fun x => fitsAt rl d.cl x.1 x.2)) (fun v _ => l.length - (intOf v).toNat)
                  case atStart => exact ⟨0, rfl, by omega, Below.refl _ _, by simp⟩
                  case round =>
                    obtain ⟨j, rfl, hj, hbq, hI⟩ := hrel
                    replace HS := hide (HS.out.next hbq)
                    replace HF := hide (HF.out.below hbq)
                    have HBQ := hide hbq
                    clear hbq
                    rcases Nat.lt_or_ge j l.length with hlt | hge
                    · obtain ⟨z, hz⟩ : ∃ z, l[j]? = some z := ⟨_, List.getElem?_eq_getElem hlt⟩
                      obtain ⟨z0, hz0⟩ : ∃ z, l[0]? = some z := ⟨_, List.getElem?_eq_getElem (show 0 < l.length by omega)⟩
                      obtain ⟨p, hp⟩ : ∃ p, d.pl[j]? = some p := ⟨_, List.getElem?_eq_getElem (by rw [← HPL.out]; exact hlt)⟩
                      obtain ⟨hzl, hzh⟩ := HA.out z (List.mem_of_getElem? hz)
                      obtain ⟨hyl, hyh⟩ := HA.out z0 (List.mem_of_getElem? hz0)
                      obtain ⟨m, rfl⟩ := Int.eq_ofNat_of_zero_le hzl
                      obtain ⟨n0, rfl⟩ := Int.eq_ofNat_of_zero_le hyl
                      have hmr : m < rl.length := by omega
                      have hnr : n0 < rl.length := by omega
                      obtain ⟨a, ha⟩ : ∃ z, rl[m]? = some z := ⟨_, List.getElem?_eq_getElem hmr⟩
                      obtain ⟨a0, ha0⟩ : ∃ z, rl[n0]? = some z := ⟨_, List.getElem?_eq_getElem hnr⟩
                      have hdrop : (d.pl.zip l).drop j = (p, (m : Int)) :: (d.pl.zip l).drop (j + 1) := by
                        have hlz : j < (d.pl.zip l).length := by rw [List.length_zip, ← HPL.out]; omega
                        rw [List.drop_eq_getElem_cons hlz]
                        congr 1
                        have h1 := (List.getElem?_eq_some_iff.1 hz).2
                        have h2 := (List.getElem?_eq_some_iff.1 hp).2
                        rw [List.getElem_zip, h1, h2]
                      have hfa : fitsAt rl d.cl p (m : Int) = opC d.cl p a := by
                        unfold fitsAt opC
                        rw [Int.toNat_natCast, List.getD_eq_getElem?_getD, List.getD_eq_getElem?_getD, ha, Option.getD_some, Bool.decide_and, Bool.beq_comm]
                      rw [hdrop, List.all_cons] at hI
                      simp only [hfa] at hI
                      have HI2 := hide hI
                      clear hI hdrop hfa
                      obtain ⟨b, off, hAe, -⟩ := HS.out.l.at (by omega)
                      obtain ⟨rb, roff, hRe, -⟩ := HS.out.r.at (by omega)
                      have HZ := hide (And.intro hz (And.intro hz0 (And.intro ha ha0)))
                      have HP := hide hp
                      clear hz hz0 ha ha0 hzl hzh hyl hyh hp
                      have i0 : World.cell? _ ⟨w.heap.size, 0, none⟩ = some (.int .i64 30) := HS.out.i.cell 0
                      have i1 : World.cell? _ ⟨w.heap.size, 1, none⟩ = some (.int .i64 ty) := HS.out.i.cell 1
                      have i2 : World.cell? _ ⟨w.heap.size, 2, none⟩ = some (.int .i64 dst) := HS.out.i.cell 2
                      have i3 : World.cell? _ ⟨w.heap.size, 3, none⟩ = some (.slice A l.length c) := HS.out.i.cell 3
                      have i4 : World.cell? _ ⟨w.heap.size, 4, none⟩ = some (.int .i64 imm) := HS.out.i.cell 4
                      have i5 : World.cell? _ ⟨w.heap.size, 5, none⟩ = some (.int .i64 (s : Int)) := HS.out.i.cell 5
                      have i6 : World.cell? _ ⟨w.heap.size, 6, none⟩ = some (.int .i64 el) := HS.out.i.cell 6
                      have i7 : World.cell? _ ⟨w.heap.size, 7, none⟩ = some (.bool nw) := HS.out.i.cell 7
                      have m0 : World.cell? _ ⟨w.heap.size + 2, 0, none⟩ = some (.slice GA gn gc) := HS.out.m.cell 0
                      have m1 : World.cell? _ ⟨w.heap.size + 2, 1, none⟩ = some (.slice (some ⟨fb, fo, none⟩) fn fc) := HS.out.m.cell 1
                      have f3 : World.cell? _ ⟨w.heap.size + 1, 3, none⟩ = some (.slice RA rl.length rc) := HS.out.f.cell 3
                      subst hAe hRe
                      have hcell := rd_cellAt HS.out.l HZ.out.1
                      go_upto_region 24 with fail
                      clear i0 i1 i2 i3 i4 i5 i6 i7 m0 m1 f3 hcell
                      replace HS := hide (HS.out.next ((Below.refl _ _).drew))
                      replace HF := hide (HF.out.below ((Below.refl _ _).drew))
                      replace HBQ := hide (Below.all HBQ.out ((Below.refl _ _).drew))
                      have q0 : (0 : Int) < (l.length : Int) := by omega
                      have q5 : 0 < l.length := by omega
                      have q6 : (0 : Int) ≤ (l.length : Int) := by omega
                      have q1 : (0 : Int) ≤ (m : Int) := by omega
                      have q2 : (m : Int) < (rl.length : Int) := by omega
                      have q3 : (0 : Int) ≤ (n0 : Int) := by omega
                      have q4 : (n0 : Int) < (rl.length : Int) := by omega
                      go_region_held3 (fun w' => w'.cell? ⟨w.heap.size, 0, none⟩ = some (.int .i64 30) ∧ w'.cell? ⟨w.heap.size, 1, none⟩ = some (.int .i64 ty) ∧ w'.cell? ⟨w.heap.size, 2, none⟩ = some (.int .i64 dst) ∧ w'.cell? ⟨w.heap.size, 3, none⟩ = some (.slice (some ⟨b, off, none⟩) l.length c) ∧ w'.cell? ⟨w.heap.size, 4, none⟩ = some (.int .i64 imm) ∧ w'.cell? ⟨w.heap.size, 5, none⟩ = some (.int .i64 (s : Int)) ∧ w'.cell? ⟨w.heap.size, 6, none⟩ = some (.int .i64 el) ∧ w'.cell? ⟨w.heap.size, 7, none⟩ = some (.bool nw) ∧ w'.cell? ⟨w.heap.size + 2, 0, none⟩ = some (.slice GA gn gc) ∧ w'.cell? ⟨w.heap.size + 2, 1, none⟩ = some (.slice (some ⟨fb, fo, none⟩) fn fc) ∧ w'.cell? ⟨w.heap.size + 1, 3, none⟩ = some (.slice (some ⟨rb, roff, none⟩) rl.length rc) ∧ w'.cell? ⟨b, off, none⟩ = some (.int .i64 (n0 : Int)) ∧ w'.cell? ⟨rb, roff + m, none⟩ = some (.int .i64 a) ∧ w'.cell? ⟨rb, roff + n0, none⟩ = some (.int .i64 a0)) (exact ⟨HS.out.i.cell 0, HS.out.i.cell 1, HS.out.i.cell 2, HS.out.i.cell 3, HS.out.i.cell 4, HS.out.i.cell 5, HS.out.i.cell 6, HS.out.i.cell 7, HS.out.m.cell 0, HS.out.m.cell 1, HS.out.f.cell 3, rd_cellAt HS.out.l HZ.out.2.1, rd_cellAt HS.out.r HZ.out.2.2.1, rd_cellAt HS.out.r HZ.out.2.2.2⟩) (first | (go_at_call 69; refine (opr_call ty dst imm el _ GA l.length c gn gc fb fo fn fc s d HHS.out nw HSH.out j p a a0 HP.out _ HF.out).mono ?_; rintro en x5 ⟨rfl, hb⟩; replace HS := hide (HS.out.next hb); replace HF := hide (HF.out.below hb); replace HBQ := hide (Below.all HBQ.out hb); clear hb))
                      cases e8 : opC d.cl p a with
                      | false =>
                        have e7 : callM ty d.res l rl d.pl d.cl = false := by rw [HCM.out, HI2.out, e8]; rfl
                        go_wp2_with fail
                        go_ret
                        exact ⟨by rw [HCK.out, if_pos e7]; rfl, HS.out.b⟩
                      | true =>
                        have hnx : (d.pl.zip l).all (fun x => fitsAt rl d.cl x.1 x.2) = ((d.pl.zip l).drop (j + 1)).all (fun x => fitsAt rl d.cl x.1 x.2) := by
                          rw [HI2.out, e8, Bool.true_and]
                        go_wp2_with fail
                        go_roundw
                        case rel => exact ⟨j + 1, by go_num, by omega, HBQ.out, hnx⟩
                        case measure => simp [intOf]; omega
                    · have e7 : callM ty d.res l rl d.pl d.cl = true := by
                        rw [HCM.out, hI, List.drop_eq_nil_of_le (by rw [List.length_zip, ← HPL.out]; omega)]; rfl
                      replace HCK := hide (HCK.out.trans (if_neg (by rw [e7]; simp)))
                      clear hI e7
                      go_upto_region 27 with fail
                      have i0 : World.cell? _ ⟨w.heap.size, 0, none⟩ = some (.int .i64 30) := HS.out.i.cell 0
                      have i1 : World.cell? _ ⟨w.heap.size, 1, none⟩ = some (.int .i64 ty) := HS.out.i.cell 1
                      have i2 : World.cell? _ ⟨w.heap.size, 2, none⟩ = some (.int .i64 dst) := HS.out.i.cell 2
                      have f3 : World.cell? _ ⟨w.heap.size + 1, 3, none⟩ = some (.slice RA rl.length rc) := HS.out.f.cell 3
                      go_cut [236] from 198 to 236 (fun v wx => v = .bool (!dstM 30 ty dst rl) ∧ Below wr.heap.size wr wx)
                      case first =>
                        rcases HIN.out with hd | ⟨hd, hd2⟩
                        · have hdm : dstM 30 ty dst rl = true := by
                            unfold dstM
                            rw [if_pos hd]; simp
                          have g1 : (dst != -1) = false := by rw [hd]; rfl
                          have g2 : (dst == -1) = true := by rw [hd]; rfl
                          have g3 : decide ((0 : Int) ≤ dst) = false := by rw [hd]; rfl
                          clear hd
                          have HDM := hide hdm
                          clear hdm f3
                          cases t0 : (ty == 0) with
                          | true =>
                            have t1 : (ty != 0) = false := by simp [bne, t0]
                            go_wp2_with fail
                            go_quiet (fail)
                            go_wp2_with fail
                            go_meet
                            case rel => exact ⟨by rw [HDM.out]; rfl, Below.drewN' (Below.refl _ _) _⟩
                          | false =>
                            have t1 : (ty != 0) = true := by simp [bne, t0]
                            go_wp2_with fail
                            go_quiet (fail)
                            go_wp2_with fail
                            go_meet
                            case rel => exact ⟨by rw [HDM.out]; rfl, Below.drewN' (Below.refl _ _) _⟩
                        · obtain ⟨m, rfl⟩ := Int.eq_ofNat_of_zero_le hd
                          obtain ⟨a, ha⟩ : ∃ z, rl[m]? = some z := ⟨_, List.getElem?_eq_getElem (by omega)⟩
                          have hdm : dstM 30 ty (m : Int) rl = ((ty != 0) && (ty == a)) := by
                            unfold dstM
                            rw [if_neg (by omega)]; simp [List.getD, ha]
                          have HDM := hide hdm
                          clear hdm
                          obtain ⟨rb, roff, hRe, -⟩ := HS.out.r.at (by omega)
                          subst hRe
                          have hca := rd_cellAt HS.out.r ha
                          clear ha
                          have g1 : ((m : Int) != -1) = true := by simp [bne]; try omega
                          have g2 : ((m : Int) == -1) = false := by simp; try omega
                          have g3 : decide ((0 : Int) ≤ (m : Int)) = true := by simp
                          have q1 : (0 : Int) ≤ (m : Int) := by omega
                          have q2 : (m : Int) < (rl.length : Int) := by omega
                          cases t0 : (ty == 0) with
                          | true =>
                            have t1 : (ty != 0) = false := by simp [bne, t0]
                            have HT2 : Hid ((ty == a) = !(a != ty)) := hide (by rw [bne, Bool.not_not, Bool.beq_comm])
                            go_wp2_with fail
                            go_quiet (fail)
                            go_wp2_with fail
                            go_meet
                            case rel => exact ⟨by rw [HDM.out, HT2.out]; simp [t1], Below.drewN' (Below.refl _ _) _⟩
                          | false =>
                            have t1 : (ty != 0) = true := by simp [bne, t0]
                            have HT2 : Hid ((ty == a) = !(a != ty)) := hide (by rw [bne, Bool.not_not, Bool.beq_comm])
                            go_wp2_with fail
                            go_quiet (fail)
                            go_wp2_with fail
                            go_meet
                            case rel => exact ⟨by rw [HDM.out, HT2.out]; simp [t1], Below.drewN' (Below.refl _ _) _⟩
                      case rest =>
                        obtain ⟨rfl, hbc⟩ := hcut
                        replace HS := hide (HS.out.next hbc)
                        clear hbc i0 i1 i2 f3
                        cases e8 : dstM 30 ty dst rl with
                        | false =>
                          go_wp2_with fail
                          go_ret
                          exact ⟨by rw [HCK.out, if_pos e8]; rfl, HS.out.b⟩
                        | true =>
                          replace HCK := hide (HCK.out.trans (if_neg (by rw [e8]; simp)))
                          clear e8
                          have i0 : World.cell? _ ⟨w.heap.size, 0, none⟩ = some (.int .i64 30) := HS.out.i.cell 0
                          have i1 : World.cell? _ ⟨w.heap.size, 1, none⟩ = some (.int .i64 ty) := HS.out.i.cell 1
                          have i4 : World.cell? _ ⟨w.heap.size, 4, none⟩ = some (.int .i64 imm) := HS.out.i.cell 4
                          have i6 : World.cell? _ ⟨w.heap.size, 6, none⟩ = some (.int .i64 el) := HS.out.i.cell 6
                          go_wp2_with fail
                          refine (racc_any el _).mono ?_
                          rintro en wn ⟨rfl, rfl⟩
                          go_wp2_with fail
                          go_quiet (fail)
                          go_wp2_with fail
                          go_quiet (fail)
                          go_wp2_with fail
                          go_ret
                          exact ⟨by rw [HCK.out]; rfl, Below.drewN' (Below.drewN' HS.out.b _) _⟩
set_option maxRecDepth 100000 in
set_option maxHeartbeats 4000000 in
theorem rcheck_no (op : Int) (hk : ¬ (1 ≤ op ∧ op ≤ 33)) (ty dst imm sym el : Int) (A RA GA FA : Option Addr) (c rc gn gc fn fc : Nat) (l rl : List Int) (nw : Bool) (v0 v1 v4 : Value) (res : Int) (w : World) (hT : Tab w) (hO : OpTab w) (hl : Rd w .i64 (.slice A l.length c) l) (hr : Rd w .i64 (.slice RA rl.length rc) rl) :
    Calls Tryd.prog 46 #[.agg #[.int .i64 op, .int .i64 ty, .int .i64 dst, .slice A l.length c, .int .i64 imm, .int .i64 sym, .int .i64 el, .bool nw], .agg #[v0, v1, .int .i64 res, .slice RA rl.length rc, v4], .agg #[.slice GA gn gc, .slice FA fn fc]] w fun e w' => e = .returned (.int .i64 (checkM op ty dst imm sym el nw l rl gn fn)) ∧ Below w.heap.size w w' := by
  obtain ⟨w1, hw1⟩ : ∃ z, ((w.alloc (.cells #[.int .i64 op, .int .i64 ty, .int .i64 dst, .slice A l.length c, .int .i64 imm, .int .i64 sym, .int .i64 el, .bool nw] 78)).alloc (.cells #[v0, v1, .int .i64 res, .slice RA rl.length rc, v4] 28)).alloc (.cells #[.slice GA gn gc, .slice FA fn fc] 32) = z := ⟨_, rfl⟩
  have HS : Hid (ChkS w w1 #[.int .i64 op, .int .i64 ty, .int .i64 dst, .slice A l.length c, .int .i64 imm, .int .i64 sym, .int .i64 el, .bool nw] #[v0, v1, .int .i64 res, .slice RA rl.length rc, v4] #[.slice GA gn gc, .slice FA fn fc] (.slice A l.length c) (.slice RA rl.length rc) l rl) := hide (by rw [← hw1]; exact ChkS.new w _ _ _ hT hO hl hr)
  have m0 : w1.cell? ⟨w.heap.size + 2, 0, none⟩ = some (.slice GA gn gc) := HS.out.m.cell 0
  have m1 : w1.cell? ⟨w.heap.size + 2, 1, none⟩ = some (.slice FA fn fc) := HS.out.m.cell 1
  have i0 : w1.cell? ⟨w.heap.size, 0, none⟩ = some (.int .i64 op) := HS.out.i.cell 0
  have hno : checkM op ty dst imm sym el nw l rl gn fn = 8 := by
    have : isOp op = false := by simp [isOp]; omega
    unfold checkM chkM; rw [this]; rfl
  rw [hno]
  clear hT hO hl hr m0 m1 hno
  cases s0 : decide (op < 1) with
  | true =>
    clear hk
    go_enter Tryd.func46, Tryd.ntmps46
    go_upto_region 1 with fail
    clear hw1
    go_wp2_with fail
    go_ret
    exact ⟨rfl, HS.out.b⟩
  | false =>
    have s1 : decide (33 < op) = true := by simp at s0 ⊢; omega
    clear hk
    go_enter Tryd.func46, Tryd.ntmps46
    go_upto_region 1 with fail
    clear hw1
    go_wp2_with fail
    go_ret
    exact ⟨rfl, HS.out.b⟩
/-- Check's answer, of every instruction: the same. -/
theorem rcheck_any (op ty dst imm sym el : Int) (A RA GA FA : Option Addr) (c rc gn gc fc : Nat) (fs : List FD) (hsh : ∀ d ∈ fs, Shp d) (l rl : List Int) (hm : l.length ≤ 50) (nw : Bool) (v0 v1 v4 : Value) (res : Int) (w : World) (hT : Tab w) (hO : OpTab w)
    (hl : Rd w .i64 (.slice A l.length c) l) (hr : Rd w .i64 (.slice RA rl.length rc) rl) (hF : FnsAt w FA fs) :
    Calls Tryd.prog 46 #[.agg #[.int .i64 op, .int .i64 ty, .int .i64 dst, .slice A l.length c, .int .i64 imm, .int .i64 sym, .int .i64 el, .bool nw], .agg #[v0, v1, .int .i64 res, .slice RA rl.length rc, v4], .agg #[.slice GA gn gc, .slice FA fs.length fc]] w fun e w' =>
      e = .returned (.int .i64 (checkA op ty dst imm sym el nw l rl gn fs)) ∧ Below w.heap.size w w' := by
  unfold checkA
  by_cases h30 : op = 30
  · subst h30
    rw [if_pos rfl]
    by_cases h0 : 0 ≤ sym
    · rw [if_pos h0]
      obtain ⟨s, rfl⟩ : ∃ s : Nat, sym = s := ⟨sym.toNat, by omega⟩
      rw [Int.toNat_natCast]
      cases hs : fs[s]? with
      | some d =>
        obtain ⟨fb, fo, rfl, hd⟩ := hF s d hs
        exact rcheck_call ty dst imm el A RA GA c rc gn gc fb fo fs.length fc s d (List.getElem?_eq_some_iff.1 hs).1 (hsh d (List.mem_of_getElem? hs)) l rl hm nw v0 v1 v4 res w hT hO hl hr hd
      | none =>
        exact rcheck_nosym ty dst imm s el A RA GA FA c rc gn gc fs.length fc (fun h => by rw [List.getElem?_eq_none_iff] at hs; omega) l rl nw v0 v1 v4 res w hT hO hl hr
    · rw [if_neg h0]
      exact rcheck_nosym ty dst imm sym el A RA GA FA c rc gn gc fs.length fc (fun h => h0 h.1) l rl nw v0 v1 v4 res w hT hO hl hr
  · rw [if_neg h30]
    by_cases hk : 1 ≤ op ∧ op ≤ 33
    · obtain ⟨k, rfl⟩ := Int.eq_ofNat_of_zero_le (show 0 ≤ op by omega)
      exact rcheck_row k (by omega) (by omega) (by omega) ty dst imm sym el A RA GA FA c rc gn gc fs.length fc l rl hm nw v0 v1 v4 res w hT hO hl hr
    · exact rcheck_no op hk ty dst imm sym el A RA GA FA c rc gn gc fs.length fc l rl nw v0 v1 v4 res w hT hO hl hr
end Go.Proofs.YtnhaanjpcnnifaaDoor

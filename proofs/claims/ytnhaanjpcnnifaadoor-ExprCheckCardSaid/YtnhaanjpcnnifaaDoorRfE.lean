/-
  Layer 12 (opcode): Check of the reference, for what is no call.
-/
import Derived.Deep.Cut
import Derived.Deep.CutRange
import Derived.Test.YtnhaanjpcnnifaaDoorRfAll
import Derived.Test.YtnhaanjpcnnifaaDoorOnceM
namespace Go.Proofs.YtnhaanjpcnnifaaDoor
open Go.RowKit

/-- The comparisons of the operation. -/
theorem stray_r (k : Int) (imm sym el : Int) (nw : Bool) {b1 b26 b33 b5 b6 b7 b25 b30 : Bool} (h1 : (k == 1) = b1) (h26 : (k == 26) = b26) (h33 : (k == 33) = b33) (h5 : (k == 5) = b5) (h6 : (k == 6) = b6) (h7 : (k == 7) = b7) (h25 : (k == 25) = b25) (h30 : (k == 30) = b30) :
    strayM k imm sym el nw = (nw && !(b5 || b6 || b7) || (imm != 0) && !(b1 || b26 || b33) || (sym != 0) && !(b25 || b30) || (el != 0) && !b26) := by
  subst h1 h26 h33 h5 h6 h7 h25 h30
  rfl
theorem has_60 (t : Int) : hasB 60 t = !((accN t != 1) || (accT t != t)) := by
  rcases types8 t with rfl | rfl | rfl | rfl | rfl | rfl | rfl | rfl | h
  all_goals first | rfl | skip
  rw [has_out h]
  have : accN t = 0 := by unfold accN; rw [if_neg (by omega), if_neg (by omega), if_neg (by omega)]
  rw [this]; rfl
theorem lane_acc {ty a : Int} (h : acceptsB 33 ty [a] = true) : a = 6 ∨ a = 7 := by
  rw [acc1 33 (by omega)] at h
  simp [resR, opsR, opR] at h
  exact h.2
theorem rwrap_y {t n y : Int} (h : wrapI t n = y) (w : World) : Calls Tryd.prog 71 #[.int .i64 t, .int .i64 n] w fun e w' => e = .returned (.int .i64 y) ∧ w = w' := by
  subst h; exact rwrap_any t n w
theorem cls1 {k : Nat} {b1 b26 b33 : Bool} (h1 : ((k : Int) == 1) = b1) (h26 : ((k : Int) == 26) = b26) (h33 : ((k : Int) == 33) = b33) :
    (b1 = false ∧ b26 = false ∧ b33 = false) ∨ (k = 1 ∧ b1 = true ∧ b26 = false ∧ b33 = false) ∨ (k = 26 ∧ b1 = false ∧ b26 = true ∧ b33 = false) ∨ (k = 33 ∧ b1 = false ∧ b26 = false ∧ b33 = true) := by
  subst h1 h26 h33
  by_cases y1 : k = 1
  · subst y1; exact .inr (.inl ⟨rfl, rfl, rfl, rfl⟩)
  by_cases y26 : k = 26
  · subst y26; exact .inr (.inr (.inl ⟨rfl, rfl, rfl, rfl⟩))
  by_cases y33 : k = 33
  · subst y33; exact .inr (.inr (.inr ⟨rfl, rfl, rfl, rfl⟩))
  · refine .inl ⟨?_, ?_, ?_⟩ <;> simp <;> omega
theorem rd_cellAt {w : World} {b off c j : Nat} {l : List Int} {z : Int} (h : Rd w .i64 (.slice (some ⟨b, off, none⟩) l.length c) l) (hz : l[j]? = some z) : w.cell? ⟨b, off + j, none⟩ = some (.int .i64 z) := by
  have hj : j < l.length := (List.getElem?_eq_some_iff.1 hz).1
  have hp : 0 < l.length := Nat.lt_of_le_of_lt (Nat.zero_le _) hj
  obtain ⟨b', off', e, hc⟩ := h.at hp
  cases e
  exact hc j z hz
set_option maxRecDepth 100000 in
set_option maxHeartbeats 16000000 in
theorem rcheck_row (k : Nat) (hk : k < 34) (hk1 : 1 ≤ k) (hk30 : k ≠ 30) (ty dst imm sym el : Int) (A RA GA FA : Option Addr) (c rc gn gc fn fc : Nat) (l rl : List Int) (hm : l.length ≤ 50) (nw : Bool) (v0 v1 v4 : Value) (res : Int) (w : World) (hT : Tab w) (hO : OpTab w) (hl : Rd w .i64 (.slice A l.length c) l) (hr : Rd w .i64 (.slice RA rl.length rc) rl) :
    Calls Tryd.prog 46 #[.agg #[.int .i64 (k : Int), .int .i64 ty, .int .i64 dst, .slice A l.length c, .int .i64 imm, .int .i64 sym, .int .i64 el, .bool nw], .agg #[v0, v1, .int .i64 res, .slice RA rl.length rc, v4], .agg #[.slice GA gn gc, .slice FA fn fc]] w fun e w' => e = .returned (.int .i64 (checkM k ty dst imm sym el nw l rl gn fn)) ∧ Below w.heap.size w w' := by
  obtain ⟨w1, hw1⟩ : ∃ z, ((w.alloc (.cells #[.int .i64 (k : Int), .int .i64 ty, .int .i64 dst, .slice A l.length c, .int .i64 imm, .int .i64 sym, .int .i64 el, .bool nw] 78)).alloc (.cells #[v0, v1, .int .i64 res, .slice RA rl.length rc, v4] 28)).alloc (.cells #[.slice GA gn gc, .slice FA fn fc] 32) = z := ⟨_, rfl⟩
  have HS : Hid (ChkS w w1 #[.int .i64 (k : Int), .int .i64 ty, .int .i64 dst, .slice A l.length c, .int .i64 imm, .int .i64 sym, .int .i64 el, .bool nw] #[v0, v1, .int .i64 res, .slice RA rl.length rc, v4] #[.slice GA gn gc, .slice FA fn fc] (.slice A l.length c) (.slice RA rl.length rc) l rl) := hide (by rw [← hw1]; exact ChkS.new w _ _ _ hT hO hl hr)
  obtain ⟨b1, h1⟩ : ∃ b, ((k : Int) == 1) = b := ⟨_, rfl⟩
  obtain ⟨b26, h26⟩ : ∃ b, ((k : Int) == 26) = b := ⟨_, rfl⟩
  obtain ⟨b33, h33⟩ : ∃ b, ((k : Int) == 33) = b := ⟨_, rfl⟩
  obtain ⟨b5, h5⟩ : ∃ b, ((k : Int) == 5) = b := ⟨_, rfl⟩
  obtain ⟨b6, h6⟩ : ∃ b, ((k : Int) == 6) = b := ⟨_, rfl⟩
  obtain ⟨b7, h7⟩ : ∃ b, ((k : Int) == 7) = b := ⟨_, rfl⟩
  obtain ⟨b25, h25⟩ : ∃ b, ((k : Int) == 25) = b := ⟨_, rfl⟩
  have h30 : ((k : Int) == 30) = false := by simp; omega
  have n5 : ((k : Int) != 5) = !b5 := by rw [← h5]; rfl
  have n6 : ((k : Int) != 6) = !b6 := by rw [← h6]; rfl
  have n7 : ((k : Int) != 7) = !b7 := by rw [← h7]; rfl
  have n25 : ((k : Int) != 25) = !b25 := by rw [← h25]; rfl
  have n26 : ((k : Int) != 26) = !b26 := by rw [← h26]; rfl
  have n30 : ((k : Int) != 30) = true := by simp [bne, h30]
  have m0 : w1.cell? ⟨w.heap.size + 2, 0, none⟩ = some (.slice GA gn gc) := HS.out.m.cell 0
  have m1 : w1.cell? ⟨w.heap.size + 2, 1, none⟩ = some (.slice FA fn fc) := HS.out.m.cell 1
  have HST := hide (stray_r k imm sym el nw h1 h26 h33 h5 h6 h7 h25 h30)
  have o1 : decide ((k : Int) < 1) = false := by simp; omega
  have o33 : decide ((33 : Int) < (k : Int)) = false := by simp; omega
  clear hT hO hl hr
  have i0 : w1.cell? ⟨w.heap.size, 0, none⟩ = some (.int .i64 (k : Int)) := HS.out.i.cell 0
  have i1 : w1.cell? ⟨w.heap.size, 1, none⟩ = some (.int .i64 ty) := HS.out.i.cell 1
  have i2 : w1.cell? ⟨w.heap.size, 2, none⟩ = some (.int .i64 dst) := HS.out.i.cell 2
  have i3 : w1.cell? ⟨w.heap.size, 3, none⟩ = some (.slice A l.length c) := HS.out.i.cell 3
  have i4 : w1.cell? ⟨w.heap.size, 4, none⟩ = some (.int .i64 imm) := HS.out.i.cell 4
  have i5 : w1.cell? ⟨w.heap.size, 5, none⟩ = some (.int .i64 sym) := HS.out.i.cell 5
  have i6 : w1.cell? ⟨w.heap.size, 6, none⟩ = some (.int .i64 el) := HS.out.i.cell 6
  have i7 : w1.cell? ⟨w.heap.size, 7, none⟩ = some (.bool nw) := HS.out.i.cell 7
  go_enter Tryd.func46, Tryd.ntmps46
  go_upto_region 3 with fail
  clear hw1
  go_cut [7] from 400 (fun v wx => v = .bool (b1 || b26 || b33) ∧ wx = w1)
  case first =>
    go_wp2_with fail
    all_goals
      go_meet
      case rel => exact ⟨by simp_all, rfl⟩
  case rest =>
    obtain ⟨rfl, rfl⟩ := hcut
    go_upto_region 4 with fail
    go_cut [0, 87] from 400 (fun a v wx => a = .agg #[.int .i64 (k : Int), .int .i64 ty, .int .i64 dst, .slice A l.length c, .int .i64 imm, .int .i64 sym, .int .i64 el, .bool nw] ∧ v = .bool (strayM k imm sym el nw) ∧ wx = wc)
    case first =>
      rcases (show k = 1 ∨ k = 26 ∨ k = 33 ∨ k = 5 ∨ k = 6 ∨ k = 7 ∨ k = 25 ∨ (k ≠ 1 ∧ k ≠ 26 ∧ k ≠ 33 ∧ k ≠ 5 ∧ k ≠ 6 ∧ k ≠ 7 ∧ k ≠ 25) by omega) with rfl | rfl | rfl | rfl | rfl | rfl | rfl | ⟨q1, q26, q33, q5, q6, q7, q25⟩
      · obtain rfl : b1 = true := h1.symm.trans (rfl)
        obtain rfl : b26 = false := h26.symm.trans (rfl)
        obtain rfl : b33 = false := h33.symm.trans (rfl)
        obtain rfl : b5 = false := h5.symm.trans (rfl)
        obtain rfl : b6 = false := h6.symm.trans (rfl)
        obtain rfl : b7 = false := h7.symm.trans (rfl)
        obtain rfl : b25 = false := h25.symm.trans (rfl)
        as_aux_lemma =>
          go_wp2_with fail
          all_goals
            go_meet
            case rel => exact ⟨by first | rfl | simp_all, by rw [HST.out]; simp_all, rfl⟩
      · obtain rfl : b1 = false := h1.symm.trans (rfl)
        obtain rfl : b26 = true := h26.symm.trans (rfl)
        obtain rfl : b33 = false := h33.symm.trans (rfl)
        obtain rfl : b5 = false := h5.symm.trans (rfl)
        obtain rfl : b6 = false := h6.symm.trans (rfl)
        obtain rfl : b7 = false := h7.symm.trans (rfl)
        obtain rfl : b25 = false := h25.symm.trans (rfl)
        as_aux_lemma =>
          go_wp2_with fail
          all_goals
            go_meet
            case rel => exact ⟨by first | rfl | simp_all, by rw [HST.out]; simp_all, rfl⟩
      · obtain rfl : b1 = false := h1.symm.trans (rfl)
        obtain rfl : b26 = false := h26.symm.trans (rfl)
        obtain rfl : b33 = true := h33.symm.trans (rfl)
        obtain rfl : b5 = false := h5.symm.trans (rfl)
        obtain rfl : b6 = false := h6.symm.trans (rfl)
        obtain rfl : b7 = false := h7.symm.trans (rfl)
        obtain rfl : b25 = false := h25.symm.trans (rfl)
        as_aux_lemma =>
          go_wp2_with fail
          all_goals
            go_meet
            case rel => exact ⟨by first | rfl | simp_all, by rw [HST.out]; simp_all, rfl⟩
      · obtain rfl : b1 = false := h1.symm.trans (rfl)
        obtain rfl : b26 = false := h26.symm.trans (rfl)
        obtain rfl : b33 = false := h33.symm.trans (rfl)
        obtain rfl : b5 = true := h5.symm.trans (rfl)
        obtain rfl : b6 = false := h6.symm.trans (rfl)
        obtain rfl : b7 = false := h7.symm.trans (rfl)
        obtain rfl : b25 = false := h25.symm.trans (rfl)
        as_aux_lemma =>
          go_wp2_with fail
          all_goals
            go_meet
            case rel => exact ⟨by first | rfl | simp_all, by rw [HST.out]; simp_all, rfl⟩
      · obtain rfl : b1 = false := h1.symm.trans (rfl)
        obtain rfl : b26 = false := h26.symm.trans (rfl)
        obtain rfl : b33 = false := h33.symm.trans (rfl)
        obtain rfl : b5 = false := h5.symm.trans (rfl)
        obtain rfl : b6 = true := h6.symm.trans (rfl)
        obtain rfl : b7 = false := h7.symm.trans (rfl)
        obtain rfl : b25 = false := h25.symm.trans (rfl)
        as_aux_lemma =>
          go_wp2_with fail
          all_goals
            go_meet
            case rel => exact ⟨by first | rfl | simp_all, by rw [HST.out]; simp_all, rfl⟩
      · obtain rfl : b1 = false := h1.symm.trans (rfl)
        obtain rfl : b26 = false := h26.symm.trans (rfl)
        obtain rfl : b33 = false := h33.symm.trans (rfl)
        obtain rfl : b5 = false := h5.symm.trans (rfl)
        obtain rfl : b6 = false := h6.symm.trans (rfl)
        obtain rfl : b7 = true := h7.symm.trans (rfl)
        obtain rfl : b25 = false := h25.symm.trans (rfl)
        as_aux_lemma =>
          go_wp2_with fail
          all_goals
            go_meet
            case rel => exact ⟨by first | rfl | simp_all, by rw [HST.out]; simp_all, rfl⟩
      · obtain rfl : b1 = false := h1.symm.trans (rfl)
        obtain rfl : b26 = false := h26.symm.trans (rfl)
        obtain rfl : b33 = false := h33.symm.trans (rfl)
        obtain rfl : b5 = false := h5.symm.trans (rfl)
        obtain rfl : b6 = false := h6.symm.trans (rfl)
        obtain rfl : b7 = false := h7.symm.trans (rfl)
        obtain rfl : b25 = true := h25.symm.trans (rfl)
        as_aux_lemma =>
          go_wp2_with fail
          all_goals
            go_meet
            case rel => exact ⟨by first | rfl | simp_all, by rw [HST.out]; simp_all, rfl⟩
      · obtain rfl : b1 = false := h1.symm.trans (by simp; omega)
        obtain rfl : b26 = false := h26.symm.trans (by simp; omega)
        obtain rfl : b33 = false := h33.symm.trans (by simp; omega)
        obtain rfl : b5 = false := h5.symm.trans (by simp; omega)
        obtain rfl : b6 = false := h6.symm.trans (by simp; omega)
        obtain rfl : b7 = false := h7.symm.trans (by simp; omega)
        obtain rfl : b25 = false := h25.symm.trans (by simp; omega)
        as_aux_lemma =>
          go_wp2_with fail
          all_goals
            go_meet
            case rel => exact ⟨by first | rfl | simp_all, by rw [HST.out]; simp_all, rfl⟩
    case rest =>
      obtain ⟨rfl, rfl, rfl⟩ := hcut
      cases e2 : strayM k imm sym el nw with
      | true =>
        go_wp2_with fail
        go_ret
        exact ⟨by simp only [checkM, chkM, e2, show isOp (k : Int) = true by simp [isOp]; omega]; rfl, HS.out.b⟩
      | false =>
        go_upto_region 6 with fail
        go_cut [0, 121] from 400 (fun a v wx => a = .agg #[.int .i64 (k : Int), .int .i64 ty, .int .i64 dst, .slice A l.length c, .int .i64 imm, .int .i64 sym, .int .i64 el, .bool nw] ∧ v = .bool (!symM k sym gn fn) ∧ wx = wc)
        case first =>
          have hsy : symM k sym gn fn = (!b25 || (decide (0 ≤ sym) && decide (sym < gn))) := by
            unfold symM
            rw [if_neg (show ¬ (k : Int) = 30 by omega)]
            cases b25 with
            | true => rw [if_pos (by simpa using h25)]; rfl
            | false => rw [if_neg (by simpa using h25)]; rfl
          have HSY := hide hsy
          clear hsy
          cases b25 with
          | false =>
            go_wp2_with fail
            go_meet
            case rel => exact ⟨rfl, by rw [HSY.out]; rfl, rfl⟩
          | true =>
            cases s0 : decide (sym < 0) with
            | true =>
              have s1 : decide (0 ≤ sym) = false := by simp at s0 ⊢; omega
              go_wp2_with fail
              go_meet
              case rel => exact ⟨rfl, by rw [HSY.out, s1]; rfl, rfl⟩
            | false =>
              have s1 : decide (0 ≤ sym) = true := by simp at s0 ⊢; omega
              cases s2 : decide ((gn : Int) ≤ sym) with
              | true =>
                have s3 : decide (sym < gn) = false := by simp at s2 ⊢; omega
                go_wp2_with fail
                go_meet
                case rel => exact ⟨rfl, by rw [HSY.out, s1, s3]; rfl, rfl⟩
              | false =>
                have s3 : decide (sym < gn) = true := by simp at s2 ⊢; omega
                go_wp2_with fail
                go_meet
                case rel => exact ⟨rfl, by rw [HSY.out, s1, s3]; rfl, rfl⟩
        case rest =>
          obtain ⟨rfl, rfl, rfl⟩ := hcut
          cases e3 : symM k sym gn fn with
          | false =>
            go_wp2_with fail
            go_ret
            exact ⟨by simp only [checkM, chkM, e2, e3, show isOp (k : Int) = true by simp [isOp]; omega]; rfl, HS.out.b⟩
          | true =>
            go_wp2_with fail
            refine (rcount_all k hk hk1 hk30 ty dst imm sym el A GA FA l.length c gn gc fn fc nw _).mono ?_
            rintro en x1 ⟨rfl, hb⟩
            replace HS := hide (HS.out.next hb)
            clear hb i0 i1 i2 i3 i4 i5 i6 i7 m0 m1
            have HCN := hide (cnt_r k l.length)
            obtain ⟨rk, hrk⟩ : ∃ x, rcok k l.length = x := ⟨_, rfl⟩
            obtain ⟨rn, hrn⟩ : ∃ x, rcnt k l.length = x := ⟨_, rfl⟩
            rw [hrk, hrn] at HCN
            rw [hrk, hrn]
            clear hrk hrn
            have i3 : x1.cell? ⟨w.heap.size, 3, none⟩ = some (.slice A l.length c) := HS.out.i.cell 3
            cases e4 : cntB k l.length with
            | false =>
              cases rk with
              | false =>
                go_wp2_with fail
                go_ret
                exact ⟨by simp only [checkM, chkM, e2, e3, e4, Int.toNat_natCast, show isOp (k : Int) = true by simp [isOp]; omega]; rfl, HS.out.b⟩
              | true =>
                have gn4 : (rn != (l.length : Int)) = true := by have := HCN.out; rw [e4] at this; simpa using this.symm
                go_wp2_with fail
                go_ret
                exact ⟨by simp only [checkM, chkM, e2, e3, e4, Int.toNat_natCast, show isOp (k : Int) = true by simp [isOp]; omega]; rfl, HS.out.b⟩
            | true =>
              have hrr : rk = true ∧ rn = (l.length : Int) := by have := HCN.out; rw [e4] at this; simpa using this.symm
              obtain ⟨rfl, rfl⟩ := hrr
              have gn4 : ((l.length : Int) != (l.length : Int)) = false := by simp
              go_upto_region 11 with fail
              clear HCN i3 gn4
              obtain ⟨ea, hea⟩ : ∃ x, x1.heap.size = x := ⟨_, rfl⟩
              obtain ⟨x2, hx2⟩ : ∃ z, x1.alloc (.cells #[] 3) = z := ⟨_, rfl⟩
              have HE : Hid (Own x2 ea 3 .i64 (.slice (some ⟨ea, 0, none⟩) 0 0) []) := hide (by rw [← hx2, ← hea]; exact own_empty x1 _ _ _ (Nat.le_refl _))
              have hxs : ea < x2.heap.size := by rw [← hx2, World.size_alloc, hea]; omega
              have hwe : w.heap.size + 2 < ea := by rw [← hea]; exact HS.out.m.lt
              have hb12 : Below ea x1 x2 := by rw [← hx2, ← hea]; exact (Below.refl _ _).alloc (Nat.le_refl _) (.cells #[] 3)
              have HS2 := hide (HS.out.next (by rw [hea]; exact hb12))
              have i3 : x2.cell? ⟨w.heap.size, 3, none⟩ = some (.slice A l.length c) := HS2.out.i.cell 3
              have HB12 := hide hb12
              clear hb12
              go_wp2_with (first | (refine wpList_append_rd _ rfl _ _ 23 rfl ea 3 .i64 8 intE _ [] rfl HE.out _ l rfl HS2.out.l ?b1 ?b2 ?b3 ?_))
              case b1 => simp only [List.length_nil]; omega
              case b2 => unfold maxLen; simp only [List.length_nil]; omega
              case b3 => omega
              intro v' x3 ho hg8 hb8 hy8
              obtain ⟨A2, c2, rfl, hq⟩ := ho.rd
              have HV : Hid (Rd x3 .i64 (.slice A2 l.length c2) l) := hide ⟨A2, c2, rfl, hq⟩
              replace HS := hide (HS.out.next (by rw [hea]; exact HB12.out.trans hb8))
              clear ho i3 hq hb8 hg8 hy8 HB12 HE HS2 hxs hwe hea hx2
              have hck : checkM (k : Int) ty dst imm sym el nw l rl gn fn = (if regsM l dst rl.length = false then 10 else if acceptsB k ty (tysOf rl l) = false then 9 else if dstM k ty dst rl = false then 9 else if (!decide ((k : Int) = 26) || hasB 60 el) = false then 9 else if immM k ty imm (rl.getD (l.headD 0).toNat 0) = false then 10 else 0) := by
                simp only [checkM, chkM, e2, e3, e4, Int.toNat_natCast, show isOp (k : Int) = true by simp [isOp]; omega]; rfl
              have HCK := hide hck
              have hae : acceptsB k ty (tysOf rl l) = (resR k ty l.length && opsR k ty ((tysOf rl l).headD 0) 0 (tysOf rl l)) := by
                have h := accepts_eq k hk1 (by omega) hk30 ty (tysOf rl l) (by
                  have h4 := e4
                  unfold cntB at h4
                  by_cases h32 : k = 32
                  · rw [if_pos h32] at h4 ⊢; simpa [tysOf] using h4
                  · rw [if_neg h32] at h4 ⊢; simpa [tysOf] using h4)
                rw [h, show (tysOf rl l).length = l.length by simp [tysOf]]
              have HAE := hide hae
              have hn0 : 0 < l.length → k ≠ 1 ∧ k ≠ 2 ∧ k ≠ 25 ∧ k ≠ 26 := fun hp => by
                refine ⟨?_, ?_, ?_, ?_⟩ <;> · rintro rfl; have h4 := e4; unfold cntB at h4; rw [if_neg (by decide)] at h4; have h5 := of_decide_eq_true h4; exact absurd hp (by rw [h5]; decide)
              have HN0 := hide hn0
              have hn33 : k = 33 → ∃ z, l = [z] := by
                rintro rfl
                have h4 := e4
                unfold cntB at h4
                rw [if_neg (by decide)] at h4
                have h5 : l.length = 1 := of_decide_eq_true h4
                match l, h5 with
                | [z], _ => exact ⟨z, rfl⟩
              have HN33 := hide hn33
              clear hae hn0 hn33
              clear hck e2 e3 e4 HST
              have f3 : x3.cell? ⟨w.heap.size + 1, 3, none⟩ = some (.slice RA rl.length rc) := HS.out.f.cell 3
              go_wp2_with fail
              go_loopw [142] (fun v W => ∃ j : Nat, v = .int .i64 (j : Int) ∧ j ≤ l.length ∧ W = x3 ∧ ∀ z ∈ l.take j, 0 ≤ z ∧ z < (rl.length : Int)) (fun v _ => l.length - (intOf v).toNat)
              case atStart => exact ⟨0, rfl, by omega, rfl, by simp⟩
              case round =>
                rename_i wr _
                obtain ⟨j, rfl, hj, rfl, hI⟩ := hrel
                rcases Nat.lt_or_ge j l.length with hlt | hge
                · obtain ⟨z, hz⟩ : ∃ z, l[j]? = some z := ⟨_, List.getElem?_eq_getElem hlt⟩
                  obtain ⟨b, off, rfl, hc⟩ := HV.out.at (by omega)
                  have hcell := hc j z hz
                  clear hc
                  have htake : l.take (j + 1) = l.take j ++ [z] := by rw [List.take_add_one, hz]; rfl
                  have hbad : ¬ (0 ≤ z ∧ z < (rl.length : Int)) → regsM l dst rl.length = false := fun h => by
                    simp only [regsM, Bool.and_eq_false_iff, List.all_eq_false]
                    exact .inl ⟨z, List.mem_of_getElem? hz, by simpa using h⟩
                  cases s0 : decide (z < 0) with
                  | true =>
                    have e5 := hbad (by simp at s0; omega)
                    clear hI htake hz hbad
                    go_wp2_with fail
                    go_ret
                    exact ⟨by rw [HCK.out, if_pos e5]; rfl, HS.out.b⟩
                  | false =>
                    cases s1 : decide ((rl.length : Int) ≤ z) with
                    | true =>
                      have e5 := hbad (by simp at s1; omega)
                      clear hI htake hz hbad
                      go_wp2_with fail
                      go_ret
                      exact ⟨by rw [HCK.out, if_pos e5]; rfl, HS.out.b⟩
                    | false =>
                      have hnext : ∀ y ∈ l.take (j + 1), 0 ≤ y ∧ y < (rl.length : Int) := fun y hy => by
                        rw [htake] at hy
                        rcases List.mem_append.1 hy with h | h
                        · exact hI y h
                        · simp at h; subst h; simp at s0 s1; omega
                      clear hI htake hz hbad
                      go_wp2_with fail
                      go_roundw
                      case rel => exact ⟨j + 1, by go_num, by omega, by trivial, hnext⟩
                      case measure => simp [intOf]; omega
                · have hA : ∀ z ∈ l, 0 ≤ z ∧ z < (rl.length : Int) := by rw [List.take_of_length_le (by omega)] at hI; exact hI
                  have hall : l.all (fun r => decide (0 ≤ r ∧ r < (rl.length : Int))) = true := by
                    rw [List.all_eq_true]
                    exact fun y hy => by simpa using hA y hy
                  have hrm : regsM l dst rl.length = (decide (dst = -1) || decide (0 ≤ dst ∧ dst < (rl.length : Int))) := by unfold regsM; rw [hall, Bool.true_and]
                  clear hI hall HV
                  have HA := hide hA
                  clear hA
                  have i2 : wr.cell? ⟨w.heap.size, 2, none⟩ = some (.int .i64 dst) := HS.out.i.cell 2
                  cases s0 : decide (dst < -1) with
                  | true =>
                    have e5 : regsM l dst rl.length = false := by rw [hrm]; simp at s0 ⊢; omega
                    clear hrm
                    go_wp2_with fail
                    go_ret
                    exact ⟨by rw [HCK.out, if_pos e5]; rfl, HS.out.b⟩
                  | false =>
                    cases s1 : decide ((rl.length : Int) ≤ dst) with
                    | true =>
                      have e5 : regsM l dst rl.length = false := by rw [hrm]; simp at s1 ⊢; omega
                      clear hrm
                      go_wp2_with fail
                      go_ret
                      exact ⟨by rw [HCK.out, if_pos e5]; rfl, HS.out.b⟩
                    | false =>
                      have e5 : regsM l dst rl.length = true := by rw [hrm]; simp at s0 s1 ⊢; omega
                      have hin : dst = -1 ∨ 0 ≤ dst ∧ dst < rl.length := by simp at s0 s1; omega
                      have HIN := hide hin
                      replace HCK := hide (HCK.out.trans (if_neg (by rw [e5]; simp)))
                      clear hrm e5 hin
                      have i0 : wr.cell? ⟨w.heap.size, 0, none⟩ = some (.int .i64 (k : Int)) := HS.out.i.cell 0
                      go_upto_region 19 with fail
                      clear s0 s1 i0 i2 f3
                      have i0 : wr.cell? ⟨w.heap.size, 0, none⟩ = some (.int .i64 (k : Int)) := HS.out.i.cell 0
                      have i1 : wr.cell? ⟨w.heap.size, 1, none⟩ = some (.int .i64 ty) := HS.out.i.cell 1
                      have i2 : wr.cell? ⟨w.heap.size, 2, none⟩ = some (.int .i64 dst) := HS.out.i.cell 2
                      have i3 : wr.cell? ⟨w.heap.size, 3, none⟩ = some (.slice A l.length c) := HS.out.i.cell 3
                      have i4 : wr.cell? ⟨w.heap.size, 4, none⟩ = some (.int .i64 imm) := HS.out.i.cell 4
                      have i5 : wr.cell? ⟨w.heap.size, 5, none⟩ = some (.int .i64 sym) := HS.out.i.cell 5
                      have i6 : wr.cell? ⟨w.heap.size, 6, none⟩ = some (.int .i64 el) := HS.out.i.cell 6
                      have i7 : wr.cell? ⟨w.heap.size, 7, none⟩ = some (.bool nw) := HS.out.i.cell 7
                      have m0 : wr.cell? ⟨w.heap.size + 2, 0, none⟩ = some (.slice GA gn gc) := HS.out.m.cell 0
                      have m1 : wr.cell? ⟨w.heap.size + 2, 1, none⟩ = some (.slice FA fn fc) := HS.out.m.cell 1
                      go_wp2_with fail
                      refine (res_all k hk hk1 hk30 ty dst imm sym el A GA FA l.length c gn gc fn fc nw _).mono ?_
                      rintro en x4 ⟨rfl, hb⟩
                      replace HS := hide (HS.out.next hb)
                      clear hb i0 i1 i2 i3 i4 i5 i6 i7 m0 m1
                      cases e6 : resR k ty l.length with
                      | false =>
                        have e7 : acceptsB k ty (tysOf rl l) = false := by rw [HAE.out, e6]; rfl
                        go_wp2_with fail
                        go_ret
                        exact ⟨by rw [HCK.out, if_pos e7]; rfl, HS.out.b⟩
                      | true =>
                        have i3 : x4.cell? ⟨w.heap.size, 3, none⟩ = some (.slice A l.length c) := HS.out.i.cell 3
                        go_upto_region 21 with fail
                        go_wp2_with fail
                        clear i3
                        obtain ⟨ft, hft⟩ : ∃ x, (tysOf rl l).headD 0 = x := ⟨_, rfl⟩
                        replace HAE : Hid (acceptsB k ty (tysOf rl l) = opsR k ty ft 0 (tysOf rl l)) := hide (by rw [HAE.out, e6, hft]; rfl)
                        have HFT := hide hft
                        clear hft e6
                        go_loopw [174] (fun v W => ∃ j : Nat, v = .int .i64 (j : Int) ∧ j ≤ l.length ∧ Below x4.heap.size x4 W ∧ opsR k ty ft 0 (tysOf rl l) = opsR k ty ft j ((tysOf rl l).drop j)) (fun v _ => l.length - (intOf v).toNat)
                        case atStart => exact ⟨0, rfl, by omega, Below.refl _ _, by simp⟩
                        case round =>
                          obtain ⟨j, rfl, hj, hbq, hI⟩ := hrel
                          replace HS := hide (HS.out.next hbq)
                          have HBQ := hide hbq
                          clear hbq
                          rcases Nat.lt_or_ge j l.length with hlt | hge
                          · obtain ⟨z, hz⟩ : ∃ z, l[j]? = some z := ⟨_, List.getElem?_eq_getElem hlt⟩
                            obtain ⟨z0, hz0⟩ : ∃ z, l[0]? = some z := ⟨_, List.getElem?_eq_getElem (show 0 < l.length by omega)⟩
                            obtain ⟨hzl, hzh⟩ := HA.out z (List.mem_of_getElem? hz)
                            obtain ⟨hyl, hyh⟩ := HA.out z0 (List.mem_of_getElem? hz0)
                            obtain ⟨m, rfl⟩ := Int.eq_ofNat_of_zero_le hzl
                            obtain ⟨n0, rfl⟩ := Int.eq_ofNat_of_zero_le hyl
                            have hmr : m < rl.length := by omega
                            have hnr : n0 < rl.length := by omega
                            obtain ⟨a, ha⟩ : ∃ z, rl[m]? = some z := ⟨_, List.getElem?_eq_getElem hmr⟩
                            obtain ⟨a0, ha0⟩ : ∃ z, rl[n0]? = some z := ⟨_, List.getElem?_eq_getElem hnr⟩
                            have hn := HN0.out (by omega)
                            have hfa : a0 = ft := by rw [← HFT.out]; cases l with
                              | nil => cases hz0
                              | cons x t => simp at hz0; subst hz0; simp [tysOf, List.getD, ha0]
                            have hdrop : (tysOf rl l).drop j = a :: (tysOf rl l).drop (j + 1) := by
                              rw [List.drop_eq_getElem_cons (by simpa [tysOf] using hlt)]
                              congr 1
                              have hz' := (List.getElem?_eq_some_iff.1 hz).2
                              simp [tysOf, hz', List.getD, ha]
                            subst hfa
                            obtain ⟨b, off, hAe, -⟩ := HS.out.l.at (by omega)
                            obtain ⟨rb, roff, hRe, -⟩ := HS.out.r.at (by omega)
                            have HZ := hide (And.intro hz (And.intro hz0 (And.intro ha ha0)))
                            clear hz hz0 ha ha0 hzl hzh hyl hyh
                            have e9 := HAE.out.trans hI
                            rw [hdrop] at e9
                            have hI' := hI
                            rw [hdrop] at hI'
                            clear hI hdrop
                            have HE9 := hide (And.intro e9 hI')
                            clear e9 hI'
                            have i0 : World.cell? _ ⟨w.heap.size, 0, none⟩ = some (.int .i64 (k : Int)) := HS.out.i.cell 0
                            have i1 : World.cell? _ ⟨w.heap.size, 1, none⟩ = some (.int .i64 ty) := HS.out.i.cell 1
                            have i2 : World.cell? _ ⟨w.heap.size, 2, none⟩ = some (.int .i64 dst) := HS.out.i.cell 2
                            have i3 : World.cell? _ ⟨w.heap.size, 3, none⟩ = some (.slice A l.length c) := HS.out.i.cell 3
                            have i4 : World.cell? _ ⟨w.heap.size, 4, none⟩ = some (.int .i64 imm) := HS.out.i.cell 4
                            have i5 : World.cell? _ ⟨w.heap.size, 5, none⟩ = some (.int .i64 sym) := HS.out.i.cell 5
                            have i6 : World.cell? _ ⟨w.heap.size, 6, none⟩ = some (.int .i64 el) := HS.out.i.cell 6
                            have i7 : World.cell? _ ⟨w.heap.size, 7, none⟩ = some (.bool nw) := HS.out.i.cell 7
                            have m0 : World.cell? _ ⟨w.heap.size + 2, 0, none⟩ = some (.slice GA gn gc) := HS.out.m.cell 0
                            have m1 : World.cell? _ ⟨w.heap.size + 2, 1, none⟩ = some (.slice FA fn fc) := HS.out.m.cell 1
                            have f3 : World.cell? _ ⟨w.heap.size + 1, 3, none⟩ = some (.slice RA rl.length rc) := HS.out.f.cell 3
                            subst hAe hRe
                            have hcell := rd_cellAt HS.out.l HZ.out.1
                            go_upto_region 24 with fail
                            clear i0 i1 i2 i3 i4 i5 i6 i7 m0 m1 f3 hcell
                            replace HS := hide (HS.out.next ((Below.refl _ _).drew))
                            replace HBQ := hide (Below.all HBQ.out ((Below.refl _ _).drew))
                            have q0 : (0 : Int) < (l.length : Int) := by omega
                            have q5 : 0 < l.length := by omega
                            have q6 : (0 : Int) ≤ (l.length : Int) := by omega
                            have q1 : (0 : Int) ≤ (m : Int) := by omega
                            have q2 : (m : Int) < (rl.length : Int) := by omega
                            have q3 : (0 : Int) ≤ (n0 : Int) := by omega
                            have q4 : (n0 : Int) < (rl.length : Int) := by omega
                            go_region_held3 (fun w' => w'.cell? ⟨w.heap.size, 0, none⟩ = some (.int .i64 (k : Int)) ∧ w'.cell? ⟨w.heap.size, 1, none⟩ = some (.int .i64 ty) ∧ w'.cell? ⟨w.heap.size, 2, none⟩ = some (.int .i64 dst) ∧ w'.cell? ⟨w.heap.size, 3, none⟩ = some (.slice (some ⟨b, off, none⟩) l.length c) ∧ w'.cell? ⟨w.heap.size, 4, none⟩ = some (.int .i64 imm) ∧ w'.cell? ⟨w.heap.size, 5, none⟩ = some (.int .i64 sym) ∧ w'.cell? ⟨w.heap.size, 6, none⟩ = some (.int .i64 el) ∧ w'.cell? ⟨w.heap.size, 7, none⟩ = some (.bool nw) ∧ w'.cell? ⟨w.heap.size + 2, 0, none⟩ = some (.slice GA gn gc) ∧ w'.cell? ⟨w.heap.size + 2, 1, none⟩ = some (.slice FA fn fc) ∧ w'.cell? ⟨w.heap.size + 1, 3, none⟩ = some (.slice (some ⟨rb, roff, none⟩) rl.length rc) ∧ w'.cell? ⟨b, off, none⟩ = some (.int .i64 (n0 : Int)) ∧ w'.cell? ⟨rb, roff + m, none⟩ = some (.int .i64 a) ∧ w'.cell? ⟨rb, roff + n0, none⟩ = some (.int .i64 a0)) (exact ⟨HS.out.i.cell 0, HS.out.i.cell 1, HS.out.i.cell 2, HS.out.i.cell 3, HS.out.i.cell 4, HS.out.i.cell 5, HS.out.i.cell 6, HS.out.i.cell 7, HS.out.m.cell 0, HS.out.m.cell 1, HS.out.f.cell 3, rd_cellAt HS.out.l HZ.out.2.1, rd_cellAt HS.out.r HZ.out.2.2.1, rd_cellAt HS.out.r HZ.out.2.2.2⟩) (first | (go_at_call 69; refine (opr_all k hk hk1 hk30 hn ty dst imm sym el a a0 j _ GA FA l.length c gn gc fn fc nw _).mono ?_; rintro en x5 ⟨rfl, hb⟩; replace HS := hide (HS.out.next hb); replace HBQ := hide (Below.all HBQ.out hb); clear hb))
                            cases e8 : opR k ty j a a0 with
                            | false =>
                              have e7 : acceptsB k ty (tysOf rl l) = false := by rw [HE9.out.1]; unfold opsR; rw [e8]; rfl
                              go_wp2_with fail
                              go_ret
                              exact ⟨by rw [HCK.out, if_pos e7]; rfl, HS.out.b⟩
                            | true =>
                              have hnx : opsR k ty a0 0 (tysOf rl l) = opsR k ty a0 (j + 1) ((tysOf rl l).drop (j + 1)) := by
                                rw [HE9.out.2, show opsR k ty a0 j (a :: (tysOf rl l).drop (j + 1)) = (opR k ty j a a0 && opsR k ty a0 (j + 1) ((tysOf rl l).drop (j + 1))) from rfl, e8, Bool.true_and]
                              go_wp2_with fail
                              go_roundw
                              case rel => exact ⟨j + 1, by go_num, by omega, HBQ.out, hnx⟩
                              case measure => simp [intOf]; omega
                          · have e7 : acceptsB k ty (tysOf rl l) = true := by
                              rw [HAE.out, hI, List.drop_eq_nil_of_le (by simp [tysOf]; omega)]; rfl
                            replace HCK := hide (HCK.out.trans (if_neg (by rw [e7]; simp)))
                            have HE7 := hide e7
                            clear hI e7
                            replace HE7 := hide HE7
                            go_upto_region 27 with fail
                            have i0 : World.cell? _ ⟨w.heap.size, 0, none⟩ = some (.int .i64 (k : Int)) := HS.out.i.cell 0
                            have i1 : World.cell? _ ⟨w.heap.size, 1, none⟩ = some (.int .i64 ty) := HS.out.i.cell 1
                            have i2 : World.cell? _ ⟨w.heap.size, 2, none⟩ = some (.int .i64 dst) := HS.out.i.cell 2
                            have f3 : World.cell? _ ⟨w.heap.size + 1, 3, none⟩ = some (.slice RA rl.length rc) := HS.out.f.cell 3
                            go_cut [236] from 198 to 236 (fun v wx => v = .bool (!dstM (k : Int) ty dst rl) ∧ Below wr.heap.size wr wx)
                            case first =>
                              rcases HIN.out with hd | ⟨hd, hd2⟩
                              · have hdm : dstM (k : Int) ty dst rl = (ty == 0) := by
                                  unfold dstM
                                  rw [if_pos hd, decide_eq_false (show ¬ (k : Int) = 30 by omega), Bool.or_false, Bool.eq_iff_iff]; simp
                                have g1 : (dst != -1) = false := by rw [hd]; rfl
                                have g2 : (dst == -1) = true := by rw [hd]; rfl
                                have g3 : decide ((0 : Int) ≤ dst) = false := by rw [hd]; rfl
                                clear hd
                                have HDM := hide hdm
                                clear hdm f3
                                cases t0 : (ty == 0) with
                                | true =>
                                  have t1 : (ty != 0) = false := by simp [bne, t0]
                                  go_wp2_with fail
                                  go_quiet (fail)
                                  go_wp2_with fail
                                  go_meet
                                  case rel => exact ⟨by rw [HDM.out]; simp [t0], Below.drewN' (Below.refl _ _) _⟩
                                | false =>
                                  have t1 : (ty != 0) = true := by simp [bne, t0]
                                  go_wp2_with fail
                                  go_quiet (fail)
                                  go_wp2_with fail
                                  go_meet
                                  case rel => exact ⟨by rw [HDM.out]; simp [t0], Below.drewN' (Below.refl _ _) _⟩
                              · obtain ⟨m, rfl⟩ := Int.eq_ofNat_of_zero_le hd
                                obtain ⟨a, ha⟩ : ∃ z, rl[m]? = some z := ⟨_, List.getElem?_eq_getElem (by omega)⟩
                                have hdm : dstM (k : Int) ty (m : Int) rl = ((ty != 0) && (ty == a)) := by
                                  unfold dstM
                                  rw [if_neg (by omega)]; simp [List.getD, ha]
                                have HDM := hide hdm
                                clear hdm
                                obtain ⟨rb, roff, hRe, -⟩ := HS.out.r.at (by omega)
                                subst hRe
                                have hca := rd_cellAt HS.out.r ha
                                clear ha
                                have g1 : ((m : Int) != -1) = true := by simp [bne]; try omega
                                have g2 : ((m : Int) == -1) = false := by simp; try omega
                                have g3 : decide ((0 : Int) ≤ (m : Int)) = true := by simp
                                have q1 : (0 : Int) ≤ (m : Int) := by omega
                                have q2 : (m : Int) < (rl.length : Int) := by omega
                                cases t0 : (ty == 0) with
                                | true =>
                                  have t1 : (ty != 0) = false := by simp [bne, t0]
                                  have t2 : (ty == a) = !(a != ty) := by rw [bne, Bool.not_not, Bool.beq_comm]
                                  have HT2 := hide t2
                                  clear t2
                                  go_wp2_with fail
                                  go_quiet (fail)
                                  go_wp2_with fail
                                  go_meet
                                  case rel => exact ⟨by rw [HDM.out, HT2.out]; simp [t1], Below.drewN' (Below.refl _ _) _⟩
                                | false =>
                                  have t1 : (ty != 0) = true := by simp [bne, t0]
                                  have t2 : (ty == a) = !(a != ty) := by rw [bne, Bool.not_not, Bool.beq_comm]
                                  have HT2 := hide t2
                                  clear t2
                                  go_wp2_with fail
                                  go_quiet (fail)
                                  go_wp2_with fail
                                  go_meet
                                  case rel => exact ⟨by rw [HDM.out, HT2.out]; simp [t1], Below.drewN' (Below.refl _ _) _⟩
                            case rest =>
                              obtain ⟨rfl, hbc⟩ := hcut
                              replace HS := hide (HS.out.next hbc)
                              clear hbc i0 i1 i2 f3
                              cases e8 : dstM (k : Int) ty dst rl with
                              | false =>
                                go_wp2_with fail
                                go_ret
                                exact ⟨by rw [HCK.out, if_pos e8]; rfl, HS.out.b⟩
                              | true =>
                                replace HCK := hide (HCK.out.trans (if_neg (by rw [e8]; simp)))
                                clear e8
                                have i0 : World.cell? _ ⟨w.heap.size, 0, none⟩ = some (.int .i64 (k : Int)) := HS.out.i.cell 0
                                have i1 : World.cell? _ ⟨w.heap.size, 1, none⟩ = some (.int .i64 ty) := HS.out.i.cell 1
                                have i4 : World.cell? _ ⟨w.heap.size, 4, none⟩ = some (.int .i64 imm) := HS.out.i.cell 4
                                have i6 : World.cell? _ ⟨w.heap.size, 6, none⟩ = some (.int .i64 el) := HS.out.i.cell 6
                                go_wp2_with fail
                                refine (racc_any el _).mono ?_
                                rintro en wn ⟨rfl, rfl⟩
                                rcases cls1 h1 h26 h33 with ⟨rfl, rfl, rfl⟩ | ⟨hk', rfl, rfl, rfl⟩ | ⟨hk', rfl, rfl, rfl⟩ | ⟨hk', rfl, rfl, rfl⟩
                                · have hfin : checkM (k : Int) ty dst imm sym el nw l rl gn fn = 0 := by
                                    rw [HCK.out]
                                    have y1 : ¬ (k : Int) = 1 := by simpa using h1
                                    have y26 : ¬ (k : Int) = 26 := by simpa using h26
                                    have y33 : ¬ (k : Int) = 33 := by simpa using h33
                                    simp only [immM, if_neg y1, if_neg y26, if_neg y33, decide_eq_false y26]; rfl
                                  have HF := hide hfin
                                  clear hfin HCK
                                  go_wp2_with fail
                                  go_quiet (fail)
                                  go_wp2_with fail
                                  go_quiet (fail)
                                  go_wp2_with fail
                                  go_ret
                                  exact ⟨by rw [HF.out]; rfl, Below.drewN' (Below.drewN' HS.out.b _) _⟩
                                · have hfin : checkM (k : Int) ty dst imm sym el nw l rl gn fn = (if (imm == wrapI ty imm) = false then 10 else 0) := by
                                    rw [HCK.out, hk']; rfl
                                  obtain ⟨y, hy⟩ : ∃ y, wrapI ty imm = y := ⟨_, rfl⟩
                                  rw [hy] at hfin
                                  have HW := hide (fun W => rwrap_y hy W)
                                  have t9 : (imm == y) = !(y != imm) := by rw [bne, Bool.not_not, Bool.beq_comm]
                                  rw [t9] at hfin
                                  have HF := hide hfin
                                  clear hfin HCK hy t9 hk'
                                  cases t0 : (y != imm) with
                                  | true =>
                                    go_wp2_with fail
                                    go_quiet (first | (go_at_call 71; exact Calls.quiet_of_same ((HW.out _).mono fun _ _ ⟨e1, e2⟩ => ⟨e1, e2.symm⟩)))
                                    go_wp2_with fail
                                    go_ret
                                    exact ⟨by rw [HF.out, t0]; rfl, by first | exact Below.drewN' HS.out.b _ | exact Below.drewN' (Below.drewN' HS.out.b _) _⟩
                                  | false =>
                                    go_wp2_with fail
                                    go_quiet (first | (go_at_call 71; exact Calls.quiet_of_same ((HW.out _).mono fun _ _ ⟨e1, e2⟩ => ⟨e1, e2.symm⟩)))
                                    go_wp2_with fail
                                    go_quiet (fail)
                                    go_wp2_with fail
                                    go_ret
                                    exact ⟨by rw [HF.out, t0]; rfl, by first | exact Below.drewN' HS.out.b _ | exact Below.drewN' (Below.drewN' HS.out.b _) _⟩
                                · have hfin : checkM (k : Int) ty dst imm sym el nw l rl gn fn = (if (!((accN el != 1) || (accT el != el))) = false then 9 else if (!(decide (imm < 1) || decide (256 < imm))) = false then 10 else 0) := by
                                    rw [HCK.out, hk', has_60]; simp only [immM]; simp [bne]
                                  obtain ⟨an, han⟩ : ∃ x, accN el = x := ⟨_, rfl⟩
                                  obtain ⟨at', hat⟩ : ∃ x, accT el = x := ⟨_, rfl⟩
                                  rw [han, hat] at hfin
                                  rw [han, hat]
                                  have HF := hide hfin
                                  clear hfin HCK hk' han hat
                                  cases t0 : (an != 1) with
                                  | true =>
                                    go_wp2_with fail
                                    go_ret
                                    exact ⟨by rw [HF.out, t0]; rfl, HS.out.b⟩
                                  | false =>
                                    cases t1 : (at' != el) with
                                    | true =>
                                      go_wp2_with fail
                                      go_ret
                                      exact ⟨by rw [HF.out, t0, t1]; rfl, HS.out.b⟩
                                    | false =>
                                      cases t2 : decide (imm < 1) with
                                      | true =>
                                        go_wp2_with fail
                                        go_quiet (fail)
                                        go_wp2_with fail
                                        go_ret
                                        exact ⟨by rw [HF.out, t0, t1, t2]; rfl, Below.drewN' HS.out.b _⟩
                                      | false =>
                                        cases t3 : decide (256 < imm) with
                                        | true =>
                                          go_wp2_with fail
                                          go_quiet (fail)
                                          go_wp2_with fail
                                          go_ret
                                          exact ⟨by rw [HF.out, t0, t1, t2, t3]; rfl, Below.drewN' HS.out.b _⟩
                                        | false =>
                                          go_wp2_with fail
                                          go_quiet (fail)
                                          go_wp2_with fail
                                          go_quiet (fail)
                                          go_wp2_with fail
                                          go_ret
                                          exact ⟨by rw [HF.out, t0, t1, t2, t3]; rfl, Below.drewN' (Below.drewN' HS.out.b _) _⟩
                                · obtain ⟨z0, rfl⟩ : ∃ z0, l = [z0] := HN33.out hk'
                                  obtain ⟨hzl, hzh⟩ := HA.out z0 (by simp)
                                  obtain ⟨m, rfl⟩ := Int.eq_ofNat_of_zero_le hzl
                                  obtain ⟨a, ha⟩ : ∃ z, rl[m]? = some z := ⟨_, List.getElem?_eq_getElem (by omega)⟩
                                  have ha67 : a = 6 ∨ a = 7 := by
                                    have := HE7.out; rw [hk'] at this; simp [tysOf, List.getD, ha] at this; exact lane_acc this
                                  have hfin : checkM (k : Int) ty dst imm sym el nw [(m : Int)] rl gn fn = (if (!(decide (imm < 0) || decide (3 < imm) || (decide (1 < imm) && (a == 6)))) = false then 10 else 0) := by
                                    rw [HCK.out, hk']; simp only [immM, List.headD, Int.toNat_natCast, List.getD, ha, Option.getD_some]
                                    rcases ha67 with rfl | rfl <;> simp [accN] <;> split <;> split <;> simp_all <;> omega
                                  have HF := hide hfin
                                  have i3 : World.cell? _ ⟨w.heap.size, 3, none⟩ = some (.slice A 1 c) := HS.out.i.cell 3
                                  have f3 : World.cell? _ ⟨w.heap.size + 1, 3, none⟩ = some (.slice RA rl.length rc) := HS.out.f.cell 3
                                  obtain ⟨b, off, hAe, -⟩ := HS.out.l.at (by simp)
                                  obtain ⟨rb, roff, hRe, -⟩ := HS.out.r.at (by omega)
                                  subst hAe hRe
                                  have hc0 : World.cell? _ ⟨b, off, none⟩ = some (.int .i64 (m : Int)) := rd_cellAt (l := [(m : Int)]) (j := 0) HS.out.l rfl
                                  have hca := rd_cellAt HS.out.r ha
                                  have q1 : (0 : Int) ≤ (m : Int) := by omega
                                  have q2 : (m : Int) < (rl.length : Int) := by omega
                                  clear hfin HCK hk' ha ha67 hzl hzh
                                  cases t0 : decide (imm < 0) with
                                  | true =>
                                    go_wp2_with fail
                                    go_quiet (fail)
                                    go_wp2_with fail
                                    go_quiet (fail)
                                    go_wp2_with fail
                                    go_ret
                                    exact ⟨by rw [HF.out, t0]; rfl, Below.drewN' (Below.drewN' HS.out.b _) _⟩
                                  | false =>
                                    cases t1 : decide (3 < imm) with
                                    | true =>
                                      go_wp2_with fail
                                      go_quiet (fail)
                                      go_wp2_with fail
                                      go_quiet (fail)
                                      go_wp2_with fail
                                      go_ret
                                      exact ⟨by rw [HF.out, t0, t1]; rfl, Below.drewN' (Below.drewN' HS.out.b _) _⟩
                                    | false =>
                                      cases t2 : decide (1 < imm) with
                                      | false =>
                                        go_wp2_with fail
                                        go_quiet (fail)
                                        go_wp2_with fail
                                        go_quiet (fail)
                                        go_wp2_with fail
                                        go_ret
                                        exact ⟨by rw [HF.out, t0, t1, t2]; rfl, Below.drewN' (Below.drewN' HS.out.b _) _⟩
                                      | true =>
                                        cases t3 : (a == 6) with
                                        | false =>
                                          go_wp2_with fail
                                          go_quiet (fail)
                                          go_wp2_with fail
                                          go_quiet (fail)
                                          go_wp2_with fail
                                          go_ret
                                          exact ⟨by rw [HF.out, t0, t1, t2, t3]; rfl, Below.drewN' (Below.drewN' HS.out.b _) _⟩
                                        | true =>
                                          go_wp2_with fail
                                          go_quiet (fail)
                                          go_wp2_with fail
                                          go_quiet (fail)
                                          go_wp2_with fail
                                          go_ret
                                          exact ⟨by rw [HF.out, t0, t1, t2, t3]; rfl, Below.drewN' (Below.drewN' HS.out.b _) _⟩
end Go.Proofs.YtnhaanjpcnnifaaDoor

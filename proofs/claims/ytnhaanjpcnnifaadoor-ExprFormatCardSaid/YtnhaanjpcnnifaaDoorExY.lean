/-
  Layer 23 (expr): the reference's Format.
-/
import Derived.Test.YtnhaanjpcnnifaaDoorExV
namespace Go.Proofs.YtnhaanjpcnnifaaDoor
open Go.RowKit Go.Deep
attribute [-go_sem] run_string_add_if

theorem rname_any (op : Int) (w : World) : Calls Tryd.prog 39 #[.int .i64 op] w fun e w' => e = .returned (.string ⟨(nameM op).toArray⟩) ∧ Below w.heap.size w w' := by
  by_cases h1 : op < 1
  · have g1 : decide (op < 1) = true := by simpa using h1
    have hn : nameM op = [] := by simp [nameM]; intro; omega
    rw [hn]; clear h1 hn
    go_enter Tryd.func39, Tryd.ntmps39
    go_wp2_with fail
    go_ret
    exact ⟨rfl, Below.refl _ _⟩
  have g1 : decide (op < 1) = false := by simpa using h1
  by_cases h2 : 33 < op
  · have g2 : decide (33 < op) = true := by simpa using h2
    have hn : nameM op = [] := by simp [nameM]; intro; omega
    rw [hn]; clear h1 h2 hn
    go_enter Tryd.func39, Tryd.ntmps39
    go_wp2_with fail
    go_ret
    exact ⟨rfl, Below.refl _ _⟩
  have g2 : decide (33 < op) = false := by simpa using h2
  obtain ⟨k, rfl⟩ : ∃ k : Nat, op = k := ⟨op.toNat, by omega⟩
  have hk : k < 34 := by omega
  have hn : nameM k = opNames.getD k [] := by unfold nameM; rw [if_pos (by omega)]; rfl
  rw [hn]
  have hs : opNames[k]? = some (opNames.getD k []) := by rw [List.getD_eq_getElem?_getD, List.getElem?_eq_getElem (by exact hk)]; rfl
  clear hn h1 h2
  go_enter Tryd.func39, Tryd.ntmps39
  go_wp2_with fail
  refine (rops_any _).mono ?_
  rintro en wn ⟨b, rfl, hb, hc⟩
  have hcell := hc k _ hs
  have HB := hide hb
  clear hb hc hs
  go_wp2_with fail
  go_ret
  exact ⟨rfl, HB.out⟩
theorem rtname_any (t : Int) (w : World) : Calls Tryd.prog 40 #[.int .i64 t] w fun e w' => e = .returned (.string ⟨(tnameM t).toArray⟩) ∧ Below w.heap.size w w' := by
  by_cases h1 : t < 0
  · have g1 : decide (t < 0) = true := by simpa using h1
    have hn : tnameM t = [] := by simp [tnameM]; intro; omega
    rw [hn]; clear h1 hn
    go_enter Tryd.func40, Tryd.ntmps40
    go_wp2_with fail
    go_ret
    exact ⟨rfl, Below.refl _ _⟩
  have g1 : decide (t < 0) = false := by simpa using h1
  by_cases h2 : 7 < t
  · have g2 : decide (7 < t) = true := by simpa using h2
    have hn : tnameM t = [] := by simp [tnameM]; intro; omega
    rw [hn]; clear h1 h2 hn
    go_enter Tryd.func40, Tryd.ntmps40
    go_wp2_with fail
    go_ret
    exact ⟨rfl, Below.refl _ _⟩
  have g2 : decide (7 < t) = false := by simpa using h2
  obtain ⟨k, rfl⟩ : ∃ k : Nat, t = k := ⟨t.toNat, by omega⟩
  have hk : k < 8 := by omega
  have hn : tnameM k = tyNames.getD k [] := by unfold tnameM; rw [if_pos (by omega)]; rfl
  rw [hn]
  have hs : tyNames[k]? = some (tyNames.getD k []) := by rw [List.getD_eq_getElem?_getD, List.getElem?_eq_getElem (by exact hk)]; rfl
  clear hn h1 h2
  go_enter Tryd.func40, Tryd.ntmps40
  go_wp2_with fail
  refine (rtypes_any _).mono ?_
  rintro en wn ⟨b, rfl, hb, hc⟩
  have hcell := hc k _ hs
  have HB := hide hb
  clear hb hc hs
  go_wp2_with fail
  go_ret
  exact ⟨rfl, HB.out⟩
theorem rname2_any (op : Int) (w : World) : Calls Tryd.prog 39 #[.int .i64 op] w fun e w' => e = .returned (.string (bsE (nameM op))) ∧ Below w.heap.size w w' := rname_any op w
theorem rtname2_any (t : Int) (w : World) : Calls Tryd.prog 40 #[.int .i64 t] w fun e w' => e = .returned (.string (bsE (tnameM t))) ∧ Below w.heap.size w w' := rtname_any t w
theorem bsE_none : (bsE []).toList.isEmpty = true := by rw [bsE_list]; rfl
theorem bsE_in {l : List UInt8} {b : Bool} (h : l.isEmpty = b) : (bsE l).toList.isEmpty = b := by rw [bsE_list]; exact h
set_option maxRecDepth 100000 in
set_option maxHeartbeats 16000000 in
theorem rformat_any (e : List NdD) (hin : ∀ x ∈ e, x.In) (EA : Option Addr) (ec : Nat) (w : World) (he : RdN w 3 (.slice EA e.length ec) (e.map NdD.cells)) (hlen : e.length ≤ 1000) :
    Calls Tryd.prog 23 #[.slice EA e.length ec] w fun en w' => en = .returned (.string (bsE (txtE fmtN e))) ∧ Below w.heap.size w w' := by
  have hec : ec ≤ 9223372036854775807 := by have h := he.room.2; unfold maxLen at h; omega
  have HE := hide he
  have HIN := hide hin
  have HLn := hide hlen
  have hi3 : (Tryd.prog.info? 40).map (·.size) = some 3 := by kernel_rfl
  have HI3 := hide hi3
  have HU3 := hide Tryd.underlying40
  clear he hin hi3
  go_enter Tryd.func23, Tryd.ntmps23
  go_wp2_with fail
  go_loopw [3, 10] (fun s z wr => ∃ k : Nat, k ≤ e.length ∧ z = .int .i64 k ∧ s = .string (bsE (txtE fmtN (e.take k))) ∧ Hid (Below w.heap.size w wr)) (fun _ z _ => e.length - (intOf z).toNat)
  case atStart => exact ⟨0, Nat.zero_le _, rfl, rfl, hide (Below.refl _ _)⟩
  case round =>
    obtain ⟨wq, rfl⟩ : ∃ x, x = wr := ⟨_, rfl⟩
    obtain ⟨k, hk, rfl, rfl, hb⟩ := hrel
    by_cases hlt : k < e.length
    · obtain ⟨x, hx⟩ : ∃ x, e[k]? = some x := ⟨_, List.getElem?_eq_getElem hlt⟩
      obtain ⟨bb, off, rfl, hlb, hrow⟩ := (HE.out.below' hb.out).row (i := k) (r := x.cells) (by rw [List.getElem?_map, hx]; rfl)
      have HRow : Hid (wq.rangeAt bb (off + k * 3) x.cells) := hide hrow
      have HX := hide hx
      have HXi := hide (HIN.out x (List.mem_of_getElem? hx))
      have HTL : Hid ((txtE fmtN (e.take k)).length ≤ 101000) := hide (by
        have h1 := txtE_len fmtN 100 (e.take k) (fun y hy => fmtN_len (HIN.out y (List.mem_of_mem_take hy)))
        rw [List.length_take] at h1
        have h2 : min k e.length * (100 + 1) ≤ 1000 * 101 := Nat.mul_le_mul_right _ (by omega)
        omega)
      have HJ := hide hlt
      clear hx hlb hrow
      go_upto_region 4 with fail
      refine wp_region_lit ?_
      go_step; go_step; go_step
      go_step; go_step; go_step
      refine wpList_load_mid (by rfl) _ _ rfl bb (off + k * 3) (by rfl) x.cells _ HRow.out HU3.out rfl HI3.out ?_
      go_step; go_step; go_step
      go_step; go_step; go_step
      refine wpList_store_new (by rfl) _ _ _ rfl _ _ x.cells (by rfl) (by rfl) (by rfl) HI3.out (nd_all1 x) ?_
      obtain ⟨bX, hbX⟩ : ∃ bX, wq.heap.size = bX := ⟨_, rfl⟩
      rw [hbX]
      obtain ⟨w3, hw3⟩ : ∃ z, wq.alloc (.cells x.cells.toArray 40) = z := ⟨_, rfl⟩
      have b13 : Below wq.heap.size wq w3 := by rw [← hw3]; exact (Below.refl _ _).alloc (Nat.le_refl _) _
      have HV : Hid (Whole w3 bX 40 x.cells.toArray) := hide (by rw [← hw3, ← hbX]; exact Whole.new wq _ _)
      replace hb := hide (Below.all hb.out b13)
      rw [hw3]
      clear hw3 b13 HRow hbX
      obtain ⟨op, ty, n⟩ := x
      obtain ⟨T, hT⟩ : ∃ l, txtE fmtN (e.take k) = l := ⟨_, rfl⟩
      rw [hT] at HTL
      rw [hT]
      have hpre : ∃ P : List UInt8, Hid (P ++ fmtN ⟨op, ty, n⟩ = txtE fmtN (e.take (k + 1)) ∧ P.length ≤ 101001) ∧ (k = 0 ∧ P = T ∨ k ≠ 0 ∧ P = T ++ [32]) := by
        rcases Nat.eq_zero_or_pos k with h0 | h0
        · subst h0
          have hT0 : T = [] := by rw [← hT]; rfl
          exact ⟨T, hide ⟨by rw [hT0, List.nil_append, take_next HX.out, List.take_zero, List.nil_append, txtE_one], by have := HTL.out; omega⟩, .inl ⟨rfl, rfl⟩⟩
        · refine ⟨T ++ [32], hide ⟨?_, by have := HTL.out; rw [List.length_append, List.length_singleton]; omega⟩, .inr ⟨by omega, rfl⟩⟩
          rw [take_next HX.out, txtE_snoc fmtN _ _ (by intro h; have := congrArg List.length h; rw [List.length_take] at this; simp only [List.length_nil] at this; omega), ← hT]
          simp
      obtain ⟨P, HP, hPk⟩ := hpre
      have hsp : ∀ W, (Op.stringOp .add (bsE T) ⟨#[32]⟩).run Tryd.prog W = .ok (.string (bsE (T ++ [32]))) W := fun W => catE T [32] (by have := HTL.out; omega) (by simp) W
      have n0 : w3.cell? ⟨bX, 0, none⟩ = some (.int .i64 op) := HV.out.cell 0
      have n1 : w3.cell? ⟨bX, 1, none⟩ = some (.int .i64 ty) := HV.out.cell 1
      have n2 : w3.cell? ⟨bX, 2, none⟩ = some (.int .i64 n) := HV.out.cell 2
      clear hT
      rcases hPk with ⟨hk0, hP⟩ | ⟨hk0, hP⟩
      · have gk : decide ((k : Int) > 0) = false := by simp; omega
        have gk2 : decide ((0 : Int) < (k : Int)) = false := by simp; omega
        have gk3 : decide (0 < k) = false := by simp; omega
        subst hP
        clear hk0 hsp
        by_cases h4 : op = 4 ∧ ty = 0
        · obtain ⟨rfl, rfl⟩ := h4
          have hNl : (Lib.itoa n).length ≤ 21 := itoa_len HXi.out.2.2
          have HFIN : Hid (txtE fmtN (e.take (k + 1)) = P ++ [114] ++ Lib.itoa n) := hide (by rw [← HP.out.1, show fmtN ⟨4, 0, n⟩ = 114 :: Lib.itoa n from rfl, List.append_assoc]; rfl)
          have HBB := hb
          have s1 : ∀ W, (Op.stringOp .add (bsE P) ⟨#[114]⟩).run Tryd.prog W = .ok (.string (bsE (P ++ [114]))) W := fun W => catE P [114] (by have := HP.out.2; first | omega | (simp; omega)) (by first | omega | simp) W
          have s2 : ∀ W, (Op.stringOp .add (bsE (P ++ [114])) (bsE (Lib.itoa n))).run Tryd.prog W = .ok (.string (bsE (P ++ [114] ++ Lib.itoa n))) W := fun W => catE (P ++ [114]) (Lib.itoa n) (by have := HP.out.2; first | omega | (simp; omega)) (by first | omega | simp) W
          obtain ⟨l1, e1⟩ : ∃ l, P ++ [114] = l := ⟨_, rfl⟩
          rw [e1] at s1 s2 HFIN
          obtain ⟨l2, e2⟩ : ∃ l, l1 ++ Lib.itoa n = l := ⟨_, rfl⟩
          rw [e2] at s2 HFIN
          clear hNl e1 e2
          go_wp2_with (go_at_call 38; refine (rdec_any _ (by first | exact HXi.out.1 | exact HXi.out.2.1 | exact HXi.out.2.2) _).mono ?_; rintro en w9 ⟨rfl, rfl⟩)
          go_roundw
          case rel => exact ⟨k + 1, by have := HJ.out; omega, by go_num, by rw [HFIN.out], HBB⟩
          case measure => have := HJ.out; simp [intOf]; omega
        · have hNl : (Lib.itoa n).length ≤ 21 := itoa_len HXi.out.2.2
          have HF4 : Hid (fmtN ⟨op, ty, n⟩ = nmE (nameM op) op ++ 58 :: (nmE (tnameM ty) ty ++ 58 :: Lib.itoa n)) := hide (by unfold fmtN; rw [if_neg h4])
          have g4 : ((op == 4) = true ∧ (ty == 0) = false) ∨ (op == 4) = false := by
            by_cases h : op = 4
            · exact .inl ⟨by simpa using h, by simpa using fun h5 => h4 ⟨h, h5⟩⟩
            · exact .inr (by simpa using h)
          have hAl : (nmE (nameM op) op).length ≤ 21 := nmE_len HXi.out.1 (name_len op)
          have hBl : (nmE (tnameM ty) ty).length ≤ 21 := nmE_len HXi.out.2.1 (tname_len ty)
          obtain ⟨A, hA⟩ : ∃ A, nmE (nameM op) op = A := ⟨_, rfl⟩
          obtain ⟨B, hB⟩ : ∃ B, nmE (tnameM ty) ty = B := ⟨_, rfl⟩
          obtain ⟨N, hN⟩ : ∃ N, Lib.itoa n = N := ⟨_, rfl⟩
          rw [hA] at hAl HF4
          rw [hB] at hBl HF4
          rw [hN] at hNl HF4
          have HFIN : Hid (txtE fmtN (e.take (k + 1)) = P ++ A ++ [58] ++ B ++ [58] ++ N) := hide (by rw [← HP.out.1, HF4.out]; simp)
          have s1 : ∀ W, (Op.stringOp .add (bsE P) (bsE A)).run Tryd.prog W = .ok (.string (bsE (P ++ A))) W := fun W => catE P A (by have := HP.out.2; first | omega | (simp; omega)) (by first | omega | simp) W
          have s2 : ∀ W, (Op.stringOp .add (bsE (P ++ A)) ⟨#[58]⟩).run Tryd.prog W = .ok (.string (bsE (P ++ A ++ [58]))) W := fun W => catE (P ++ A) [58] (by have := HP.out.2; first | omega | (simp; omega)) (by first | omega | simp) W
          have s3 : ∀ W, (Op.stringOp .add (bsE (P ++ A ++ [58])) (bsE B)).run Tryd.prog W = .ok (.string (bsE (P ++ A ++ [58] ++ B))) W := fun W => catE (P ++ A ++ [58]) B (by have := HP.out.2; first | omega | (simp; omega)) (by first | omega | simp) W
          have s4 : ∀ W, (Op.stringOp .add (bsE (P ++ A ++ [58] ++ B)) ⟨#[58]⟩).run Tryd.prog W = .ok (.string (bsE (P ++ A ++ [58] ++ B ++ [58]))) W := fun W => catE (P ++ A ++ [58] ++ B) [58] (by have := HP.out.2; first | omega | (simp; omega)) (by first | omega | simp) W
          have s5 : ∀ W, (Op.stringOp .add (bsE (P ++ A ++ [58] ++ B ++ [58])) (bsE N)).run Tryd.prog W = .ok (.string (bsE (P ++ A ++ [58] ++ B ++ [58] ++ N))) W := fun W => catE (P ++ A ++ [58] ++ B ++ [58]) N (by have := HP.out.2; first | omega | (simp; omega)) (by first | omega | simp) W
          have HN := hide hN
          have HA := hide hA
          have HBn := hide hB
          clear hAl hBl hNl h4 hA hB hN HF4
          have he0 := bsE_none
          obtain ⟨l1, e1⟩ : ∃ l, P ++ A = l := ⟨_, rfl⟩
          rw [e1] at s1 s2 s3 s4 s5 HFIN
          obtain ⟨l2, e2⟩ : ∃ l, l1 ++ [58] = l := ⟨_, rfl⟩
          rw [e2] at s2 s3 s4 s5 HFIN
          obtain ⟨l3, e3⟩ : ∃ l, l2 ++ B = l := ⟨_, rfl⟩
          rw [e3] at s3 s4 s5 HFIN
          obtain ⟨l4, e4⟩ : ∃ l, l3 ++ [58] = l := ⟨_, rfl⟩
          rw [e4] at s4 s5 HFIN
          obtain ⟨l5, e5⟩ : ∃ l, l4 ++ N = l := ⟨_, rfl⟩
          rw [e5] at s5 HFIN
          clear e1 e2 e3 e4 e5
          have hnn : (nameM op = [] ∧ A = Lib.itoa op) ∨ ((bsE A).toList.isEmpty = false ∧ nameM op = A) := by
            have := HA.out
            unfold nmE at this
            split at this
            · exact .inl ⟨by assumption, this.symm⟩
            · rename_i h
              exact .inr ⟨by rw [← this]; exact bsE_empty h, this⟩
          have htt : (tnameM ty = [] ∧ B = Lib.itoa ty) ∨ ((bsE B).toList.isEmpty = false ∧ tnameM ty = B) := by
            have := HBn.out
            unfold nmE at this
            split at this
            · exact .inl ⟨by assumption, this.symm⟩
            · rename_i h
              exact .inr ⟨by rw [← this]; exact bsE_empty h, this⟩
          rcases hnn with ⟨hn1, hn2⟩ | ⟨hn1, hn2⟩ <;> rcases htt with ⟨ht1, ht2⟩ | ⟨ht1, ht2⟩ <;> rcases g4 with ⟨g5, g6⟩ | g5
          · have HN1 := hide hn1
            have HN2 := hide hn2
            have HT1 := hide ht1
            have HT2 := hide ht2
            clear hn1 hn2 ht1 ht2
            go_upto_region 10 with (go_at_call 39; refine (rname2_any op _).mono ?_; rintro en w4 ⟨rfl, hb4⟩; rw [HN1.out]; have HB4 := hide hb4; clear hb4 n0 n1 n2)
            have m0 : w4.cell? ⟨bX, 0, none⟩ = some (.int .i64 op) := (HV.out.below' HB4.out).cell 0
            have m1 : w4.cell? ⟨bX, 1, none⟩ = some (.int .i64 ty) := (HV.out.below' HB4.out).cell 1
            go_upto_region 13 with (first
              | (go_at_call 38; refine (rdec_any op HXi.out.1 _).mono ?_; rintro en w9 ⟨rfl, rfl⟩; rw [← HN2.out])
              | (go_at_call 40; refine (rtname2_any ty _).mono ?_; rintro en w5 ⟨rfl, hb5⟩; rw [HT1.out]; have HB5 := hide hb5; clear hb5 m0 m1))
            have HBB : Hid (Below w.heap.size w w5) := hide (Below.all (Below.all hb.out HB4.out) HB5.out)
            have q1 : w5.cell? ⟨bX, 1, none⟩ = some (.int .i64 ty) := ((HV.out.below' HB4.out).below' HB5.out).cell 1
            have q2 : w5.cell? ⟨bX, 2, none⟩ = some (.int .i64 n) := ((HV.out.below' HB4.out).below' HB5.out).cell 2
            go_upto_region 15 with (go_at_call 38; refine (rdec_any ty HXi.out.2.1 _).mono ?_; rintro en w9 ⟨rfl, rfl⟩; rw [← HT2.out])
            go_wp2_with (go_at_call 38; refine (rdec_any n HXi.out.2.2 _).mono ?_; rintro en w9 ⟨rfl, rfl⟩; rw [HN.out])
            go_roundw
            case rel => exact ⟨k + 1, by have := HJ.out; omega, by go_num, by rw [HFIN.out], HBB⟩
            case measure => have := HJ.out; simp [intOf]; omega
          · have HN1 := hide hn1
            have HN2 := hide hn2
            have HT1 := hide ht1
            have HT2 := hide ht2
            clear hn1 hn2 ht1 ht2
            go_upto_region 10 with (go_at_call 39; refine (rname2_any op _).mono ?_; rintro en w4 ⟨rfl, hb4⟩; rw [HN1.out]; have HB4 := hide hb4; clear hb4 n0 n1 n2)
            have m0 : w4.cell? ⟨bX, 0, none⟩ = some (.int .i64 op) := (HV.out.below' HB4.out).cell 0
            have m1 : w4.cell? ⟨bX, 1, none⟩ = some (.int .i64 ty) := (HV.out.below' HB4.out).cell 1
            go_upto_region 13 with (first
              | (go_at_call 38; refine (rdec_any op HXi.out.1 _).mono ?_; rintro en w9 ⟨rfl, rfl⟩; rw [← HN2.out])
              | (go_at_call 40; refine (rtname2_any ty _).mono ?_; rintro en w5 ⟨rfl, hb5⟩; rw [HT1.out]; have HB5 := hide hb5; clear hb5 m0 m1))
            have HBB : Hid (Below w.heap.size w w5) := hide (Below.all (Below.all hb.out HB4.out) HB5.out)
            have q1 : w5.cell? ⟨bX, 1, none⟩ = some (.int .i64 ty) := ((HV.out.below' HB4.out).below' HB5.out).cell 1
            have q2 : w5.cell? ⟨bX, 2, none⟩ = some (.int .i64 n) := ((HV.out.below' HB4.out).below' HB5.out).cell 2
            go_upto_region 15 with (go_at_call 38; refine (rdec_any ty HXi.out.2.1 _).mono ?_; rintro en w9 ⟨rfl, rfl⟩; rw [← HT2.out])
            go_wp2_with (go_at_call 38; refine (rdec_any n HXi.out.2.2 _).mono ?_; rintro en w9 ⟨rfl, rfl⟩; rw [HN.out])
            go_roundw
            case rel => exact ⟨k + 1, by have := HJ.out; omega, by go_num, by rw [HFIN.out], HBB⟩
            case measure => have := HJ.out; simp [intOf]; omega
          · have HN1 := hide hn1
            have HN2 := hide hn2
            have HT2 := hide ht2
            clear hn1 hn2 ht2
            go_upto_region 10 with (go_at_call 39; refine (rname2_any op _).mono ?_; rintro en w4 ⟨rfl, hb4⟩; rw [HN1.out]; have HB4 := hide hb4; clear hb4 n0 n1 n2)
            have m0 : w4.cell? ⟨bX, 0, none⟩ = some (.int .i64 op) := (HV.out.below' HB4.out).cell 0
            have m1 : w4.cell? ⟨bX, 1, none⟩ = some (.int .i64 ty) := (HV.out.below' HB4.out).cell 1
            go_upto_region 13 with (first
              | (go_at_call 38; refine (rdec_any op HXi.out.1 _).mono ?_; rintro en w9 ⟨rfl, rfl⟩; rw [← HN2.out])
              | (go_at_call 40; refine (rtname2_any ty _).mono ?_; rintro en w5 ⟨rfl, hb5⟩; rw [HT2.out]; have HB5 := hide hb5; clear hb5 m0 m1))
            have HBB : Hid (Below w.heap.size w w5) := hide (Below.all (Below.all hb.out HB4.out) HB5.out)
            have q1 : w5.cell? ⟨bX, 1, none⟩ = some (.int .i64 ty) := ((HV.out.below' HB4.out).below' HB5.out).cell 1
            have q2 : w5.cell? ⟨bX, 2, none⟩ = some (.int .i64 n) := ((HV.out.below' HB4.out).below' HB5.out).cell 2
            go_wp2_with (go_at_call 38; refine (rdec_any n HXi.out.2.2 _).mono ?_; rintro en w9 ⟨rfl, rfl⟩; rw [HN.out])
            go_roundw
            case rel => exact ⟨k + 1, by have := HJ.out; omega, by go_num, by rw [HFIN.out], HBB⟩
            case measure => have := HJ.out; simp [intOf]; omega
          · have HN1 := hide hn1
            have HN2 := hide hn2
            have HT2 := hide ht2
            clear hn1 hn2 ht2
            go_upto_region 10 with (go_at_call 39; refine (rname2_any op _).mono ?_; rintro en w4 ⟨rfl, hb4⟩; rw [HN1.out]; have HB4 := hide hb4; clear hb4 n0 n1 n2)
            have m0 : w4.cell? ⟨bX, 0, none⟩ = some (.int .i64 op) := (HV.out.below' HB4.out).cell 0
            have m1 : w4.cell? ⟨bX, 1, none⟩ = some (.int .i64 ty) := (HV.out.below' HB4.out).cell 1
            go_upto_region 13 with (first
              | (go_at_call 38; refine (rdec_any op HXi.out.1 _).mono ?_; rintro en w9 ⟨rfl, rfl⟩; rw [← HN2.out])
              | (go_at_call 40; refine (rtname2_any ty _).mono ?_; rintro en w5 ⟨rfl, hb5⟩; rw [HT2.out]; have HB5 := hide hb5; clear hb5 m0 m1))
            have HBB : Hid (Below w.heap.size w w5) := hide (Below.all (Below.all hb.out HB4.out) HB5.out)
            have q1 : w5.cell? ⟨bX, 1, none⟩ = some (.int .i64 ty) := ((HV.out.below' HB4.out).below' HB5.out).cell 1
            have q2 : w5.cell? ⟨bX, 2, none⟩ = some (.int .i64 n) := ((HV.out.below' HB4.out).below' HB5.out).cell 2
            go_wp2_with (go_at_call 38; refine (rdec_any n HXi.out.2.2 _).mono ?_; rintro en w9 ⟨rfl, rfl⟩; rw [HN.out])
            go_roundw
            case rel => exact ⟨k + 1, by have := HJ.out; omega, by go_num, by rw [HFIN.out], HBB⟩
            case measure => have := HJ.out; simp [intOf]; omega
          · have HN2 := hide hn2
            have HT1 := hide ht1
            have HT2 := hide ht2
            clear hn2 ht1 ht2
            go_upto_region 10 with (go_at_call 39; refine (rname2_any op _).mono ?_; rintro en w4 ⟨rfl, hb4⟩; rw [HN2.out]; have HB4 := hide hb4; clear hb4 n0 n1 n2)
            have m0 : w4.cell? ⟨bX, 0, none⟩ = some (.int .i64 op) := (HV.out.below' HB4.out).cell 0
            have m1 : w4.cell? ⟨bX, 1, none⟩ = some (.int .i64 ty) := (HV.out.below' HB4.out).cell 1
            go_upto_region 13 with (first
              | (go_at_call 38; refine (rdec_any op HXi.out.1 _).mono ?_; rintro en w9 ⟨rfl, rfl⟩)
              | (go_at_call 40; refine (rtname2_any ty _).mono ?_; rintro en w5 ⟨rfl, hb5⟩; rw [HT1.out]; have HB5 := hide hb5; clear hb5 m0 m1))
            have HBB : Hid (Below w.heap.size w w5) := hide (Below.all (Below.all hb.out HB4.out) HB5.out)
            have q1 : w5.cell? ⟨bX, 1, none⟩ = some (.int .i64 ty) := ((HV.out.below' HB4.out).below' HB5.out).cell 1
            have q2 : w5.cell? ⟨bX, 2, none⟩ = some (.int .i64 n) := ((HV.out.below' HB4.out).below' HB5.out).cell 2
            go_upto_region 15 with (go_at_call 38; refine (rdec_any ty HXi.out.2.1 _).mono ?_; rintro en w9 ⟨rfl, rfl⟩; rw [← HT2.out])
            go_wp2_with (go_at_call 38; refine (rdec_any n HXi.out.2.2 _).mono ?_; rintro en w9 ⟨rfl, rfl⟩; rw [HN.out])
            go_roundw
            case rel => exact ⟨k + 1, by have := HJ.out; omega, by go_num, by rw [HFIN.out], HBB⟩
            case measure => have := HJ.out; simp [intOf]; omega
          · have HN2 := hide hn2
            have HT1 := hide ht1
            have HT2 := hide ht2
            clear hn2 ht1 ht2
            go_upto_region 10 with (go_at_call 39; refine (rname2_any op _).mono ?_; rintro en w4 ⟨rfl, hb4⟩; rw [HN2.out]; have HB4 := hide hb4; clear hb4 n0 n1 n2)
            have m0 : w4.cell? ⟨bX, 0, none⟩ = some (.int .i64 op) := (HV.out.below' HB4.out).cell 0
            have m1 : w4.cell? ⟨bX, 1, none⟩ = some (.int .i64 ty) := (HV.out.below' HB4.out).cell 1
            go_upto_region 13 with (first
              | (go_at_call 38; refine (rdec_any op HXi.out.1 _).mono ?_; rintro en w9 ⟨rfl, rfl⟩)
              | (go_at_call 40; refine (rtname2_any ty _).mono ?_; rintro en w5 ⟨rfl, hb5⟩; rw [HT1.out]; have HB5 := hide hb5; clear hb5 m0 m1))
            have HBB : Hid (Below w.heap.size w w5) := hide (Below.all (Below.all hb.out HB4.out) HB5.out)
            have q1 : w5.cell? ⟨bX, 1, none⟩ = some (.int .i64 ty) := ((HV.out.below' HB4.out).below' HB5.out).cell 1
            have q2 : w5.cell? ⟨bX, 2, none⟩ = some (.int .i64 n) := ((HV.out.below' HB4.out).below' HB5.out).cell 2
            go_upto_region 15 with (go_at_call 38; refine (rdec_any ty HXi.out.2.1 _).mono ?_; rintro en w9 ⟨rfl, rfl⟩; rw [← HT2.out])
            go_wp2_with (go_at_call 38; refine (rdec_any n HXi.out.2.2 _).mono ?_; rintro en w9 ⟨rfl, rfl⟩; rw [HN.out])
            go_roundw
            case rel => exact ⟨k + 1, by have := HJ.out; omega, by go_num, by rw [HFIN.out], HBB⟩
            case measure => have := HJ.out; simp [intOf]; omega
          · have HN2 := hide hn2
            have HT2 := hide ht2
            clear hn2 ht2
            go_upto_region 10 with (go_at_call 39; refine (rname2_any op _).mono ?_; rintro en w4 ⟨rfl, hb4⟩; rw [HN2.out]; have HB4 := hide hb4; clear hb4 n0 n1 n2)
            have m0 : w4.cell? ⟨bX, 0, none⟩ = some (.int .i64 op) := (HV.out.below' HB4.out).cell 0
            have m1 : w4.cell? ⟨bX, 1, none⟩ = some (.int .i64 ty) := (HV.out.below' HB4.out).cell 1
            go_upto_region 13 with (first
              | (go_at_call 38; refine (rdec_any op HXi.out.1 _).mono ?_; rintro en w9 ⟨rfl, rfl⟩)
              | (go_at_call 40; refine (rtname2_any ty _).mono ?_; rintro en w5 ⟨rfl, hb5⟩; rw [HT2.out]; have HB5 := hide hb5; clear hb5 m0 m1))
            have HBB : Hid (Below w.heap.size w w5) := hide (Below.all (Below.all hb.out HB4.out) HB5.out)
            have q1 : w5.cell? ⟨bX, 1, none⟩ = some (.int .i64 ty) := ((HV.out.below' HB4.out).below' HB5.out).cell 1
            have q2 : w5.cell? ⟨bX, 2, none⟩ = some (.int .i64 n) := ((HV.out.below' HB4.out).below' HB5.out).cell 2
            go_wp2_with (go_at_call 38; refine (rdec_any n HXi.out.2.2 _).mono ?_; rintro en w9 ⟨rfl, rfl⟩; rw [HN.out])
            go_roundw
            case rel => exact ⟨k + 1, by have := HJ.out; omega, by go_num, by rw [HFIN.out], HBB⟩
            case measure => have := HJ.out; simp [intOf]; omega
          · have HN2 := hide hn2
            have HT2 := hide ht2
            clear hn2 ht2
            go_upto_region 10 with (go_at_call 39; refine (rname2_any op _).mono ?_; rintro en w4 ⟨rfl, hb4⟩; rw [HN2.out]; have HB4 := hide hb4; clear hb4 n0 n1 n2)
            have m0 : w4.cell? ⟨bX, 0, none⟩ = some (.int .i64 op) := (HV.out.below' HB4.out).cell 0
            have m1 : w4.cell? ⟨bX, 1, none⟩ = some (.int .i64 ty) := (HV.out.below' HB4.out).cell 1
            go_upto_region 13 with (first
              | (go_at_call 38; refine (rdec_any op HXi.out.1 _).mono ?_; rintro en w9 ⟨rfl, rfl⟩)
              | (go_at_call 40; refine (rtname2_any ty _).mono ?_; rintro en w5 ⟨rfl, hb5⟩; rw [HT2.out]; have HB5 := hide hb5; clear hb5 m0 m1))
            have HBB : Hid (Below w.heap.size w w5) := hide (Below.all (Below.all hb.out HB4.out) HB5.out)
            have q1 : w5.cell? ⟨bX, 1, none⟩ = some (.int .i64 ty) := ((HV.out.below' HB4.out).below' HB5.out).cell 1
            have q2 : w5.cell? ⟨bX, 2, none⟩ = some (.int .i64 n) := ((HV.out.below' HB4.out).below' HB5.out).cell 2
            go_wp2_with (go_at_call 38; refine (rdec_any n HXi.out.2.2 _).mono ?_; rintro en w9 ⟨rfl, rfl⟩; rw [HN.out])
            go_roundw
            case rel => exact ⟨k + 1, by have := HJ.out; omega, by go_num, by rw [HFIN.out], HBB⟩
            case measure => have := HJ.out; simp [intOf]; omega
      · have gk : decide ((k : Int) > 0) = true := by simp; omega
        have gk2 : decide ((0 : Int) < (k : Int)) = true := by simp; omega
        have gk3 : decide (0 < k) = true := by simp; omega
        rw [← hP] at hsp
        clear hk0 hP
        by_cases h4 : op = 4 ∧ ty = 0
        · obtain ⟨rfl, rfl⟩ := h4
          have hNl : (Lib.itoa n).length ≤ 21 := itoa_len HXi.out.2.2
          have HFIN : Hid (txtE fmtN (e.take (k + 1)) = P ++ [114] ++ Lib.itoa n) := hide (by rw [← HP.out.1, show fmtN ⟨4, 0, n⟩ = 114 :: Lib.itoa n from rfl, List.append_assoc]; rfl)
          have HBB := hb
          have s1 : ∀ W, (Op.stringOp .add (bsE P) ⟨#[114]⟩).run Tryd.prog W = .ok (.string (bsE (P ++ [114]))) W := fun W => catE P [114] (by have := HP.out.2; first | omega | (simp; omega)) (by first | omega | simp) W
          have s2 : ∀ W, (Op.stringOp .add (bsE (P ++ [114])) (bsE (Lib.itoa n))).run Tryd.prog W = .ok (.string (bsE (P ++ [114] ++ Lib.itoa n))) W := fun W => catE (P ++ [114]) (Lib.itoa n) (by have := HP.out.2; first | omega | (simp; omega)) (by first | omega | simp) W
          obtain ⟨l1, e1⟩ : ∃ l, P ++ [114] = l := ⟨_, rfl⟩
          rw [e1] at s1 s2 HFIN
          obtain ⟨l2, e2⟩ : ∃ l, l1 ++ Lib.itoa n = l := ⟨_, rfl⟩
          rw [e2] at s2 HFIN
          clear hNl e1 e2
          go_wp2_with (go_at_call 38; refine (rdec_any _ (by first | exact HXi.out.1 | exact HXi.out.2.1 | exact HXi.out.2.2) _).mono ?_; rintro en w9 ⟨rfl, rfl⟩)
          go_roundw
          case rel => exact ⟨k + 1, by have := HJ.out; omega, by go_num, by rw [HFIN.out], HBB⟩
          case measure => have := HJ.out; simp [intOf]; omega
        · have hNl : (Lib.itoa n).length ≤ 21 := itoa_len HXi.out.2.2
          have HF4 : Hid (fmtN ⟨op, ty, n⟩ = nmE (nameM op) op ++ 58 :: (nmE (tnameM ty) ty ++ 58 :: Lib.itoa n)) := hide (by unfold fmtN; rw [if_neg h4])
          have g4 : ((op == 4) = true ∧ (ty == 0) = false) ∨ (op == 4) = false := by
            by_cases h : op = 4
            · exact .inl ⟨by simpa using h, by simpa using fun h5 => h4 ⟨h, h5⟩⟩
            · exact .inr (by simpa using h)
          have hAl : (nmE (nameM op) op).length ≤ 21 := nmE_len HXi.out.1 (name_len op)
          have hBl : (nmE (tnameM ty) ty).length ≤ 21 := nmE_len HXi.out.2.1 (tname_len ty)
          obtain ⟨A, hA⟩ : ∃ A, nmE (nameM op) op = A := ⟨_, rfl⟩
          obtain ⟨B, hB⟩ : ∃ B, nmE (tnameM ty) ty = B := ⟨_, rfl⟩
          obtain ⟨N, hN⟩ : ∃ N, Lib.itoa n = N := ⟨_, rfl⟩
          rw [hA] at hAl HF4
          rw [hB] at hBl HF4
          rw [hN] at hNl HF4
          have HFIN : Hid (txtE fmtN (e.take (k + 1)) = P ++ A ++ [58] ++ B ++ [58] ++ N) := hide (by rw [← HP.out.1, HF4.out]; simp)
          have s1 : ∀ W, (Op.stringOp .add (bsE P) (bsE A)).run Tryd.prog W = .ok (.string (bsE (P ++ A))) W := fun W => catE P A (by have := HP.out.2; first | omega | (simp; omega)) (by first | omega | simp) W
          have s2 : ∀ W, (Op.stringOp .add (bsE (P ++ A)) ⟨#[58]⟩).run Tryd.prog W = .ok (.string (bsE (P ++ A ++ [58]))) W := fun W => catE (P ++ A) [58] (by have := HP.out.2; first | omega | (simp; omega)) (by first | omega | simp) W
          have s3 : ∀ W, (Op.stringOp .add (bsE (P ++ A ++ [58])) (bsE B)).run Tryd.prog W = .ok (.string (bsE (P ++ A ++ [58] ++ B))) W := fun W => catE (P ++ A ++ [58]) B (by have := HP.out.2; first | omega | (simp; omega)) (by first | omega | simp) W
          have s4 : ∀ W, (Op.stringOp .add (bsE (P ++ A ++ [58] ++ B)) ⟨#[58]⟩).run Tryd.prog W = .ok (.string (bsE (P ++ A ++ [58] ++ B ++ [58]))) W := fun W => catE (P ++ A ++ [58] ++ B) [58] (by have := HP.out.2; first | omega | (simp; omega)) (by first | omega | simp) W
          have s5 : ∀ W, (Op.stringOp .add (bsE (P ++ A ++ [58] ++ B ++ [58])) (bsE N)).run Tryd.prog W = .ok (.string (bsE (P ++ A ++ [58] ++ B ++ [58] ++ N))) W := fun W => catE (P ++ A ++ [58] ++ B ++ [58]) N (by have := HP.out.2; first | omega | (simp; omega)) (by first | omega | simp) W
          have HN := hide hN
          have HA := hide hA
          have HBn := hide hB
          clear hAl hBl hNl h4 hA hB hN HF4
          have he0 := bsE_none
          obtain ⟨l1, e1⟩ : ∃ l, P ++ A = l := ⟨_, rfl⟩
          rw [e1] at s1 s2 s3 s4 s5 HFIN
          obtain ⟨l2, e2⟩ : ∃ l, l1 ++ [58] = l := ⟨_, rfl⟩
          rw [e2] at s2 s3 s4 s5 HFIN
          obtain ⟨l3, e3⟩ : ∃ l, l2 ++ B = l := ⟨_, rfl⟩
          rw [e3] at s3 s4 s5 HFIN
          obtain ⟨l4, e4⟩ : ∃ l, l3 ++ [58] = l := ⟨_, rfl⟩
          rw [e4] at s4 s5 HFIN
          obtain ⟨l5, e5⟩ : ∃ l, l4 ++ N = l := ⟨_, rfl⟩
          rw [e5] at s5 HFIN
          clear e1 e2 e3 e4 e5
          have hnn : (nameM op = [] ∧ A = Lib.itoa op) ∨ ((bsE A).toList.isEmpty = false ∧ nameM op = A) := by
            have := HA.out
            unfold nmE at this
            split at this
            · exact .inl ⟨by assumption, this.symm⟩
            · rename_i h
              exact .inr ⟨by rw [← this]; exact bsE_empty h, this⟩
          have htt : (tnameM ty = [] ∧ B = Lib.itoa ty) ∨ ((bsE B).toList.isEmpty = false ∧ tnameM ty = B) := by
            have := HBn.out
            unfold nmE at this
            split at this
            · exact .inl ⟨by assumption, this.symm⟩
            · rename_i h
              exact .inr ⟨by rw [← this]; exact bsE_empty h, this⟩
          rcases hnn with ⟨hn1, hn2⟩ | ⟨hn1, hn2⟩ <;> rcases htt with ⟨ht1, ht2⟩ | ⟨ht1, ht2⟩ <;> rcases g4 with ⟨g5, g6⟩ | g5
          · have HN1 := hide hn1
            have HN2 := hide hn2
            have HT1 := hide ht1
            have HT2 := hide ht2
            clear hn1 hn2 ht1 ht2
            go_upto_region 10 with (go_at_call 39; refine (rname2_any op _).mono ?_; rintro en w4 ⟨rfl, hb4⟩; rw [HN1.out]; have HB4 := hide hb4; clear hb4 n0 n1 n2)
            have m0 : w4.cell? ⟨bX, 0, none⟩ = some (.int .i64 op) := (HV.out.below' HB4.out).cell 0
            have m1 : w4.cell? ⟨bX, 1, none⟩ = some (.int .i64 ty) := (HV.out.below' HB4.out).cell 1
            go_upto_region 13 with (first
              | (go_at_call 38; refine (rdec_any op HXi.out.1 _).mono ?_; rintro en w9 ⟨rfl, rfl⟩; rw [← HN2.out])
              | (go_at_call 40; refine (rtname2_any ty _).mono ?_; rintro en w5 ⟨rfl, hb5⟩; rw [HT1.out]; have HB5 := hide hb5; clear hb5 m0 m1))
            have HBB : Hid (Below w.heap.size w w5) := hide (Below.all (Below.all hb.out HB4.out) HB5.out)
            have q1 : w5.cell? ⟨bX, 1, none⟩ = some (.int .i64 ty) := ((HV.out.below' HB4.out).below' HB5.out).cell 1
            have q2 : w5.cell? ⟨bX, 2, none⟩ = some (.int .i64 n) := ((HV.out.below' HB4.out).below' HB5.out).cell 2
            go_upto_region 15 with (go_at_call 38; refine (rdec_any ty HXi.out.2.1 _).mono ?_; rintro en w9 ⟨rfl, rfl⟩; rw [← HT2.out])
            go_wp2_with (go_at_call 38; refine (rdec_any n HXi.out.2.2 _).mono ?_; rintro en w9 ⟨rfl, rfl⟩; rw [HN.out])
            go_roundw
            case rel => exact ⟨k + 1, by have := HJ.out; omega, by go_num, by rw [HFIN.out], HBB⟩
            case measure => have := HJ.out; simp [intOf]; omega
          · have HN1 := hide hn1
            have HN2 := hide hn2
            have HT1 := hide ht1
            have HT2 := hide ht2
            clear hn1 hn2 ht1 ht2
            go_upto_region 10 with (go_at_call 39; refine (rname2_any op _).mono ?_; rintro en w4 ⟨rfl, hb4⟩; rw [HN1.out]; have HB4 := hide hb4; clear hb4 n0 n1 n2)
            have m0 : w4.cell? ⟨bX, 0, none⟩ = some (.int .i64 op) := (HV.out.below' HB4.out).cell 0
            have m1 : w4.cell? ⟨bX, 1, none⟩ = some (.int .i64 ty) := (HV.out.below' HB4.out).cell 1
            go_upto_region 13 with (first
              | (go_at_call 38; refine (rdec_any op HXi.out.1 _).mono ?_; rintro en w9 ⟨rfl, rfl⟩; rw [← HN2.out])
              | (go_at_call 40; refine (rtname2_any ty _).mono ?_; rintro en w5 ⟨rfl, hb5⟩; rw [HT1.out]; have HB5 := hide hb5; clear hb5 m0 m1))
            have HBB : Hid (Below w.heap.size w w5) := hide (Below.all (Below.all hb.out HB4.out) HB5.out)
            have q1 : w5.cell? ⟨bX, 1, none⟩ = some (.int .i64 ty) := ((HV.out.below' HB4.out).below' HB5.out).cell 1
            have q2 : w5.cell? ⟨bX, 2, none⟩ = some (.int .i64 n) := ((HV.out.below' HB4.out).below' HB5.out).cell 2
            go_upto_region 15 with (go_at_call 38; refine (rdec_any ty HXi.out.2.1 _).mono ?_; rintro en w9 ⟨rfl, rfl⟩; rw [← HT2.out])
            go_wp2_with (go_at_call 38; refine (rdec_any n HXi.out.2.2 _).mono ?_; rintro en w9 ⟨rfl, rfl⟩; rw [HN.out])
            go_roundw
            case rel => exact ⟨k + 1, by have := HJ.out; omega, by go_num, by rw [HFIN.out], HBB⟩
            case measure => have := HJ.out; simp [intOf]; omega
          · have HN1 := hide hn1
            have HN2 := hide hn2
            have HT2 := hide ht2
            clear hn1 hn2 ht2
            go_upto_region 10 with (go_at_call 39; refine (rname2_any op _).mono ?_; rintro en w4 ⟨rfl, hb4⟩; rw [HN1.out]; have HB4 := hide hb4; clear hb4 n0 n1 n2)
            have m0 : w4.cell? ⟨bX, 0, none⟩ = some (.int .i64 op) := (HV.out.below' HB4.out).cell 0
            have m1 : w4.cell? ⟨bX, 1, none⟩ = some (.int .i64 ty) := (HV.out.below' HB4.out).cell 1
            go_upto_region 13 with (first
              | (go_at_call 38; refine (rdec_any op HXi.out.1 _).mono ?_; rintro en w9 ⟨rfl, rfl⟩; rw [← HN2.out])
              | (go_at_call 40; refine (rtname2_any ty _).mono ?_; rintro en w5 ⟨rfl, hb5⟩; rw [HT2.out]; have HB5 := hide hb5; clear hb5 m0 m1))
            have HBB : Hid (Below w.heap.size w w5) := hide (Below.all (Below.all hb.out HB4.out) HB5.out)
            have q1 : w5.cell? ⟨bX, 1, none⟩ = some (.int .i64 ty) := ((HV.out.below' HB4.out).below' HB5.out).cell 1
            have q2 : w5.cell? ⟨bX, 2, none⟩ = some (.int .i64 n) := ((HV.out.below' HB4.out).below' HB5.out).cell 2
            go_wp2_with (go_at_call 38; refine (rdec_any n HXi.out.2.2 _).mono ?_; rintro en w9 ⟨rfl, rfl⟩; rw [HN.out])
            go_roundw
            case rel => exact ⟨k + 1, by have := HJ.out; omega, by go_num, by rw [HFIN.out], HBB⟩
            case measure => have := HJ.out; simp [intOf]; omega
          · have HN1 := hide hn1
            have HN2 := hide hn2
            have HT2 := hide ht2
            clear hn1 hn2 ht2
            go_upto_region 10 with (go_at_call 39; refine (rname2_any op _).mono ?_; rintro en w4 ⟨rfl, hb4⟩; rw [HN1.out]; have HB4 := hide hb4; clear hb4 n0 n1 n2)
            have m0 : w4.cell? ⟨bX, 0, none⟩ = some (.int .i64 op) := (HV.out.below' HB4.out).cell 0
            have m1 : w4.cell? ⟨bX, 1, none⟩ = some (.int .i64 ty) := (HV.out.below' HB4.out).cell 1
            go_upto_region 13 with (first
              | (go_at_call 38; refine (rdec_any op HXi.out.1 _).mono ?_; rintro en w9 ⟨rfl, rfl⟩; rw [← HN2.out])
              | (go_at_call 40; refine (rtname2_any ty _).mono ?_; rintro en w5 ⟨rfl, hb5⟩; rw [HT2.out]; have HB5 := hide hb5; clear hb5 m0 m1))
            have HBB : Hid (Below w.heap.size w w5) := hide (Below.all (Below.all hb.out HB4.out) HB5.out)
            have q1 : w5.cell? ⟨bX, 1, none⟩ = some (.int .i64 ty) := ((HV.out.below' HB4.out).below' HB5.out).cell 1
            have q2 : w5.cell? ⟨bX, 2, none⟩ = some (.int .i64 n) := ((HV.out.below' HB4.out).below' HB5.out).cell 2
            go_wp2_with (go_at_call 38; refine (rdec_any n HXi.out.2.2 _).mono ?_; rintro en w9 ⟨rfl, rfl⟩; rw [HN.out])
            go_roundw
            case rel => exact ⟨k + 1, by have := HJ.out; omega, by go_num, by rw [HFIN.out], HBB⟩
            case measure => have := HJ.out; simp [intOf]; omega
          · have HN2 := hide hn2
            have HT1 := hide ht1
            have HT2 := hide ht2
            clear hn2 ht1 ht2
            go_upto_region 10 with (go_at_call 39; refine (rname2_any op _).mono ?_; rintro en w4 ⟨rfl, hb4⟩; rw [HN2.out]; have HB4 := hide hb4; clear hb4 n0 n1 n2)
            have m0 : w4.cell? ⟨bX, 0, none⟩ = some (.int .i64 op) := (HV.out.below' HB4.out).cell 0
            have m1 : w4.cell? ⟨bX, 1, none⟩ = some (.int .i64 ty) := (HV.out.below' HB4.out).cell 1
            go_upto_region 13 with (first
              | (go_at_call 38; refine (rdec_any op HXi.out.1 _).mono ?_; rintro en w9 ⟨rfl, rfl⟩)
              | (go_at_call 40; refine (rtname2_any ty _).mono ?_; rintro en w5 ⟨rfl, hb5⟩; rw [HT1.out]; have HB5 := hide hb5; clear hb5 m0 m1))
            have HBB : Hid (Below w.heap.size w w5) := hide (Below.all (Below.all hb.out HB4.out) HB5.out)
            have q1 : w5.cell? ⟨bX, 1, none⟩ = some (.int .i64 ty) := ((HV.out.below' HB4.out).below' HB5.out).cell 1
            have q2 : w5.cell? ⟨bX, 2, none⟩ = some (.int .i64 n) := ((HV.out.below' HB4.out).below' HB5.out).cell 2
            go_upto_region 15 with (go_at_call 38; refine (rdec_any ty HXi.out.2.1 _).mono ?_; rintro en w9 ⟨rfl, rfl⟩; rw [← HT2.out])
            go_wp2_with (go_at_call 38; refine (rdec_any n HXi.out.2.2 _).mono ?_; rintro en w9 ⟨rfl, rfl⟩; rw [HN.out])
            go_roundw
            case rel => exact ⟨k + 1, by have := HJ.out; omega, by go_num, by rw [HFIN.out], HBB⟩
            case measure => have := HJ.out; simp [intOf]; omega
          · have HN2 := hide hn2
            have HT1 := hide ht1
            have HT2 := hide ht2
            clear hn2 ht1 ht2
            go_upto_region 10 with (go_at_call 39; refine (rname2_any op _).mono ?_; rintro en w4 ⟨rfl, hb4⟩; rw [HN2.out]; have HB4 := hide hb4; clear hb4 n0 n1 n2)
            have m0 : w4.cell? ⟨bX, 0, none⟩ = some (.int .i64 op) := (HV.out.below' HB4.out).cell 0
            have m1 : w4.cell? ⟨bX, 1, none⟩ = some (.int .i64 ty) := (HV.out.below' HB4.out).cell 1
            go_upto_region 13 with (first
              | (go_at_call 38; refine (rdec_any op HXi.out.1 _).mono ?_; rintro en w9 ⟨rfl, rfl⟩)
              | (go_at_call 40; refine (rtname2_any ty _).mono ?_; rintro en w5 ⟨rfl, hb5⟩; rw [HT1.out]; have HB5 := hide hb5; clear hb5 m0 m1))
            have HBB : Hid (Below w.heap.size w w5) := hide (Below.all (Below.all hb.out HB4.out) HB5.out)
            have q1 : w5.cell? ⟨bX, 1, none⟩ = some (.int .i64 ty) := ((HV.out.below' HB4.out).below' HB5.out).cell 1
            have q2 : w5.cell? ⟨bX, 2, none⟩ = some (.int .i64 n) := ((HV.out.below' HB4.out).below' HB5.out).cell 2
            go_upto_region 15 with (go_at_call 38; refine (rdec_any ty HXi.out.2.1 _).mono ?_; rintro en w9 ⟨rfl, rfl⟩; rw [← HT2.out])
            go_wp2_with (go_at_call 38; refine (rdec_any n HXi.out.2.2 _).mono ?_; rintro en w9 ⟨rfl, rfl⟩; rw [HN.out])
            go_roundw
            case rel => exact ⟨k + 1, by have := HJ.out; omega, by go_num, by rw [HFIN.out], HBB⟩
            case measure => have := HJ.out; simp [intOf]; omega
          · have HN2 := hide hn2
            have HT2 := hide ht2
            clear hn2 ht2
            go_upto_region 10 with (go_at_call 39; refine (rname2_any op _).mono ?_; rintro en w4 ⟨rfl, hb4⟩; rw [HN2.out]; have HB4 := hide hb4; clear hb4 n0 n1 n2)
            have m0 : w4.cell? ⟨bX, 0, none⟩ = some (.int .i64 op) := (HV.out.below' HB4.out).cell 0
            have m1 : w4.cell? ⟨bX, 1, none⟩ = some (.int .i64 ty) := (HV.out.below' HB4.out).cell 1
            go_upto_region 13 with (first
              | (go_at_call 38; refine (rdec_any op HXi.out.1 _).mono ?_; rintro en w9 ⟨rfl, rfl⟩)
              | (go_at_call 40; refine (rtname2_any ty _).mono ?_; rintro en w5 ⟨rfl, hb5⟩; rw [HT2.out]; have HB5 := hide hb5; clear hb5 m0 m1))
            have HBB : Hid (Below w.heap.size w w5) := hide (Below.all (Below.all hb.out HB4.out) HB5.out)
            have q1 : w5.cell? ⟨bX, 1, none⟩ = some (.int .i64 ty) := ((HV.out.below' HB4.out).below' HB5.out).cell 1
            have q2 : w5.cell? ⟨bX, 2, none⟩ = some (.int .i64 n) := ((HV.out.below' HB4.out).below' HB5.out).cell 2
            go_wp2_with (go_at_call 38; refine (rdec_any n HXi.out.2.2 _).mono ?_; rintro en w9 ⟨rfl, rfl⟩; rw [HN.out])
            go_roundw
            case rel => exact ⟨k + 1, by have := HJ.out; omega, by go_num, by rw [HFIN.out], HBB⟩
            case measure => have := HJ.out; simp [intOf]; omega
          · have HN2 := hide hn2
            have HT2 := hide ht2
            clear hn2 ht2
            go_upto_region 10 with (go_at_call 39; refine (rname2_any op _).mono ?_; rintro en w4 ⟨rfl, hb4⟩; rw [HN2.out]; have HB4 := hide hb4; clear hb4 n0 n1 n2)
            have m0 : w4.cell? ⟨bX, 0, none⟩ = some (.int .i64 op) := (HV.out.below' HB4.out).cell 0
            have m1 : w4.cell? ⟨bX, 1, none⟩ = some (.int .i64 ty) := (HV.out.below' HB4.out).cell 1
            go_upto_region 13 with (first
              | (go_at_call 38; refine (rdec_any op HXi.out.1 _).mono ?_; rintro en w9 ⟨rfl, rfl⟩)
              | (go_at_call 40; refine (rtname2_any ty _).mono ?_; rintro en w5 ⟨rfl, hb5⟩; rw [HT2.out]; have HB5 := hide hb5; clear hb5 m0 m1))
            have HBB : Hid (Below w.heap.size w w5) := hide (Below.all (Below.all hb.out HB4.out) HB5.out)
            have q1 : w5.cell? ⟨bX, 1, none⟩ = some (.int .i64 ty) := ((HV.out.below' HB4.out).below' HB5.out).cell 1
            have q2 : w5.cell? ⟨bX, 2, none⟩ = some (.int .i64 n) := ((HV.out.below' HB4.out).below' HB5.out).cell 2
            go_wp2_with (go_at_call 38; refine (rdec_any n HXi.out.2.2 _).mono ?_; rintro en w9 ⟨rfl, rfl⟩; rw [HN.out])
            go_roundw
            case rel => exact ⟨k + 1, by have := HJ.out; omega, by go_num, by rw [HFIN.out], HBB⟩
            case measure => have := HJ.out; simp [intOf]; omega
    · have hkl : e.take k = e := List.take_of_length_le (by omega)
      rw [hkl]
      clear hkl
      go_wp2_with fail
      go_ret
      exact ⟨rfl, hb.out⟩
end Go.Proofs.YtnhaanjpcnnifaaDoor

import Derived.Test.YtckpjeheodbfaabWorks
import Derived.Test.YtckpjeheodbfaabCanon
namespace Go.Proofs.Ytckpjeheodbfaab
open Go.RowKit

/-- What was read is what stands before the rest. -/
theorem front_of {bs p q : List Int} (h : bs = p ++ q) : bs.take (bs.length - q.length) = p := by
  have hl : bs.length = p.length + q.length := by rw [h, List.length_append]
  rw [show bs.length - q.length = p.length by omega]
  conv => lhs; rw [h]
  exact List.take_left' rfl

theorem canonical_big (b : Value) (bs : List Int) (w : World) (hb : Rd w .u8 b bs) (h : 300 < bs.length) :
    Calls Try.prog 6 #[b] w (LawDone w) := by
  have hbl := hb.len
  unfold maxLen at hbl
  obtain ⟨A, c, rfl, _⟩ := hb
  go_enter Try.func6, Try.ntmps6
  go_wp2_with (go_at_call 9; refine (works_any _).mono ?_; rintro en w' ⟨rfl, hB⟩)
  go_ret
  exact ⟨rfl, hB⟩

set_option maxRecDepth 100000 in
theorem canonical_small (b : Value) (bs : List Int) (w : World) (hb : Rd w .u8 b bs) (hbb : Bytes bs) (h1 : bs.length ≤ 300) :
    Calls Try.prog 6 #[b] w (LawDone w) := by
  obtain ⟨A, c, rfl, x1, x2, x3⟩ := hb
  have HB := hide (show Rd w .u8 (.slice A bs.length c) bs from ⟨A, c, rfl, x1, x2, x3⟩)
  have HBB := hide hbb
  clear x3 hbb
  go_enter Try.func6, Try.ntmps6
  go_wp2_with fail
  refine (newReader_any _ bs w HB.out (by omega)).mono ?_
  rintro en w1 ⟨g1, rfl, hR1, hb1, hge1⟩
  have HR1 := hide hR1
  have hg1 : g1 < w1.heap.size := by obtain ⟨_, hw, _⟩ := hR1; exact hw.lt
  clear hR1
  go_wp2_with fail
  refine (newReader_any _ bs w1 (HB.out.below' hb1) (by omega)).mono ?_
  rintro en w2 ⟨g2, rfl, hR2, hb2, hge2⟩
  have HR2 := hide hR2
  have hg2 : g2 < w2.heap.size := by obtain ⟨_, hw, _⟩ := hR2; exact hw.lt
  have HR1' := hide (HR1.out.below hb2 hg1 (Nat.le_of_lt hg1))
  have hb12 := Below.all hb1 hb2
  have hs12 := hb2.size
  clear hR2 hb1 hb2 HR1
  go_wp2_with fail
  refine (newReader_any _ bs w2 (HB.out.below' hb12) (by omega)).mono ?_
  rintro en w3 ⟨g3, rfl, hR3, hb3, hge3⟩
  have HR3 := hide hR3
  have hg3 : g3 < w3.heap.size := by obtain ⟨_, hw, _⟩ := hR3; exact hw.lt
  have HR1 := hide (HR1'.out.below hb3 (Nat.lt_of_lt_of_le hg1 hs12) (Nat.le_trans (Nat.le_of_lt hg1) hs12))
  have HR2' := hide (HR2.out.below hb3 hg2 (Nat.le_of_lt hg2))
  have hB3 := Below.all hb12 hb3
  have hs3 := hb3.size
  clear hR3 hb12 hb3 HR2 HR1'
  generalize w1.heap.size = m1 at *
  generalize w2.heap.size = m2 at *
  go_wp2_with fail
  refine (ints_any g1 _ _ 0 w3 HR1.out HBB.out (by omega) (by show g1 ≤ _; omega)).mono ?_
  rintro en w4 ⟨v4, rfl, hv4, ha4, hR4, hg4⟩
  have HV4 := hide hv4
  have HA42 := hide (ha4 g2 (by omega))
  have HA43 := hide (ha4 g3 hg3)
  have HR1 := hide hR4
  have HR2 := hide (HR2'.out.only hg4 (by omega) (.inl (by show g1 < m1; omega)))
  have HR3' := hide (HR3.out.only hg4 (by omega) (.inl (by show g1 < m2; omega)))
  have hB4 := hB3.trans (below_only hg4 hge1 hB3.size)
  have hs4 := hg4.size
  clear hv4 ha4 hR4 hg4 HR2' HR3 hB3
  go_wp2_with fail
  refine (str_any g2 _ _ 0 w4 HR2.out HBB.out).mono ?_
  rintro en w5 ⟨s5, rfl, hs5, hR5, hg5⟩
  have HS5 := hide hs5
  have HV5 := hide (HV4.out.only HA42.out hg5)
  have HR1' := hide (HR1.out.only hg5 (by omega) (.inr (by show g1 ≤ g2; omega)))
  have HR2 := hide hR5
  have HR3 := hide (HR3'.out.only hg5 (by omega) (.inl (by show g2 < m2; omega)))
  have hB5 := hB4.trans (below_only hg5 (by omega) hB4.size)
  have hs5' := hg5.size
  clear hs5 hR5 hg5 HR3' hB4 HA42 HV4
  go_wp2_with fail
  refine (int_any g3 _ _ 0 w5 HR3.out HBB.out).mono ?_
  rintro en w6 ⟨rfl, hR6, hg6⟩
  have HV6 := hide (HV5.out.only HA43.out hg6)
  have HR1 := hide (HR1'.out.only hg6 (by omega) (.inr (by show g1 ≤ g3; omega)))
  have HR2' := hide (HR2.out.only hg6 (by omega) (.inr (by show g2 ≤ g3; omega)))
  have HR3 := hide hR6
  have hB6 := hB5.trans (below_only hg6 (by omega) hB5.size)
  have hs6 := hg6.size
  clear hR6 hg6 hB5 HA43 HV5
  have hg1' : g1 < w6.heap.size := by omega
  have hg2' : g2 < w6.heap.size := by omega
  have hg3' : g3 < w6.heap.size := by omega
  have l1 := rLi_len bs 0
  have l2 := rS_len bs 0
  have l3 := rI_len bs 0
  have k1 := (rLi_words bs 0).2
  have k2 := rS_string bs 0
  clear hs4 hs5' hs6 hg1 hg2 hg3 hs12 hs3
  by_cases e1 : (rLi bs 0).2.2 = 0
  · have HE := hide (front_of (enc_rLi HBB.out e1))
    have HR1' := hide (show RdrAt w6 g1 _ _ 0 from e1 ▸ HR1.out)
    clear HR1 e1
    go_wp2_with fail
    refine (err_any _ _ _ _ w6 HR1'.out).mono ?_
    rintro en w' ⟨rfl, rfl⟩
    go_wp2_with fail
    refine (appInts_any _ v4 [] _ w6 Rd.nil HV6.out (rLi_words bs 0).1 (by simp) (by omega)).mono ?_
    rintro en w7 ⟨v7, rfl, ho7, hb7⟩
    have HO7 := hide (show Rd w7 .u8 v7 (encInts (rLi bs 0).1) from ho7.rd)
    have HR1 := hide (HR1'.out.below hb7 hg1' (Nat.le_of_lt hg1'))
    have HR2 := hide (HR2'.out.below hb7 hg2' (Nat.le_of_lt hg2'))
    have HR3' := hide (HR3.out.below hb7 hg3' (Nat.le_of_lt hg3'))
    have hB7 := hB6.trans (hb7.mono hB6.size)
    have hs7 := hb7.size
    clear ho7 hb7 HR1' HR2' HR3 hB6 HV6
    go_wp2_with fail
    refine (len_any _ _ _ _ w7 HR1.out).mono ?_
    rintro en w' ⟨rfl, rfl⟩
    go_wp2_with fail
    refine (eqBytes_any _ _ _ _ w7 HO7.out ((HB.out.below hB7 (Nat.le_refl _)).front (by omega))).mono ?_
    rintro en wA ⟨rfl, hb8⟩
    have ht : decide (encInts (rLi bs 0).1 = bs.take (bs.length - (rLi bs 0).2.1.length)) = true := by rw [HE.out]; simp
    rw [ht]
    have hB := hB7.trans (hb8.mono hB7.size)
    have HQ2 := hide (HR2.out.below hb8 (Nat.lt_of_lt_of_le hg2' hs7) (Nat.le_trans (Nat.le_of_lt hg2') hs7))
    have HQ3 := hide (HR3'.out.below hb8 (Nat.lt_of_lt_of_le hg3' hs7) (Nat.le_trans (Nat.le_of_lt hg3') hs7))
    have hq2 : g2 < wA.heap.size := Nat.lt_of_lt_of_le (Nat.lt_of_lt_of_le hg2' hs7) hb8.size
    have hq3 : g3 < wA.heap.size := Nat.lt_of_lt_of_le (Nat.lt_of_lt_of_le hg3' hs7) hb8.size
    clear hb8 HO7 HR1 HR2 HR3' hB7 hs7 ht HE hg1' hg2' hg3'
    go_wp2_with fail
    by_cases e2 : (rS bs 0).2.2 = 0
    · have HE := hide (front_of (enc_rS HBB.out e2))
      have HX1 := hide (show RdrAt wA g2 _ _ 0 from e2 ▸ HQ2.out)
      clear HQ2 e2
      go_wp2_with fail
      refine (err_any _ _ _ _ wA HX1.out).mono ?_
      rintro en w' ⟨rfl, rfl⟩
      go_wp2_with fail
      refine (appStr_any _ [] s5 wA Rd.nil (by simp) (by rw [← strInts_len, HS5.out]; omega)).mono ?_
      rintro en w7 ⟨v7', rfl, ho7, hb7⟩
      have HO7 := hide (show Rd w7 .u8 v7' (encStr (rS bs 0).1) from HS5.out ▸ ho7.rd)
      have HX := hide (HX1.out.below hb7 hq2 (Nat.le_of_lt hq2))
      have HY := hide (HQ3.out.below hb7 hq3 (Nat.le_of_lt hq3))
      have hB7 := hB.trans (hb7.mono hB.size)
      have hs7 := hb7.size
      clear ho7 hb7 HX1 HQ3 hB
      go_wp2_with fail
      refine (len_any _ _ _ _ w7 HX.out).mono ?_
      rintro en w' ⟨rfl, rfl⟩
      go_wp2_with fail
      refine (eqBytes_any _ _ _ _ w7 HO7.out ((HB.out.below hB7 (Nat.le_refl _)).front (by omega))).mono ?_
      rintro en wB ⟨rfl, hb8⟩
      have ht : decide (encStr (rS bs 0).1 = bs.take (bs.length - (rS bs 0).2.1.length)) = true := by rw [HE.out]; simp
      rw [ht]
      have hC := hB7.trans (hb8.mono hB7.size)
      have HP3 := hide (HY.out.below hb8 (Nat.lt_of_lt_of_le hq3 hs7) (Nat.le_trans (Nat.le_of_lt hq3) hs7))
      have hp3 : g3 < wB.heap.size := Nat.lt_of_lt_of_le (Nat.lt_of_lt_of_le hq3 hs7) hb8.size
      clear hb8 HO7 HX HY hB7 hs7 ht HE hq2 hq3
      go_wp2_with fail
      by_cases e3 : (rI bs 0).2.2.2 = 0
      · have HE := hide (front_of (enc_rI HBB.out ((rI_iff bs 0).2 e3)))
        have HX1 := hide (show RdrAt wB g3 _ _ 0 from e3 ▸ HP3.out)
        clear HP3 e3
        go_wp2_with fail
        refine (err_any _ _ _ _ wB HX1.out).mono ?_
        rintro en w' ⟨rfl, rfl⟩
        go_wp2_with fail
        refine (appInt_any _ [] _ wB Rd.nil (rI_word bs 0) (by simp)).mono ?_
        rintro en w9 ⟨v9, rfl, ho9, hb9⟩
        have HO9 := hide (show Rd w9 .u8 v9 (enc (rI bs 0).1) from ho9.rd)
        have HX := hide (HX1.out.below hb9 hp3 (Nat.le_of_lt hp3))
        have hB9 := hC.trans (hb9.mono hC.size)
        clear ho9 hb9 HX1 hC hp3
        go_wp2_with fail
        refine (len_any _ _ _ _ w9 HX.out).mono ?_
        rintro en w' ⟨rfl, rfl⟩
        go_wp2_with fail
        refine (eqBytes_any _ _ _ _ w9 HO9.out ((HB.out.below hB9 (Nat.le_refl _)).front (by omega))).mono ?_
        rintro en wC ⟨rfl, hb8⟩
        have ht : decide (enc (rI bs 0).1 = bs.take (bs.length - (rI bs 0).2.2.1.length)) = true := by rw [HE.out]; simp
        rw [ht]
        have hD := hB9.trans (hb8.mono hB9.size)
        clear hb8 HO9 HX hB9 ht HE
        go_wp2_with (go_at_call 9; refine (works_any _).mono ?_; rintro en w' ⟨rfl, hB'⟩)
        go_ret
        exact ⟨rfl, Below.all hD hB'⟩
      · have t5 : ((rI bs 0).2.2.2 == 0) = false := by simpa using e3
        have t6 : ((rI bs 0).2.2.2 != 0) = true := by simpa using e3
        clear e3
        go_wp2_with fail
        refine (err_any _ _ _ _ wB HP3.out).mono ?_
        rintro en w' ⟨rfl, rfl⟩
        go_wp2_with (go_at_call 9; refine (works_any _).mono ?_; rintro en w' ⟨rfl, hB'⟩)
        go_ret
        exact ⟨rfl, Below.all hC hB'⟩
    · have t3 : ((rS bs 0).2.2 == 0) = false := by simpa using e2
      have t4 : ((rS bs 0).2.2 != 0) = true := by simpa using e2
      clear e2
      go_wp2_with fail
      refine (err_any _ _ _ _ wA HQ2.out).mono ?_
      rintro en w' ⟨rfl, rfl⟩
      obtain ⟨wB, rfl⟩ : ∃ x, x = wA := ⟨_, rfl⟩
      have HP3 := HQ3
      have hC := hB
      have hp3 := hq3
      clear HQ2 HQ3 hB hq2 hq3
      go_wp2_with fail
      by_cases e3 : (rI bs 0).2.2.2 = 0
      · have HE := hide (front_of (enc_rI HBB.out ((rI_iff bs 0).2 e3)))
        have HX1 := hide (show RdrAt wB g3 _ _ 0 from e3 ▸ HP3.out)
        clear HP3 e3
        go_wp2_with fail
        refine (err_any _ _ _ _ wB HX1.out).mono ?_
        rintro en w' ⟨rfl, rfl⟩
        go_wp2_with fail
        refine (appInt_any _ [] _ wB Rd.nil (rI_word bs 0) (by simp)).mono ?_
        rintro en w9 ⟨v9, rfl, ho9, hb9⟩
        have HO9 := hide (show Rd w9 .u8 v9 (enc (rI bs 0).1) from ho9.rd)
        have HX := hide (HX1.out.below hb9 hp3 (Nat.le_of_lt hp3))
        have hB9 := hC.trans (hb9.mono hC.size)
        clear ho9 hb9 HX1 hC hp3
        go_wp2_with fail
        refine (len_any _ _ _ _ w9 HX.out).mono ?_
        rintro en w' ⟨rfl, rfl⟩
        go_wp2_with fail
        refine (eqBytes_any _ _ _ _ w9 HO9.out ((HB.out.below hB9 (Nat.le_refl _)).front (by omega))).mono ?_
        rintro en wC ⟨rfl, hb8⟩
        have ht : decide (enc (rI bs 0).1 = bs.take (bs.length - (rI bs 0).2.2.1.length)) = true := by rw [HE.out]; simp
        rw [ht]
        have hD := hB9.trans (hb8.mono hB9.size)
        clear hb8 HO9 HX hB9 ht HE
        go_wp2_with (go_at_call 9; refine (works_any _).mono ?_; rintro en w' ⟨rfl, hB'⟩)
        go_ret
        exact ⟨rfl, Below.all hD hB'⟩
      · have t5 : ((rI bs 0).2.2.2 == 0) = false := by simpa using e3
        have t6 : ((rI bs 0).2.2.2 != 0) = true := by simpa using e3
        clear e3
        go_wp2_with fail
        refine (err_any _ _ _ _ wB HP3.out).mono ?_
        rintro en w' ⟨rfl, rfl⟩
        go_wp2_with (go_at_call 9; refine (works_any _).mono ?_; rintro en w' ⟨rfl, hB'⟩)
        go_ret
        exact ⟨rfl, Below.all hC hB'⟩
  · have t1 : ((rLi bs 0).2.2 == 0) = false := by simpa using e1
    have t2 : ((rLi bs 0).2.2 != 0) = true := by simpa using e1
    clear e1
    go_wp2_with fail
    refine (err_any _ _ _ _ w6 HR1.out).mono ?_
    rintro en w' ⟨rfl, rfl⟩
    obtain ⟨wA, rfl⟩ : ∃ x, x = w6 := ⟨_, rfl⟩
    have HQ2 := HR2'
    have HQ3 := HR3
    have hB := hB6
    have hq2 := hg2'
    have hq3 := hg3'
    clear HR2' HR3 HR1 HV6 hB6 hg1' hg2' hg3'
    go_wp2_with fail
    by_cases e2 : (rS bs 0).2.2 = 0
    · have HE := hide (front_of (enc_rS HBB.out e2))
      have HX1 := hide (show RdrAt wA g2 _ _ 0 from e2 ▸ HQ2.out)
      clear HQ2 e2
      go_wp2_with fail
      refine (err_any _ _ _ _ wA HX1.out).mono ?_
      rintro en w' ⟨rfl, rfl⟩
      go_wp2_with fail
      refine (appStr_any _ [] s5 wA Rd.nil (by simp) (by rw [← strInts_len, HS5.out]; omega)).mono ?_
      rintro en w7 ⟨v7', rfl, ho7, hb7⟩
      have HO7 := hide (show Rd w7 .u8 v7' (encStr (rS bs 0).1) from HS5.out ▸ ho7.rd)
      have HX := hide (HX1.out.below hb7 hq2 (Nat.le_of_lt hq2))
      have HY := hide (HQ3.out.below hb7 hq3 (Nat.le_of_lt hq3))
      have hB7 := hB.trans (hb7.mono hB.size)
      have hs7 := hb7.size
      clear ho7 hb7 HX1 HQ3 hB
      go_wp2_with fail
      refine (len_any _ _ _ _ w7 HX.out).mono ?_
      rintro en w' ⟨rfl, rfl⟩
      go_wp2_with fail
      refine (eqBytes_any _ _ _ _ w7 HO7.out ((HB.out.below hB7 (Nat.le_refl _)).front (by omega))).mono ?_
      rintro en wB ⟨rfl, hb8⟩
      have ht : decide (encStr (rS bs 0).1 = bs.take (bs.length - (rS bs 0).2.1.length)) = true := by rw [HE.out]; simp
      rw [ht]
      have hC := hB7.trans (hb8.mono hB7.size)
      have HP3 := hide (HY.out.below hb8 (Nat.lt_of_lt_of_le hq3 hs7) (Nat.le_trans (Nat.le_of_lt hq3) hs7))
      have hp3 : g3 < wB.heap.size := Nat.lt_of_lt_of_le (Nat.lt_of_lt_of_le hq3 hs7) hb8.size
      clear hb8 HO7 HX HY hB7 hs7 ht HE hq2 hq3
      go_wp2_with fail
      by_cases e3 : (rI bs 0).2.2.2 = 0
      · have HE := hide (front_of (enc_rI HBB.out ((rI_iff bs 0).2 e3)))
        have HX1 := hide (show RdrAt wB g3 _ _ 0 from e3 ▸ HP3.out)
        clear HP3 e3
        go_wp2_with fail
        refine (err_any _ _ _ _ wB HX1.out).mono ?_
        rintro en w' ⟨rfl, rfl⟩
        go_wp2_with fail
        refine (appInt_any _ [] _ wB Rd.nil (rI_word bs 0) (by simp)).mono ?_
        rintro en w9 ⟨v9, rfl, ho9, hb9⟩
        have HO9 := hide (show Rd w9 .u8 v9 (enc (rI bs 0).1) from ho9.rd)
        have HX := hide (HX1.out.below hb9 hp3 (Nat.le_of_lt hp3))
        have hB9 := hC.trans (hb9.mono hC.size)
        clear ho9 hb9 HX1 hC hp3
        go_wp2_with fail
        refine (len_any _ _ _ _ w9 HX.out).mono ?_
        rintro en w' ⟨rfl, rfl⟩
        go_wp2_with fail
        refine (eqBytes_any _ _ _ _ w9 HO9.out ((HB.out.below hB9 (Nat.le_refl _)).front (by omega))).mono ?_
        rintro en wC ⟨rfl, hb8⟩
        have ht : decide (enc (rI bs 0).1 = bs.take (bs.length - (rI bs 0).2.2.1.length)) = true := by rw [HE.out]; simp
        rw [ht]
        have hD := hB9.trans (hb8.mono hB9.size)
        clear hb8 HO9 HX hB9 ht HE
        go_wp2_with (go_at_call 9; refine (works_any _).mono ?_; rintro en w' ⟨rfl, hB'⟩)
        go_ret
        exact ⟨rfl, Below.all hD hB'⟩
      · have t5 : ((rI bs 0).2.2.2 == 0) = false := by simpa using e3
        have t6 : ((rI bs 0).2.2.2 != 0) = true := by simpa using e3
        clear e3
        go_wp2_with fail
        refine (err_any _ _ _ _ wB HP3.out).mono ?_
        rintro en w' ⟨rfl, rfl⟩
        go_wp2_with (go_at_call 9; refine (works_any _).mono ?_; rintro en w' ⟨rfl, hB'⟩)
        go_ret
        exact ⟨rfl, Below.all hC hB'⟩
    · have t3 : ((rS bs 0).2.2 == 0) = false := by simpa using e2
      have t4 : ((rS bs 0).2.2 != 0) = true := by simpa using e2
      clear e2
      go_wp2_with fail
      refine (err_any _ _ _ _ wA HQ2.out).mono ?_
      rintro en w' ⟨rfl, rfl⟩
      obtain ⟨wB, rfl⟩ : ∃ x, x = wA := ⟨_, rfl⟩
      have HP3 := HQ3
      have hC := hB
      have hp3 := hq3
      clear HQ2 HQ3 hB hq2 hq3
      go_wp2_with fail
      by_cases e3 : (rI bs 0).2.2.2 = 0
      · have HE := hide (front_of (enc_rI HBB.out ((rI_iff bs 0).2 e3)))
        have HX1 := hide (show RdrAt wB g3 _ _ 0 from e3 ▸ HP3.out)
        clear HP3 e3
        go_wp2_with fail
        refine (err_any _ _ _ _ wB HX1.out).mono ?_
        rintro en w' ⟨rfl, rfl⟩
        go_wp2_with fail
        refine (appInt_any _ [] _ wB Rd.nil (rI_word bs 0) (by simp)).mono ?_
        rintro en w9 ⟨v9, rfl, ho9, hb9⟩
        have HO9 := hide (show Rd w9 .u8 v9 (enc (rI bs 0).1) from ho9.rd)
        have HX := hide (HX1.out.below hb9 hp3 (Nat.le_of_lt hp3))
        have hB9 := hC.trans (hb9.mono hC.size)
        clear ho9 hb9 HX1 hC hp3
        go_wp2_with fail
        refine (len_any _ _ _ _ w9 HX.out).mono ?_
        rintro en w' ⟨rfl, rfl⟩
        go_wp2_with fail
        refine (eqBytes_any _ _ _ _ w9 HO9.out ((HB.out.below hB9 (Nat.le_refl _)).front (by omega))).mono ?_
        rintro en wC ⟨rfl, hb8⟩
        have ht : decide (enc (rI bs 0).1 = bs.take (bs.length - (rI bs 0).2.2.1.length)) = true := by rw [HE.out]; simp
        rw [ht]
        have hD := hB9.trans (hb8.mono hB9.size)
        clear hb8 HO9 HX hB9 ht HE
        go_wp2_with (go_at_call 9; refine (works_any _).mono ?_; rintro en w' ⟨rfl, hB'⟩)
        go_ret
        exact ⟨rfl, Below.all hD hB'⟩
      · have t5 : ((rI bs 0).2.2.2 == 0) = false := by simpa using e3
        have t6 : ((rI bs 0).2.2.2 != 0) = true := by simpa using e3
        clear e3
        go_wp2_with fail
        refine (err_any _ _ _ _ wB HP3.out).mono ?_
        rintro en w' ⟨rfl, rfl⟩
        go_wp2_with (go_at_call 9; refine (works_any _).mono ?_; rintro en w' ⟨rfl, hB'⟩)
        go_ret
        exact ⟨rfl, Below.all hC hB'⟩
end Go.Proofs.Ytckpjeheodbfaab

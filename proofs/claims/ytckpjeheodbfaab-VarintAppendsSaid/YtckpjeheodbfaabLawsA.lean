import Derived.Test.YtckpjeheodbfaabWorks
namespace Go.Proofs.Ytckpjeheodbfaab
open Go.RowKit

/-- Beyond its guard a law only says that the examples hold. -/
theorem appends_big (b l : Value) (s : ByteArray) (bs ls : List Int) (w : World) (hb : Rd w .u8 b bs) (hl : Rd w .i64 l ls) (hs : s.size ≤ maxLen) (h : 200 < bs.length ∨ 100 < ls.length ∨ 500 < s.size) :
    Calls Try.prog 3 #[b, l, .string s] w (LawDone w) := by
  have hbl := hb.len
  have hll := hl.len
  unfold maxLen at hbl hll hs
  obtain ⟨A, c, rfl, _⟩ := hb
  obtain ⟨A', c', rfl, _⟩ := hl
  by_cases h1 : 200 < bs.length
  · clear h
    go_enter Try.func3, Try.ntmps3
    go_wp2_with (go_at_call 9; refine (works_any _).mono ?_; rintro en w' ⟨rfl, hB⟩)
    go_ret
    exact ⟨rfl, hB⟩
  · by_cases h2 : 100 < ls.length
    · clear h
      go_enter Try.func3, Try.ntmps3
      go_wp2_with (go_at_call 9; refine (works_any _).mono ?_; rintro en w' ⟨rfl, hB⟩)
      go_ret
      exact ⟨rfl, hB⟩
    · have h3 : 500 < s.size := by
        rcases h with h | h | h
        · exact absurd h h1
        · exact absurd h h2
        · exact h
      clear h
      go_enter Try.func3, Try.ntmps3
      go_wp2_with (go_at_call 9; refine (works_any _).mono ?_; rintro en w' ⟨rfl, hB⟩)
      go_ret
      exact ⟨rfl, hB⟩

set_option maxRecDepth 100000 in
theorem appends_small (b l : Value) (s : ByteArray) (bs ls : List Int) (w : World) (hb : Rd w .u8 b bs) (hl : Rd w .i64 l ls) (hw : Words ls) (h1 : bs.length ≤ 200) (h2 : ls.length ≤ 100) (h3 : s.size ≤ 500) :
    Calls Try.prog 3 #[b, l, .string s] w (LawDone w) := by
  obtain ⟨A, c, rfl, x1, x2, x3⟩ := hb
  have hb : Rd w .u8 (.slice A bs.length c) bs := ⟨A, c, rfl, x1, x2, x3⟩
  obtain ⟨A', c', rfl, y1, y2, y3⟩ := hl
  have hl : Rd w .i64 (.slice A' ls.length c') ls := ⟨A', c', rfl, y1, y2, y3⟩
  have HB := hide hb
  have HL := hide hl
  have HW := hide hw
  clear x3 hb hl hw
  go_enter Try.func3, Try.ntmps3
  go_wp2_with fail
  go_loopw [25] (fun i wr => ∃ k : Nat, k ≤ ls.length ∧ i = .int .i64 k ∧ Below w.heap.size w wr) (fun i _ => ls.length - (intOf i).toNat)
  case atStart => exact ⟨0, Nat.zero_le _, rfl, Below.refl _ _⟩
  case round =>
    obtain ⟨k, hk, rfl, hB⟩ := hrel
    by_cases hlt : k < ls.length
    · obtain ⟨ab, off, rfl, hblk, hcell⟩ := y3 (by omega)
      obtain ⟨x, hx⟩ : ∃ x, ls[k]? = some x := ⟨_, List.getElem?_eq_getElem hlt⟩
      have c1 : wr.cell? ⟨ab, off + k, none⟩ = some (.int .i64 x) := (hB.cell (p := ⟨ab, off + k, none⟩) hblk).trans (hcell k x hx)
      have HX := hide (HW.out x (List.mem_of_getElem? hx))
      have hbr := hide (HB.out.below hB (Nat.le_refl _))
      clear hx hcell y3
      go_wp2_with fail
      refine (appInt_any _ bs x wr hbr.out HX.out (by omega)).mono ?_
      rintro en w1 ⟨v1, rfl, ho1, hb1⟩
      have HO1 := hide ho1
      have hB1 := hB.trans (hb1.mono hB.size)
      have hbr1 := hide (hbr.out.below' hb1)
      clear ho1 hb1 hbr c1
      go_wp2_with fail
      refine (rappInt_any _ bs x w1 hbr1.out HX.out (by omega)).mono ?_
      rintro en w2 ⟨v2, rfl, ho2, hb2⟩
      have HO2 := hide ho2
      have hB2 := hB1.trans (hb2.mono hB1.size)
      have HO1' := hide (HO1.out.rd.below' hb2)
      clear ho2 hb2 hbr1 HO1 hB1
      go_wp2_with fail
      refine (eqBytes_any _ _ _ _ w2 HO1'.out HO2.out.rd).mono ?_
      rintro en w3 ⟨rfl, hb3⟩
      have hB3 := hB2.trans (hb3.mono hB2.size)
      have ht : decide (bs ++ enc x = bs ++ enc x) = true := by simp
      rw [ht]
      clear hb3 HO1' HO2 hB2 ht hB
      go_wp2_with fail
      go_roundw
      case rel => exact ⟨k + 1, by omega, by go_num, hB3⟩
      case measure => simp [intOf]; omega
    · have hbr := hide (HB.out.below hB (Nat.le_refl _))
      have hlr := hide (HL.out.below hB (Nat.le_refl _))
      clear y3
      go_wp2_with fail
      refine (appInts_any _ _ bs ls wr hbr.out hlr.out HW.out (by omega) (by omega)).mono ?_
      rintro en w1 ⟨v1, rfl, ho1, hb1⟩
      have HO1 := hide ho1
      have hB1 := hB.trans (hb1.mono hB.size)
      have hbr1 := hide (hbr.out.below' hb1)
      have hlr1 := hide (hlr.out.below' hb1)
      clear ho1 hb1 hbr hlr hB
      go_wp2_with fail
      refine (rappInts_any _ _ bs ls w1 hbr1.out hlr1.out HW.out (by omega) (by omega)).mono ?_
      rintro en w2 ⟨v2, rfl, ho2, hb2⟩
      have HO2 := hide ho2
      have hB2 := hB1.trans (hb2.mono hB1.size)
      have HO1' := hide (HO1.out.rd.below' hb2)
      have hbr2 := hide (hbr1.out.below' hb2)
      clear ho2 hb2 hbr1 hlr1 HO1 hB1
      go_wp2_with fail
      refine (eqBytes_any _ _ _ _ w2 HO1'.out HO2.out.rd).mono ?_
      rintro en w3 ⟨rfl, hb3⟩
      have hB3 := hB2.trans (hb3.mono hB2.size)
      have hbr3 := hide (hbr2.out.below' hb3)
      have ht : decide (bs ++ encInts ls = bs ++ encInts ls) = true := by simp
      rw [ht]
      clear hb3 HO1' HO2 hB2 ht hbr2
      go_wp2_with fail
      refine (appStr_any _ bs s w3 hbr3.out (by omega) (by omega)).mono ?_
      rintro en w4 ⟨v4, rfl, ho4, hb4⟩
      have HO4 := hide ho4
      have hB4 := hB3.trans (hb4.mono hB3.size)
      have hbr4 := hide (hbr3.out.below' hb4)
      clear ho4 hb4 hbr3 hB3
      go_wp2_with fail
      refine (rappStr_any _ bs s w4 hbr4.out (by omega) (by omega)).mono ?_
      rintro en w5 ⟨v5, rfl, ho5, hb5⟩
      have HO5 := hide ho5
      have hB5 := hB4.trans (hb5.mono hB4.size)
      have HO4' := hide (HO4.out.rd.below' hb5)
      clear ho5 hb5 hbr4 HO4 hB4
      go_wp2_with fail
      refine (eqBytes_any _ _ _ _ w5 HO4'.out HO5.out.rd).mono ?_
      rintro en w6 ⟨rfl, hb6⟩
      have hB6 := hB5.trans (hb6.mono hB5.size)
      have ht : decide (bs ++ encStr (strInts s) = bs ++ encStr (strInts s)) = true := by simp
      rw [ht]
      clear hb6 HO4' HO5 hB5 ht
      go_wp2_with fail
      refine (works_any w6).mono ?_
      rintro en w7 ⟨rfl, hb7⟩
      have hB7 := hB6.trans (hb7.mono hB6.size)
      clear hb7 hB6
      go_wp2_with fail
      go_ret
      exact ⟨rfl, hB7⟩
end Go.Proofs.Ytckpjeheodbfaab

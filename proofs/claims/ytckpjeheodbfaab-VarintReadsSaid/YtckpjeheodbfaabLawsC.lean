import Derived.Test.YtckpjeheodbfaabWorks
import Derived.Test.YtckpjeheodbfaabCanon
namespace Go.Proofs.Ytckpjeheodbfaab
open Go.RowKit

theorem reads_big (b ks : Value) (bs kl : List Int) (w : World) (hb : Rd w .u8 b bs) (hk : Rd w .i64 ks kl) (h : 300 < bs.length ∨ 40 < kl.length) :
    Calls Try.prog 4 #[b, ks] w (LawDone w) := by
  have hbl := hb.len
  have hkl := hk.len
  unfold maxLen at hbl hkl
  obtain ⟨A, c, rfl, _, _, _⟩ := hb
  obtain ⟨A', c', rfl, _, _, _⟩ := hk
  by_cases h1 : 300 < bs.length
  · clear h
    go_enter Try.func4, Try.ntmps4
    go_wp2_with (go_at_call 9; refine (works_any _).mono ?_; rintro en w' ⟨rfl, hB⟩)
    go_ret
    exact ⟨rfl, hB⟩
  · have h2 : 40 < kl.length := by
      rcases h with h | h
      · exact absurd h h1
      · exact h
    clear h
    go_enter Try.func4, Try.ntmps4
    go_wp2_with (go_at_call 9; refine (works_any _).mono ?_; rintro en w' ⟨rfl, hB⟩)
    go_ret
    exact ⟨rfl, hB⟩

/-- The two readers, side by side. -/
structure Both (w : World) (g1 g2 m : Nat) (l : List Int) (e : Int) : Prop where
  code : RdrAt w g1 (m, g1) l e
  ref : ∃ m2, g1 < m2 ∧ m2 ≤ g2 ∧ RefAt w g2 (m2, g2) l e
  bytes : Bytes l
  len : l.length ≤ 300
  fin : e ≠ 0 → l = []
  lt1 : g1 < w.heap.size
  lt2 : g2 < w.heap.size
  ne : g1 < g2
  le1 : m ≤ g1
  le0 : m ≤ w.heap.size

theorem Both.half {w w1 : World} {g1 g2 m : Nat} {l : List Int} {e : Int} (h : Both w g1 g2 m l e) (hg : w.grownBy w1 (some g1)) : ∃ m2, g1 < m2 ∧ m2 ≤ g2 ∧ RefAt w1 g2 (m2, g2) l e := by
  obtain ⟨m2, h1, h2, h3⟩ := h.ref
  exact ⟨m2, h1, h2, h3.only hg (by have := h.ne; omega) (.inl h1)⟩
theorem Both.step {w w1 w2 : World} {g1 g2 m m2 : Nat} {l l1 : List Int} {e e1 : Int} (h : Both w g1 g2 m l e) (hg1 : w.grownBy w1 (some g1)) (hr : RdrAt w1 g1 (m, g1) l1 e1)
    (hm1 : g1 < m2) (hm2 : m2 ≤ g2) (hg2 : w1.grownBy w2 (some g2)) (hq : RefAt w2 g2 (m2, g2) l1 e1) (hb : Bytes l1) (hl : l1.length ≤ l.length) (hf : e1 ≠ 0 → l1 = []) : Both w2 g1 g2 m l1 e1 ∧ Below m w w2 := by
  have hne := h.ne
  have s1 := hg1.size
  have s2 := hg2.size
  have l1' := h.lt1
  have l2' := h.lt2
  have hle := h.le1
  have h0 := h.le0
  have hlen := h.len
  refine ⟨⟨hr.only hg2 (by omega) (.inr (by show g1 ≤ g2; omega)), ⟨m2, hm1, hm2, hq⟩, hb, by omega, hf, by omega, by omega, hne, hle, by omega⟩, ?_⟩
  exact (below_only hg1 hle h0).trans ((below_only hg2 (by omega) (Nat.le_trans h0 s1)))
theorem Both.below {w w1 : World} {g1 g2 m : Nat} {l : List Int} {e : Int} (h : Both w g1 g2 m l e) (hb : Below w.heap.size w w1) : Both w1 g1 g2 m l e := by
  obtain ⟨m2, h1, h2, h3⟩ := h.ref
  have hs := hb.size
  have l1' := h.lt1
  have l2' := h.lt2
  exact ⟨h.code.below hb l1' (Nat.le_of_lt l1'), ⟨m2, h1, h2, h3.below hb l2' (Nat.le_of_lt l2')⟩, h.bytes, h.len, h.fin, by omega, by omega, h.ne, h.le1, Nat.le_trans h.le0 hs⟩
theorem Both.rerr {w : World} {g1 g2 m : Nat} {l : List Int} {e : Int} (h : Both w g1 g2 m l e) :
    Calls Try.prog 27 #[.pointer (some ⟨g2, 0, none⟩)] w fun en w' => en = .returned (.int .i64 e) ∧ w = w' := by
  obtain ⟨m2, h1, h2, h3⟩ := h.ref
  exact rerr_any _ _ _ _ _ h3
theorem Both.rlen {w : World} {g1 g2 m : Nat} {l : List Int} {e : Int} (h : Both w g1 g2 m l e) :
    Calls Try.prog 29 #[.pointer (some ⟨g2, 0, none⟩)] w fun en w' => en = .returned (.int .i64 l.length) ∧ w = w' := by
  obtain ⟨m2, h1, h2, h3⟩ := h.ref
  exact rlength_any _ _ _ _ _ h3 h.fin

set_option maxRecDepth 100000 in
theorem reads_small (b ks : Value) (bs kl : List Int) (w : World) (hb : Rd w .u8 b bs) (hbb : Bytes bs) (hk : Rd w .i64 ks kl) (h1 : bs.length ≤ 300) (h2 : kl.length ≤ 40) :
    Calls Try.prog 4 #[b, ks] w (LawDone w) := by
  obtain ⟨A, c, rfl, x1, x2, x3⟩ := hb
  have HB := hide (show Rd w .u8 (.slice A bs.length c) bs from ⟨A, c, rfl, x1, x2, x3⟩)
  obtain ⟨A', c', rfl, _, _, y3⟩ := hk
  have HBB := hide hbb
  clear x3 hbb x2
  go_enter Try.func4, Try.ntmps4
  go_wp2_with fail
  refine (newReader_any _ bs w HB.out (by omega)).mono ?_
  rintro en w1 ⟨g1, rfl, hR1, hb1, hge1⟩
  have HR1 := hide hR1
  have hg1 : g1 < w1.heap.size := by obtain ⟨_, hw, _⟩ := hR1; exact hw.lt
  have HB1 := hide (HB.out.below' hb1)
  clear hR1
  go_wp2_with fail
  refine (rnew_any _ bs w1 HB1.out (by omega)).mono ?_
  rintro en w2 ⟨g2, rfl, hR2, hb2, hge2⟩
  have hg2 : g2 < w2.heap.size := by obtain ⟨_, hw, _⟩ := hR2; exact hw.lt
  have HBOTH := hide (show Both w2 g1 g2 w.heap.size bs 0 from ⟨HR1.out.below hb2 hg1 (Nat.le_of_lt hg1), ⟨w1.heap.size, hg1, hge2, hR2⟩, HBB.out, h1, fun h => absurd rfl h, Nat.lt_of_lt_of_le hg1 hb2.size, hg2, by omega, hge1, Nat.le_trans hb1.size hb2.size⟩)
  have hB2 := Below.all hb1 hb2
  clear hR2 hb1 hb2 HR1 HB1 hg1 hg2 hge2
  go_wp2_with fail
  go_loopw [27] (fun i wr => ∃ (k : Nat) (l : List Int) (e : Int), k ≤ kl.length ∧ i = .int .i64 k ∧ Both wr g1 g2 w.heap.size l e ∧ Below w.heap.size w wr) (fun i _ => kl.length - (intOf i).toNat)
  case atStart => exact ⟨0, bs, 0, Nat.zero_le _, rfl, HBOTH.out, hB2⟩
  case round =>
    clear HBOTH hB2
    obtain ⟨k, l, e, hk, rfl, hbo, hB⟩ := hrel
    have HBO := hide hbo
    clear hbo
    by_cases hlt : k < kl.length
    · obtain ⟨ab, off, rfl, hblk, hcell⟩ := y3 (by omega)
      obtain ⟨x, hx⟩ : ∃ x, kl[k]? = some x := ⟨_, List.getElem?_eq_getElem hlt⟩
      have c1 : wr.cell? ⟨ab, off + k, none⟩ = some (.int .i64 x) := (hB.cell (p := ⟨ab, off + k, none⟩) hblk).trans (hcell k x hx)
      clear hx hcell y3
      by_cases hx0 : x = 0
      · have t : (x == 0) = true := by simpa using hx0
        clear hx0
        go_wp2_with fail
        refine (int_any _ _ l e wr HBO.out.code HBO.out.bytes).mono ?_
        rintro en w1 ⟨rfl, hr1, hgr1⟩
        have HR1 := hide hr1
        obtain ⟨m2, hm1, hm2, hq⟩ := HBO.out.half hgr1
        have HQ := hide hq
        clear hr1 hq
        go_wp2_with fail
        refine (rint_any _ _ l e w1 HQ.out HBO.out.bytes).mono ?_
        rintro en w2 ⟨rfl, hr2, hgr2⟩
        obtain ⟨hbo2, hbw⟩ := HBO.out.step hgr1 HR1.out hm1 hm2 hgr2 hr2 (rI_bytes HBO.out.bytes) (rI_len l e) (rI_fin HBO.out.fin)
        have HB2 := hide hbo2
        have hB2 := hB.trans hbw
        clear hr2 hgr1 hgr2 hbo2 hbw hm1 hm2 HQ HR1 HBO hB
        go_wp2_with fail
        refine (err_any _ _ _ _ w2 HB2.out.code).mono ?_
        rintro en w' ⟨rfl, rfl⟩
        go_wp2_with fail
        refine HB2.out.rerr.mono ?_
        rintro en w' ⟨rfl, rfl⟩
        go_wp2_with fail
        refine (len_any _ _ _ _ w2 HB2.out.code).mono ?_
        rintro en w' ⟨rfl, rfl⟩
        go_wp2_with fail
        refine HB2.out.rlen.mono ?_
        rintro en w' ⟨rfl, rfl⟩
        go_wp2_with fail
        go_roundw
        case rel => exact ⟨k + 1, _, _, by omega, by go_num, HB2.out, hB2⟩
        case measure => simp [intOf]; omega
      · have t : (x == 0) = false := by simpa using hx0
        by_cases hx1 : x = 1
        · have t' : (x == 1) = true := by simpa using hx1
          clear hx0 hx1
          go_wp2_with fail
          refine (ints_any _ _ l e wr HBO.out.code HBO.out.bytes (by have := HBO.out.len; omega) (Nat.le_of_lt HBO.out.lt1)).mono ?_
          rintro en w1 ⟨v1, rfl, hv1, ha1, hr1, hgr1⟩
          have HR1 := hide hr1
          have HV1 := hide hv1
          have HA1 := hide (ha1 g2 HBO.out.lt2)
          obtain ⟨m2, hm1, hm2, hq⟩ := HBO.out.half hgr1
          have HQ := hide hq
          clear hr1 hq hv1 ha1
          go_wp2_with fail
          refine (rints_any _ _ l e w1 HQ.out HBO.out.bytes (by have := HBO.out.len; omega) (Nat.le_of_lt (Nat.lt_of_lt_of_le HBO.out.lt2 hgr1.size))).mono ?_
          rintro en w2 ⟨v2, rfl, hv2, ha2, hr2, hgr2⟩
          obtain ⟨hbo2, hbw⟩ := HBO.out.step hgr1 HR1.out hm1 hm2 hgr2 hr2 (rLi_bytes HBO.out.bytes) (rLi_len l e) (rLi_fin HBO.out.fin)
          have HV1' := hide (HV1.out.only HA1.out hgr2)
          have HV2 := hide hv2
          have HB2 := hide hbo2
          have hB2 := hB.trans hbw
          clear hr2 hgr1 hgr2 hbo2 hbw hm1 hm2 HQ HR1 HBO hB hv2 ha2 HV1 HA1
          go_wp2_with fail
          refine (eqInts_any _ _ _ _ w2 HV1'.out HV2.out).mono ?_
          rintro en w3 ⟨rfl, hb3⟩
          have HB3 := hide (HB2.out.below hb3)
          have hB3 := Below.all hB2 hb3
          have ht : decide ((rLi l e).1 = (rLi l e).1) = true := by simp
          rw [ht]
          clear HV1' HV2 HB2 hB2 hb3 ht
          go_wp2_with fail
          refine (err_any _ _ _ _ w3 HB3.out.code).mono ?_
          rintro en w' ⟨rfl, rfl⟩
          go_wp2_with fail
          refine HB3.out.rerr.mono ?_
          rintro en w' ⟨rfl, rfl⟩
          go_wp2_with fail
          refine (len_any _ _ _ _ w3 HB3.out.code).mono ?_
          rintro en w' ⟨rfl, rfl⟩
          go_wp2_with fail
          refine HB3.out.rlen.mono ?_
          rintro en w' ⟨rfl, rfl⟩
          go_wp2_with fail
          go_roundw
          case rel => exact ⟨k + 1, _, _, by omega, by go_num, HB3.out, hB3⟩
          case measure => simp [intOf]; omega
        · have t' : (x == 1) = false := by simpa using hx1
          clear hx0 hx1
          go_wp2_with fail
          refine (str_any _ _ l e wr HBO.out.code HBO.out.bytes).mono ?_
          rintro en w1 ⟨s1, rfl, hs1, hr1, hgr1⟩
          have HR1 := hide hr1
          have HS1 := hide hs1
          obtain ⟨m2, hm1, hm2, hq⟩ := HBO.out.half hgr1
          have HQ := hide hq
          clear hr1 hq hs1
          go_wp2_with fail
          refine (rstr_any _ _ l e w1 HQ.out HBO.out.bytes).mono ?_
          rintro en w2 ⟨s2, rfl, hs2, hr2, hgr2⟩
          obtain rfl : s1 = s2 := strInts_inj (HS1.out.trans hs2.symm)
          obtain ⟨hbo2, hbw⟩ := HBO.out.step hgr1 HR1.out hm1 hm2 hgr2 hr2 (rS_bytes HBO.out.bytes) (rS_len l e) (rS_fin HBO.out.fin)
          have HB2 := hide hbo2
          have hB2 := hB.trans hbw
          clear hr2 hgr1 hgr2 hbo2 hbw hm1 hm2 HQ HR1 HBO hB hs2 HS1
          go_wp2_with fail
          refine (err_any _ _ _ _ w2 HB2.out.code).mono ?_
          rintro en w' ⟨rfl, rfl⟩
          go_wp2_with fail
          refine HB2.out.rerr.mono ?_
          rintro en w' ⟨rfl, rfl⟩
          go_wp2_with fail
          refine (len_any _ _ _ _ w2 HB2.out.code).mono ?_
          rintro en w' ⟨rfl, rfl⟩
          go_wp2_with fail
          refine HB2.out.rlen.mono ?_
          rintro en w' ⟨rfl, rfl⟩
          go_wp2_with fail
          go_roundw
          case rel => exact ⟨k + 1, _, _, by omega, by go_num, HB2.out, hB2⟩
          case measure => simp [intOf]; omega
    · go_wp2_with (go_at_call 9; refine (works_any _).mono ?_; rintro en w' ⟨rfl, hB'⟩)
      go_ret
      exact ⟨rfl, Below.all hB hB'⟩
end Go.Proofs.Ytckpjeheodbfaab

import Derived.Test.YtckpjeheodbfaabOwn
import Derived.Test.YtckpjeheodbfaabCanon
namespace Go.Proofs.Ytckpjeheodbfaab
open Go.RowKit

theorem own_big (b : Value) (n : Int) (bs : List Int) (w : World) (hb : Rd w .u8 b bs) (h : 100 < bs.length) :
    Calls Try.prog 8 #[b, .int .i64 n] w (LawDone w) := by
  have hbl := hb.len
  unfold maxLen at hbl
  obtain ⟨A, c, rfl, _⟩ := hb
  go_enter Try.func8, Try.ntmps8
  go_wp2_with (go_at_call 9; refine (works_any _).mono ?_; rintro en w' ⟨rfl, hB⟩)
  go_ret
  exact ⟨rfl, hB⟩

/-- A reader, past changes of one row that lies elsewhere. -/
theorem RdrAt.row {w w' : World} {g : Nat} {B : Nat × Nat} {l : List Int} {e : Int} {row : Option Nat} (h : RdrAt w g B l e) (hg : w.grownBy w' row) (hr : ∀ k, row = some k → k < B.1 ∧ k ≠ g) : RdrAt w' g B l e := by
  cases row with
  | some k => obtain ⟨h1, h2⟩ := hr k rfl; exact h.only hg (fun e => h2 e.symm) (.inl h1)
  | none =>
    refine h.only (g' := g + 1 + B.2) ⟨hg.os, hg.tape, hg.output, hg.size, fun j hj _ => hg.block j hj (by simp)⟩ (by omega) (.inr (by omega))

set_option maxRecDepth 100000 in
theorem own_small (b : Value) (n : Int) (bs : List Int) (w : World) (hb : Rd w .u8 b bs) (hbb : Bytes bs) (hn : Word n) (h1 : bs.length ≤ 100) :
    Calls Try.prog 8 #[b, .int .i64 n] w (LawDone w) := by
  obtain ⟨A, c, rfl, x1, x2, x3⟩ := hb
  have HB := hide (show Rd w .u8 (.slice A bs.length c) bs from ⟨A, c, rfl, x1, x2, x3⟩)
  have HBB := hide hbb
  have HN := hide hn
  clear x3 hbb hn
  go_enter Try.func8, Try.ntmps8
  go_wp2_with fail
  refine (clone_any _ bs w HB.out (by omega)).mono ?_
  rintro en w1 ⟨v1, rfl, ho1, hb1⟩
  have HO1 := hide ho1
  have hsz1 := hide ho1.size
  have hs1 := hb1.size
  clear ho1
  go_wp2_with fail
  refine (appInt_any _ bs n w1 HO1.out.rd HN.out (by omega)).mono ?_
  rintro en w2 ⟨v2, rfl, ho2, hb2⟩
  have HO2 := hide ho2
  have HO1' := hide (HO1.out.below' hb2)
  have hb12 := Below.all hb1 hb2
  have hs2 := hb2.size
  clear ho2 hb1 hb2 HO1
  go_wp2_with fail
  refine (newReader_any _ bs w2 HO1'.out.rd (by omega)).mono ?_
  rintro en w3 ⟨g, rfl, hR3, hb3, hge⟩
  have HR3 := hide hR3
  have hg3 : g < w3.heap.size := by obtain ⟨_, hw, _⟩ := hR3; exact hw.lt
  have HO1 := hide (HO1'.out.below' hb3)
  have HO2' := hide (HO2.out.below' hb3)
  have hsz2 := hide HO2.out.size
  have hB3 := Below.all hb12 hb3
  have hs3 := hb3.size
  clear hR3 hb12 hb3 HO2 HO1'
  obtain ⟨A1, c1, rfl, y1, y2, _⟩ := id HO1.out.rd
  have hc9 : c1 ≤ 9223372036854775807 := by unfold maxLen at y2; omega
  go_wp2_with fail
  go_loopw [26] (fun i wr => ∃ (k : Nat) (l : List Int), k ≤ bs.length ∧ i = .int .i64 k ∧ l.length = bs.length ∧ Own wr w.heap.size 5 .u8 (.slice A1 bs.length c1) l ∧ w3.grownBy wr (Value.slice A1 bs.length c1).ownBlock) (fun i _ => bs.length - (intOf i).toNat)
  case atStart => exact ⟨0, bs, Nat.zero_le _, rfl, rfl, HO1.out, World.grownBy.refl _ _⟩
  case round =>
    clear HO1
    obtain ⟨k, l, hk, rfl, hll, ho, hg⟩ := hrel
    have HO := hide ho
    have HG := hide hg
    clear ho hg
    by_cases hlt : k < bs.length
    · obtain ⟨gc, rfl⟩ : ∃ gc, A1 = some ⟨gc, 0, none⟩ := by
        rcases HO.out.2 with ⟨e1, e2⟩ | ⟨gc, cap, cur, e1, _⟩
        · omega
        · injection e1 with e1; exact ⟨gc, e1⟩
      have hown : wr.ownsRow w.heap.size 5 1 (.slice (some ⟨gc, 0, none⟩) bs.length c1) bs.length (l.map (Value.int .u8)) := by
        have := HO.out; unfold Own at this; rwa [hll] at this
      have cx := hown.cellAt k (by omega)
      obtain ⟨x, hx⟩ : ∃ x, l[k]? = some x := ⟨_, List.getElem?_eq_getElem (by omega)⟩
      rw [List.getElem?_map, hx, Option.map_some] at cx
      have cf := hown.frozenAt k
      have HW := hide hown
      clear hown hx
      go_wp2_with fail
      go_roundw
      case rel =>
        obtain ⟨q1, q2⟩ := HW.out.stored k (.int .u8 200)
        refine ⟨k + 1, l.set k 200, by omega, by go_num, by simp [hll], ?_, only_trans HG.out q2⟩
        unfold Own
        rw [List.length_set, hll, List.map_set]
        exact q1
      case measure => simp [intOf]; omega
    · obtain rfl : k = bs.length := by omega
      have hlow : ∀ q, (Value.slice A1 bs.length c1).ownBlock = some q → w.heap.size ≤ q ∧ q < w1.heap.size := hsz1.out
      have hBr := hB3.grown HG.out hB3.size fun q hq => (hlow q hq).1
      have HR := hide (HR3.out.row HG.out fun q hq => ⟨by show q < w2.heap.size; have := (hlow q hq).2; omega, by have := (hlow q hq).2; omega⟩)
      have HV2 := hide (HO2'.out.keep HG.out (by
        cases hv : v2.ownBlock with
        | none => exact .inl rfl
        | some q =>
          refine .inr fun e => ?_
          have g1 := (hsz2.out q hv).1
          have g2 := (hlow q e.symm).2
          omega)).rd
      have hsr := HG.out.size
      have hgr : g < wr.heap.size := Nat.lt_of_lt_of_le hg3 hsr
      generalize w2.heap.size = m2 at *
      clear HO HG HR3 HO2' hsz1 hsz2 hlow hB3 hsr hg3
      obtain ⟨w4, hw4⟩ : ∃ x, x = wr.alloc (.cells #[.slice none 0 0, .int .i64 0, .pointer none] 48) := ⟨_, rfl⟩
      have hb4 : Below wr.heap.size wr w4 := by rw [hw4]; exact (Below.refl _ _).alloc (Nat.le_refl _) _
      have HZ := hide (show Whole w4 wr.heap.size 48 #[.slice none 0 0, .int .i64 0, .pointer none] by rw [hw4]; exact Whole.new _ _ _)
      have HV4 := hide (HV2.out.below' hb4)
      have HR4 := hide (HR.out.below hb4 hgr (Nat.le_of_lt hgr))
      have hB4 := hBr.trans (hb4.mono hBr.size)
      have hgz : g < wr.heap.size := hgr
      have hz4 : wr.heap.size < w4.heap.size := HZ.out.lt
      clear hb4 HV2 HR hBr hgr
      go_wp2_with fail
      rw [← hw4]
      generalize wr.heap.size = z at *
      clear hw4
      refine (rappInt_any _ bs n w4 (HB.out.below hB4 (Nat.le_refl _)) HN.out (by omega)).mono ?_
      rintro en w5 ⟨v5, rfl, ho5, hb5⟩
      have HO5 := hide ho5
      have HV5 := hide (HV4.out.below' hb5)
      have HR5 := hide (HR4.out.below hb5 (by omega) (by show g ≤ _; omega))
      have HZ5 := hide (HZ.out.below' hb5)
      have hB5 := hB4.trans (hb5.mono hB4.size)
      have hs5 := hb5.size
      clear ho5 hb5 HV4 HR4 HZ hB4
      go_wp2_with fail
      refine (eqBytes_any _ _ _ _ w5 HV5.out HO5.out.rd).mono ?_
      rintro en w6 ⟨rfl, hb6⟩
      have HR6 := hide (HR5.out.below hb6 (by omega) (by show g ≤ _; omega))
      have HZ6 := hide (HZ5.out.below' hb6)
      have hB6 := hB5.trans (hb6.mono hB5.size)
      have hs6 := hb6.size
      have ht : decide (bs ++ enc n = bs ++ enc n) = true := by simp
      rw [ht]
      clear hb6 HO5 HV5 HR5 HZ5 hB5 ht
      go_wp2_with fail
      refine (int_any g _ bs 0 w6 HR6.out HBB.out).mono ?_
      rintro en w7 ⟨rfl, hR7, hg7⟩
      have HZ7 := hide (HZ6.out.grown hg7 (by simp; omega))
      have hB7 := hB6.trans (below_only hg7 (by omega) hB6.size)
      have hs7 := hg7.size
      clear hR7 hg7 HZ6 HR6 hB6
      go_wp2_with fail
      refine (rnew_any _ bs w7 (HB.out.below hB7 (Nat.le_refl _)) (by omega)).mono ?_
      rintro en w8 ⟨g8, rfl, hR8, hb8, hge8⟩
      have HR8 := hide hR8
      have HZ8 := hide (HZ7.out.below' hb8)
      have hB8 := hB7.trans (hb8.mono hB7.size)
      have hs8 := hb8.size
      clear hR8 hb8 HZ7 hB7
      go_wp2_with fail
      refine (rint_any g8 _ bs 0 w8 HR8.out HBB.out).mono ?_
      rintro en w9 ⟨rfl, hR9, hg9⟩
      have HZ9 := hide (HZ8.out.grown hg9 (by simp; omega))
      have hB9 := hB8.trans (below_only hg9 (by omega) hB8.size)
      clear hR9 hg9 HZ8 HR8 hB8
      go_wp2_with fail
      refine (err_nil _).mono ?_
      rintro en w' ⟨rfl, rfl⟩
      go_wp2_with fail
      refine (int_nil _).mono ?_
      rintro en w' ⟨rfl, rfl⟩
      go_wp2_with fail
      refine (ints_nil _).mono ?_
      rintro en w' ⟨rfl, rfl⟩
      go_wp2_with fail
      refine (str_nil _).mono ?_
      rintro en w' ⟨rfl, rfl⟩
      go_wp2_with fail
      refine (len_nil _).mono ?_
      rintro en w' ⟨rfl, rfl⟩
      go_wp2_with fail
      refine (err_zero _ _ _ _ HZ9.out).mono ?_
      rintro en w' ⟨rfl, rfl⟩
      go_wp2_with fail
      refine (int_zero _ _ _ _ HZ9.out).mono ?_
      rintro en w' ⟨rfl, rfl⟩
      go_wp2_with fail
      refine (len_zero _ _ _ _ HZ9.out).mono ?_
      rintro en w' ⟨rfl, rfl⟩
      go_wp2_with (go_at_call 9; refine (works_any _).mono ?_; rintro en w' ⟨rfl, hB'⟩)
      go_ret
      exact ⟨rfl, Below.all hB9 hB'⟩
end Go.Proofs.Ytckpjeheodbfaab

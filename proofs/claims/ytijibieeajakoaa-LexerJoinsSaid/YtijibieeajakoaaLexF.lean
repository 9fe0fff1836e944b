/-
  Layer 13 (lexer): Scan of the program.
-/
import Derived.Test.YtijibieeajakoaaLexS
namespace Go.Proofs.Ytijibieeajakoaa
open Go.RowKit

theorem tokInfo : (Try.prog.info? 34).map (fun i => (i.zero, i.size, i.bytes)) = some (some (.agg #[.int .i64 0, .int .i64 0, .int .i64 0, .string { data := #[] }]), 4, 40) := by kernel_rfl
theorem lenT (n c : Nat) (A : Option Addr) (h : n ≤ 20000) (W : World) (ty : TypeId) : (Builtin.len_ #[23] ty #[.slice A n c]).run Try.prog W = .ok (.int .i64 (n : Int)) W := by
  simp [Builtin.len_, run_underlying Try.underlying23]
  rfl

set_option maxRecDepth 100000 in
set_option maxHeartbeats 8000000 in
theorem scan_any (l : List UInt8) (hm : l.length ≤ 1000000) (w : World) : Calls Try.prog 8 #[.string (Bs l)] w fun e w' =>
    ∃ v, e = .returned (.tuple #[v, .int .i64 ((Scan l).2.1 : Int), .int .i64 (Scan l).2.2]) ∧ OwnT w' w.heap.size 34 v (Scan l).1 ∧ Below w.heap.size w w' := by
  have hlen := lenS l (by unfold maxLen; omega)
  by_cases h60 : 60000 < l.length
  · have hS : Hid (Scan l = ([], 0, 5)) := by show _ = _; simp [Scan, h60]
    have h61 : (60000 : Int) < (l.length : Int) := by omega
    go_enter Try.func8, Try.ntmps8
    go_wp2
    refine bodyPost_ret (v := .tuple #[.slice none 0 0, .int .i64 0, .int .i64 5]) ?_ rfl ⟨_, by rw [hS.out]; rfl, by rw [hS.out]; exact OwnT.nil, Below.refl _ _⟩
    simp [results, Try.f8, go_sem]
  have hS : Hid (Scan l = scan l.length l 0 0) := by show _ = _; simp [Scan, h60]
  have h61 : ¬ (60000 : Int) < (l.length : Int) := by omega
  obtain ⟨vb, wb, hcv, hbb, hcb⟩ := copy_str l (by unfold maxLen; omega) w
  have hcb' := hcb wb (Below.refl _ _)
  obtain ⟨q, hq⟩ : ∃ q, w.heap.size = q := ⟨_, rfl⟩
  rw [hq]
  obtain ⟨i0, hi0, hz0, hz1, hz2⟩ := info_parts tokInfo
  have HB0 : Hid (Below q w wb) := hq ▸ hbb
  have hq0 : Hid (q ≤ wb.heap.size) := by have := hbb.size; show _ ≤ _; omega
  clear hcb hbb
  go_enter Try.func8, Try.ntmps8
  go_wp2
  go_loopw [2, 5] (fun v2 v5 wr => ∃ (i : Nat) (ts : List Tok), v5 = .int .i64 (i : Int) ∧ At l i ts ∧ OwnT wr q 34 v2 ts ∧ Below q w wr ∧ q ≤ wr.heap.size) (fun _ v5 _ => l.length - (intOf v5).toNat)
  case atStart => exact ⟨0, [], rfl, At.start l, OwnT.nil, HB0.out, hq0.out⟩
  case round =>
    obtain ⟨i, ts, rfl, hA, hO, hB, hsz⟩ := hrel
    have hil := hA.1
    have htl := hA.2.1
    obtain ⟨A, cap, rfl⟩ := hO.form
    have HA := hide hA
    have HO := hide hO
    have HB := hide hB
    have HS := hide hsz
    clear hA hO hB hsz HB0 hq0 hcv hcb'
    rcases Nat.lt_or_ge i l.length with hp | hp
    · obtain ⟨c, hc⟩ : ∃ c, l[i]? = some c := ⟨_, List.getElem?_eq_getElem hp⟩
      have hix := ix l i c hc
      have HC := hide hc
      have hbd : isBl c = (decide ((c.toNat : Int) = 32) || decide ((c.toNat : Int) = 10)) := rfl
      obtain ⟨cz, hcz⟩ : ∃ z : Int, (c.toNat : Int) = z := ⟨_, rfl⟩
      rw [hcz] at hix hbd
      clear hc hcz
      by_cases hb : isBl c = true
      · have HN := hide (HA.out.blank HC.out hb)
        have hb2 := hbd.symm.trans hb
        clear hb hbd
        go_wp2_with (go_at_call 14; refine (isBlank_any _ _).mono ?_; rintro en w' ⟨rfl, rfl⟩)
        go_roundw
        case rel => exact ⟨i + 1, ts, rfl, HN.out, HO.out, HB.out, HS.out⟩
        case measure => simp [intOf]; omega
      have hb' : isBl c = false := by simpa using hb
      have hb2 := hbd.symm.trans hb'
      have HBL := hide hb'
      clear hb hb' hbd
      have hln := lenT ts.length cap A htl
      by_cases hk : ts.length = 20000
      · have hR := hide (HA.out.full HC.out HBL.out hk)
        have hk2 : (((ts.length : Nat) : Int) == 20000) = true := by simp; omega
        clear hk
        go_wp2_with (go_at_call 14; refine (isBlank_any _ _).mono ?_; rintro en w' ⟨rfl, rfl⟩)
        refine bodyPost_ret (v := .tuple #[.slice none 0 0, .int .i64 (i : Int), .int .i64 11]) ?_ rfl ⟨_, by rw [hS.out, hR.out], by rw [hS.out, hR.out]; exact OwnT.nil, HB.out⟩
        simp [results, Try.f8, go_sem]
      have hk2 : (((ts.length : Nat) : Int) == 20000) = false := by simp; omega
      have hsl := slFrom l i hil
      have hFT := firstToken_any (l.drop i) (by rw [drop_at HC.out]; simp) (by simp; omega)
      by_cases he : tokE (l.drop i) = 0
      · obtain ⟨hN, htp, htl2⟩ := HA.out.token HC.out HBL.out hk he
        have HN := hide hN
        have hcells : ftCells (l.drop i) = #[.int .i64 (tokK (l.drop i)), .int .i64 0, .int .i64 (tokN (l.drop i)), .string (Bs (tokT (l.drop i)))] := by unfold ftCells; rw [if_pos he]
        have hlen2 : ftLen (l.drop i) = (tokLen (l.drop i) : Int) := by unfold ftLen; rw [if_pos he]
        rw [hcells, hlen2, he] at hFT
        have HT : Hid (tokAt (l.drop i) i = ⟨tokK (l.drop i), i, tokN (l.drop i), tokT (l.drop i)⟩) := rfl
        obtain ⟨tk, htk⟩ : ∃ x, tokK (l.drop i) = x := ⟨_, rfl⟩
        obtain ⟨tn, htn⟩ : ∃ x, tokN (l.drop i) = x := ⟨_, rfl⟩
        obtain ⟨tt, htt⟩ : ∃ x, tokT (l.drop i) = x := ⟨_, rfl⟩
        obtain ⟨tl, htl⟩ : ∃ x, tokLen (l.drop i) = x := ⟨_, rfl⟩
        rw [htk, htn, htt] at hFT HT
        rw [htl] at hFT HN htp htl2
        clear hN hcells hlen2 he htk htn htt htl hk
        go_wp2_with (first | (go_at_call 14; refine (isBlank_any _ _).mono ?_; rintro en w' ⟨rfl, rfl⟩) | (go_at_call 15; refine (hFT _).mono ?_; rintro en w2 ⟨rfl, hb2⟩) | (at_builtin; refine wpList_append_own _ rfl (.tmp 43) (.tmp 45) 23 rfl q 34 i0 _ 4 40 Try.underlying23 hi0 hz0 hz1 hz2 rfl (by decide) _ ts.length _ rfl (((HO.out.below' hb2).alloc _).alloc _) ⟨w2.heap.size + 1, 0, none⟩ 1 1 [.int .i64 tk, .int .i64 (i : Int), .int .i64 tn, .string (Bs tt)] rfl rfl (new4 _ _ (World.size_alloc _ _) _ _ _ _ _) (one4 _ _ _ _) (by unfold maxLen; omega) (by omega) (by simp only [World.size_alloc]; have := hb2.size; have := HS.out; omega) ?_; intro v' w3 hown' hgrow _))
        have hO3 : Hid (OwnT w3 q 34 v' (ts ++ [tokAt (l.drop i) i])) := by rw [HT.out]; exact OwnT.snoc (t := ⟨tk, i, tn, tt⟩) hown' rfl
        have hB3 : Hid (Below q w w3 ∧ q ≤ w3.heap.size) := by
          have h1 := HS.out
          have h2 := hb2.size
          have h3 := hgrow.size
          simp only [World.size_alloc] at h3
          refine ⟨?_, by omega⟩
          have h4 : Below q w ((w2.alloc (.cells #[.int .i64 tk, .int .i64 (i : Int), .int .i64 tn, .string (Bs tt)] 34)).alloc (.cells #[.int .i64 tk, .int .i64 (i : Int), .int .i64 tn, .string (Bs tt)] 34)) := ((HB.out.trans (hb2.mono h1)).alloc (by omega) _).alloc (by simp only [World.size_alloc]; omega) _
          exact h4.grown hgrow (by simp only [World.size_alloc]; omega) (fun k hk => (World.ownsRow.lt HO.out k hk).1)
        clear hown' hgrow hb2 HO HB HS HT hFT
        go_wp2_with fail
        go_roundw
        case rel => exact ⟨i + tl, _, by go_num, HN.out, hO3.out, hB3.out.1, hB3.out.2⟩
        case measure => simp [intOf]; omega
      · have hR := hide (HA.out.err HC.out HBL.out hk he)
        obtain ⟨ev, hev⟩ : ∃ x, tokE (l.drop i) = x := ⟨_, rfl⟩
        have hcells : ftCells (l.drop i) = #[.int .i64 0, .int .i64 0, .int .i64 0, .string (Bs [])] := by unfold ftCells; rw [if_neg he]
        have hlen2 : ftLen (l.drop i) = 0 := by unfold ftLen; rw [if_neg he]
        rw [hcells, hlen2, hev] at hFT
        rw [hev] at hR he
        have he2 : (ev != 0) = true := by simpa using he
        clear hcells hlen2 hev he hk
        go_wp2_with (first | (go_at_call 14; refine (isBlank_any _ _).mono ?_; rintro en w' ⟨rfl, rfl⟩) | (go_at_call 15; refine (hFT _).mono ?_; rintro en w2 ⟨rfl, hb2⟩))
        refine bodyPost_ret (v := .tuple #[.slice none 0 0, .int .i64 (i : Int), .int .i64 ev]) ?_ rfl ⟨_, by rw [hS.out, hR.out], by rw [hS.out, hR.out]; exact OwnT.nil, (HB.out.trans (hb2.mono HS.out)).alloc (by have := hb2.size; have := HS.out; omega) _⟩
        simp [results, Try.f8, go_sem]
    · obtain rfl : i = l.length := by omega
      have hR := hide HA.out.done
      clear hil
      go_wp2
      refine bodyPost_ret (v := .tuple #[.slice A ts.length cap, .int .i64 0, .int .i64 0]) ?_ rfl ⟨_, by rw [hS.out, hR.out]; rfl, by rw [hS.out, hR.out]; exact HO.out, HB.out⟩
      simp [results, Try.f8, go_sem]
end Go.Proofs.Ytijibieeajakoaa

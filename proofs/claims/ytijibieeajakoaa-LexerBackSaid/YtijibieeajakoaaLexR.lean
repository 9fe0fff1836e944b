/-
  Layer 13 (lexer): the reference's Scan.
-/
import Derived.Test.YtijibieeajakoaaLexK
namespace Go.Proofs.Ytijibieeajakoaa
open Go.RowKit

theorem rtokInfo : (Try.prog.info? 36).map (fun i => (i.zero, i.size, i.bytes)) = some (some (.agg #[.int .i64 0, .int .i64 0, .int .i64 0, .string { data := #[] }]), 4, 40) := by kernel_rfl
theorem rlenT (n c : Nat) (A : Option Addr) (h : n ≤ 20000) (W : World) (ty : TypeId) : (Builtin.len_ #[27] ty #[.slice A n c]).run Try.prog W = .ok (.int .i64 (n : Int)) W := by
  simp [Builtin.len_, run_underlying Try.underlying27]
  rfl

set_option maxRecDepth 100000 in
set_option maxHeartbeats 8000000 in
theorem rscan_any (l : List UInt8) (hm : l.length ≤ 900000) (w : World) : Calls Try.prog 9 #[.string (Bs l)] w fun e w' =>
    ∃ v, e = .returned (.tuple #[v, .int .i64 ((Scan l).2.1 : Int), .int .i64 (Scan l).2.2]) ∧ OwnT w' w.heap.size 36 v (Scan l).1 ∧ Below w.heap.size w w' := by
  have hlen := lenS l (by unfold maxLen; omega)
  by_cases h60 : 60000 < l.length
  · have hS : Hid (Scan l = ([], 0, 5)) := by show _ = _; simp [Scan, h60]
    have h61 : (60000 : Int) < (l.length : Int) := by omega
    go_enter Try.func9, Try.ntmps9
    go_wp2
    refine bodyPost_ret (v := .tuple #[.slice none 0 0, .int .i64 0, .int .i64 5]) ?_ rfl ⟨_, by rw [hS.out]; rfl, by rw [hS.out]; exact OwnT.nil, Below.refl _ _⟩
    simp [results, Try.f9, go_sem]
  have hS : Hid (Scan l = scan l.length l 0 0) := by show _ = _; simp [Scan, h60]
  have h61 : ¬ (60000 : Int) < (l.length : Int) := by omega
  obtain ⟨q, hq⟩ : ∃ q, w.heap.size = q := ⟨_, rfl⟩
  rw [hq]
  obtain ⟨i0, hi0, hz0, hz1, hz2⟩ := info_parts rtokInfo
  have HB0 : Hid (Below q w w) := hide (Below.refl _ _)
  have hq0 : Hid (q ≤ w.heap.size) := by show _ ≤ _; omega
  go_enter Try.func9, Try.ntmps9
  go_wp2
  go_loopw [5, 6] (fun v2 v5 wr => ∃ (i : Nat) (ts : List Tok), v5 = .int .i64 (i : Int) ∧ At l i ts ∧ OwnT wr q 36 v2 ts ∧ Below q w wr ∧ q ≤ wr.heap.size) (fun _ v5 _ => l.length - (intOf v5).toNat)
  case atStart => exact ⟨0, [], rfl, At.start l, OwnT.nil, HB0.out, hq0.out⟩
  case round =>
    obtain ⟨i, ts, rfl, hA, hO, hB, hsz⟩ := hrel
    have hil := hA.1
    have htl := hA.2.1
    obtain ⟨A, cap, rfl⟩ := hO.form
    have HA := hide hA
    have HO := hide hO
    have HB := hide hB
    have HS := hide hsz
    clear hA hO hB hsz HB0 hq0
    rcases Nat.lt_or_ge i l.length with hp | hp
    · obtain ⟨c, hc⟩ : ∃ c, l[i]? = some c := ⟨_, List.getElem?_eq_getElem hp⟩
      have hix := ix l i c hc
      have HC := hide hc
      have hbd : isBl c = (decide ((c.toNat : Int) = 32) || decide ((c.toNat : Int) = 10)) := rfl
      obtain ⟨cz, hcz⟩ : ∃ z : Int, (c.toNat : Int) = z := ⟨_, rfl⟩
      rw [hcz] at hix hbd
      clear hc hcz
      by_cases hb : isBl c = true
      · have HN := hide (HA.out.blank HC.out hb)
        have hb2 : cz = 32 ∨ cz = 10 := by have := hbd.symm.trans hb; simpa using this
        clear hb hbd
        by_cases h32 : (cz == 32) = true
        · clear hb2
          go_wp2
          go_roundw
          case rel => exact ⟨i + 1, ts, rfl, HN.out, HO.out, HB.out, HS.out⟩
          case measure => simp [intOf]; omega
        · have h32' : (cz == 32) = false := by simpa using h32
          have h10 : (cz == 10) = true := by simp at h32 ⊢; omega
          clear hb2 h32
          go_wp2
          go_roundw
          case rel => exact ⟨i + 1, ts, rfl, HN.out, HO.out, HB.out, HS.out⟩
          case measure => simp [intOf]; omega
      have hb' : isBl c = false := by simpa using hb
      have hb2 := hbd.symm.trans hb'
      have h32 : (cz == 32) = false := by simp at hb2 ⊢; exact hb2.1
      have h10 : (cz == 10) = false := by simp at hb2 ⊢; exact hb2.2
      have HBL := hide hb'
      clear hb hb' hbd hb2
      have hln := rlenT ts.length cap A htl
      by_cases hk : ts.length = 20000
      · have hR := hide (HA.out.full HC.out HBL.out hk)
        have hk2 : (20000 : Int) ≤ ((ts.length : Nat) : Int) := by omega
        clear hk
        go_wp2
        refine bodyPost_ret (v := .tuple #[.slice none 0 0, .int .i64 (i : Int), .int .i64 11]) ?_ rfl ⟨_, by rw [hS.out, hR.out], by rw [hS.out, hR.out]; exact OwnT.nil, HB.out⟩
        simp [results, Try.f9, go_sem]
      have hk2 : ¬ (20000 : Int) ≤ ((ts.length : Nat) : Int) := by omega
      have hFT := next_any l i c HC.out hm
      by_cases he : tokE (l.drop i) = 0
      · obtain ⟨hN, htp, htl2⟩ := HA.out.token HC.out HBL.out hk he
        have HN := hide hN
        have hcells : nxCells (l.drop i) i = #[.int .i64 (tokK (l.drop i)), .int .i64 (i : Int), .int .i64 (tokN (l.drop i)), .string (Bs (tokT (l.drop i)))] := by unfold nxCells; rw [if_pos he]
        have hFT2 : ∀ W, Calls Try.prog 16 #[.string (Bs l), .int .i64 (i : Int)] W fun e w' => e = .returned (.tuple #[.agg #[.int .i64 (tokK (l.drop i)), .int .i64 (i : Int), .int .i64 (tokN (l.drop i)), .string (Bs (tokT (l.drop i)))], .int .i64 ((i + tokLen (l.drop i) : Nat) : Int), .int .i64 0]) ∧ Below W.heap.size W w' := fun W =>
          (hFT W).mono fun e w' ⟨kk, h1, h2, h3⟩ => ⟨by rw [h1, hcells, h2 he, he], h3⟩
        have HT : Hid (tokAt (l.drop i) i = ⟨tokK (l.drop i), i, tokN (l.drop i), tokT (l.drop i)⟩) := rfl
        obtain ⟨tk, htk⟩ : ∃ x, tokK (l.drop i) = x := ⟨_, rfl⟩
        obtain ⟨tn, htn⟩ : ∃ x, tokN (l.drop i) = x := ⟨_, rfl⟩
        obtain ⟨tt, htt⟩ : ∃ x, tokT (l.drop i) = x := ⟨_, rfl⟩
        obtain ⟨ie, hie⟩ : ∃ x, i + tokLen (l.drop i) = x := ⟨_, rfl⟩
        rw [htk, htn, htt] at hFT2 HT
        rw [hie] at hFT2 HN htl2
        have hadv : i < ie := by omega
        clear hN hcells he htk htn htt hk hFT hie htp
        go_wp2_with (first | (go_at_call 16; refine (hFT2 _).mono ?_; rintro en w2 ⟨rfl, hb2⟩) | (at_builtin; refine wpList_append_own _ rfl (.tmp 44) (.tmp 46) 27 rfl q 36 i0 _ 4 40 Try.underlying27 hi0 hz0 hz1 hz2 rfl (by decide) _ ts.length _ rfl (((HO.out.below' hb2).alloc _).alloc _) ⟨w2.heap.size + 1, 0, none⟩ 1 1 [.int .i64 tk, .int .i64 (i : Int), .int .i64 tn, .string (Bs tt)] rfl rfl (new4 _ _ (World.size_alloc _ _) _ _ _ _ _) (one4 _ _ _ _) (by unfold maxLen; omega) (by omega) (by simp only [World.size_alloc]; have := hb2.size; have := HS.out; omega) ?_; intro v' w3 hown' hgrow _))
        have hO3 : Hid (OwnT w3 q 36 v' (ts ++ [tokAt (l.drop i) i])) := by rw [HT.out]; exact OwnT.snoc (t := ⟨tk, i, tn, tt⟩) hown' rfl
        have hB3 : Hid (Below q w w3 ∧ q ≤ w3.heap.size) := by
          have h1 := HS.out
          have h2 := hb2.size
          have h3 := hgrow.size
          simp only [World.size_alloc] at h3
          refine ⟨?_, by omega⟩
          have h4 : Below q w ((w2.alloc (.cells #[.int .i64 tk, .int .i64 (i : Int), .int .i64 tn, .string (Bs tt)] 36)).alloc (.cells #[.int .i64 tk, .int .i64 (i : Int), .int .i64 tn, .string (Bs tt)] 36)) := ((HB.out.trans (hb2.mono h1)).alloc (by omega) _).alloc (by simp only [World.size_alloc]; omega) _
          exact h4.grown hgrow (by simp only [World.size_alloc]; omega) (fun k hk => (World.ownsRow.lt HO.out k hk).1)
        clear hown' hgrow hb2 HO HB HS HT hFT2
        go_wp2_with fail
        go_roundw
        case rel => exact ⟨ie, _, by go_num, HN.out, hO3.out, hB3.out.1, hB3.out.2⟩
        case measure => simp [intOf]; omega
      · have hR := hide (HA.out.err HC.out HBL.out hk he)
        obtain ⟨ev, hev⟩ : ∃ x, tokE (l.drop i) = x := ⟨_, rfl⟩
        have hcells : nxCells (l.drop i) i = #[.int .i64 0, .int .i64 0, .int .i64 0, .string (Bs [])] := by unfold nxCells; rw [if_neg he]
        have hFT2 : ∀ W, Calls Try.prog 16 #[.string (Bs l), .int .i64 (i : Int)] W fun e w' => ∃ kk : Int, e = .returned (.tuple #[.agg #[.int .i64 0, .int .i64 0, .int .i64 0, .string (Bs [])], .int .i64 kk, .int .i64 ev]) ∧ Below W.heap.size W w' := fun W =>
          (hFT W).mono fun e w' ⟨kk, h1, _, h3⟩ => ⟨kk, by rw [h1, hcells, hev], h3⟩
        rw [hev] at hR he
        have he2 : (ev != 0) = true := by simpa using he
        clear hcells hev he hk hFT
        go_wp2_with (first | (go_at_call 16; refine (hFT2 _).mono ?_; rintro en w2 ⟨kk, rfl, hb2⟩))
        refine bodyPost_ret (v := .tuple #[.slice none 0 0, .int .i64 (i : Int), .int .i64 ev]) ?_ rfl ⟨_, by rw [hS.out, hR.out], by rw [hS.out, hR.out]; exact OwnT.nil, (HB.out.trans (hb2.mono HS.out)).alloc (by have := hb2.size; have := HS.out; omega) _⟩
        simp [results, Try.f9, go_sem]
    · obtain rfl : i = l.length := by omega
      have hR := hide HA.out.done
      clear hil
      go_wp2
      refine bodyPost_ret (v := .tuple #[.slice A ts.length cap, .int .i64 0, .int .i64 0]) ?_ rfl ⟨_, by rw [hS.out, hR.out]; rfl, by rw [hS.out, hR.out]; exact HO.out, HB.out⟩
      simp [results, Try.f9, go_sem]
end Go.Proofs.Ytijibieeajakoaa

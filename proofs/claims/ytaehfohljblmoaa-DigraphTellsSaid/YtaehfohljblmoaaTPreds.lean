/-
  Layer 6 (digraph), the reference: Preds.
-/
import Derived.Test.YtaehfohljblmoaaTRev
import Derived.Test.YtaehfohljblmoaaRevMath
namespace Go.Proofs.Ytaehfohljblmoaa
open Go.RowKit

theorem ddTo_len (l : List Int) : ∀ k, (ddTo l k).length ≤ k
  | 0 => by simp [ddTo]
  | k + 1 => by
    have := ddTo_len l k
    rw [ddTo_succ, List.length_append]
    split <;> simp <;> omega
theorem ddTo_last (l : List Int) : ∀ k, k ≤ l.length → 0 < k → ∃ p, ddTo l k = p ++ [l.getD (k - 1) 0]
  | 0, _, h => by omega
  | k + 1, hk, _ => by
    rw [ddTo_succ, Nat.add_sub_cancel]
    by_cases hc : keepAt l k = true
    · rw [if_pos hc]; exact ⟨_, rfl⟩
    · rw [if_neg hc, List.append_nil]
      have h1 : ¬ (k = 0 ∨ l.getD k 0 ≠ l.getD (k - 1) 0) := fun h => hc (decide_eq_true h)
      have h2 : k ≠ 0 := fun h => h1 (.inl h)
      have h3 : l.getD k 0 = l.getD (k - 1) 0 := Decidable.byContradiction fun h => h1 (.inr h)
      obtain ⟨p, hp⟩ := ddTo_last l k (by omega) (by omega)
      exact ⟨p, by rw [hp, h3]⟩

set_option maxRecDepth 100000 in
set_option maxHeartbeats 2000000 in
theorem rpreds_bad (A : Option Addr) (c : Nat) (g : List (List Int)) (w : World) (hg : RdL w A c g) (hbad : codeG g ≠ 0) :
    Calls Try.prog 13 #[.agg #[.slice A g.length c]] w fun en w' => en = .returned (.slice none 0 0) ∧ Below w.heap.size w w' := by
  have HA : Hid (Below w.heap.size w (w.alloc (.cells #[.slice A g.length c] 24))) := hide ((Below.refl _ _).alloc (Nat.le_refl _) _)
  have HG : Hid (RdL (w.alloc (.cells #[.slice A g.length c] 24)) A c g) := hide (hg.below' HA.out)
  have hk1 : (codeG g == 0) = false := by simpa using hbad
  clear hg hbad
  go_enter Try.func13, Try.ntmps13
  go_wp2_with fail
  refine (rcheck_any A c g _ HG.out).mono ?_
  rintro en w2 ⟨rfl, hb⟩
  have HZ := hide (HA.out.trans (hb.mono HA.out.size))
  clear hb HA HG
  go_wp2_with fail
  go_ret
  exact ⟨rfl, HZ.out⟩

set_option maxRecDepth 100000 in
set_option maxHeartbeats 2000000 in
theorem rpreds_any (A : Option Addr) (c : Nat) (g : List (List Int)) (w : World) (hg : RdL w A c g) (hok : codeG g = 0) (hE : edges g ≤ 1000000) :
    Calls Try.prog 13 #[.agg #[.slice A g.length c]] w fun en w' => ∃ D, en = .returned (.slice (some ⟨D, 0, none⟩) g.length g.length) ∧ (∃ R, OwnL w' w.heap.size D R (preds g)) ∧ Below w.heap.size w w' := by
  have HA : Hid (Below w.heap.size w (w.alloc (.cells #[.slice A g.length c] 24))) := hide ((Below.refl _ _).alloc (Nat.le_refl _) _)
  have HG : Hid (RdL (w.alloc (.cells #[.slice A g.length c] 24)) A c g) := hide (hg.below' HA.out)
  have HK := hide hok
  have hN := (code_ok hok).2
  have HE := hide hE
  have hfld := run_field
  have HC := rcheck_any A c g _ HG.out
  rw [hok] at HC
  have HCh := hide HC
  clear hg hok hE HC
  go_enter Try.func13, Try.ntmps13
  go_wp2_with fail
  refine HCh.out.mono ?_
  rintro en w1 ⟨rfl, hb1⟩
  have HA1 := hide (HA.out.trans (hb1.mono HA.out.size))
  have HG1 := hide (HG.out.below' hb1)
  have hx1 : w1.cell? ⟨w.heap.size, 0, none⟩ = some (.slice A g.length c) := (hb1.cell (p := ⟨w.heap.size, 0, none⟩) (by simp)).trans (by simp [go_sem])
  clear hb1 HA HG HCh
  go_wp2_with fail
  refine (rreverse_any A c g _ HG1.out HK.out HE.out).mono ?_
  rintro en w2 ⟨D, rfl, ⟨R0, hL⟩, hb⟩
  have hs : w.heap.size ≤ w1.heap.size := HA1.out.size
  have HL : Hid (OwnL w2 w.heap.size D R0 (predsTo g 0)) := hide (by rw [predsTo_zero]; exact hL.low hs)
  have HB : Hid (Below w.heap.size w w2) := hide (HA1.out.trans (hb.mono HA1.out.size))
  have hR0 : R0.length = g.length := by rw [hL.len, rev_len]
  have HR0 := hide hR0
  clear hb hL hs HA1 HG1 hR0 hx1
  go_wp2_with fail
  go_loopw [17] (fun z wr => ∃ (a : Nat) (R : List Value), a ≤ g.length ∧ z = .int .i64 a ∧ Hid (R.length = g.length) ∧ OwnL wr w.heap.size D R (predsTo g a) ∧ Below w.heap.size w wr) (fun z _ => g.length - (intOf z).toNat)
  case atStart => exact ⟨0, R0, Nat.zero_le _, rfl, HR0, HL.out, HB.out⟩
  case round =>
    clear HL HB HR0
    obtain ⟨wq, rfl⟩ : ∃ x, x = wr := ⟨_, rfl⟩
    obtain ⟨a, R, ha, rfl, hR, hL, hb⟩ := hrel
    by_cases hlt : a < g.length
    · have hlt' : (a : Int) < g.length := by omega
      obtain ⟨v, hv⟩ : ∃ v, R[a]? = some v := ⟨_, List.getElem?_eq_getElem (by rw [hR.out]; exact hlt)⟩
      have hget : (predsTo g a)[a]? = some (revTo g g.length a) := by rw [predsTo_get g a hlt, if_neg (by omega)]
      have hown := hL.row a v _ hv hget
      have hcv : wq.cell? ⟨D, a, none⟩ = some v := hL.own.cellAt hv
      have HO := hide hown
      have HLL := hide (And.intro hL (And.intro hv (And.intro hget hb)))
      obtain ⟨Av, cv, rfl, -, -, -⟩ := hown.rd
      have hRl : (revTo g g.length a).length ≤ 1000000 := by
        have h2 := revTo_edges g a g.length (Nat.le_refl _)
        have h3 := sum_take (g.map List.length) g.length
        have := HE.out
        unfold edges at this
        omega
      obtain ⟨l, hl⟩ : ∃ l, revTo g g.length a = l := ⟨_, rfl⟩
      have HLN := hide hl
      rw [hl] at HO hRl
      have hcv1 := HO.out.rd
      obtain ⟨_, _, e3, hd, hm, -⟩ := hcv1
      injection e3 with e3 e4 e5
      subst e3 e5
      have hd9 : cv ≤ 9223372036854775807 := by unfold maxLen at hm; omega
      rw [hl] at hcv
      have HCV := hide hcv
      clear hL hb hown hv hget hl hm e4
      go_wp2_with fail
      go_loopw [24, 6] (fun z v wr => ∃ k : Nat, k ≤ l.length ∧ z = .int .i64 k ∧ Own wr wq.heap.size 3 .i64 v (ddTo l k) ∧ Frm wq wr []) (fun z _ _ => l.length - (intOf z).toNat)
      case atStart => exact ⟨0, Nat.zero_le _, rfl, Own.nil, Frm.refl _ _⟩
      case round =>
        clear hcv
        obtain ⟨wp, rfl⟩ : ∃ x, x = wr := ⟨_, rfl⟩
        obtain ⟨v, rfl⟩ : ∃ x, x = u6 := ⟨_, rfl⟩
        obtain ⟨k, hk, rfl, ho, hf⟩ := hrel
        by_cases hkt : k < l.length
        · have hkt' : (k : Int) < l.length := by omega
          obtain ⟨x, hx⟩ : ∃ x, l[k]? = some x := ⟨_, List.getElem?_eq_getElem hkt⟩
          obtain ⟨b2, off2, rfl, hbl, cx⟩ := rd_at ((HO.out.frmS hf (fun _ _ => by simp)).rd) hx
          have hkx : l.getD k 0 = x := by rw [List.getD_eq_getElem?_getD, hx]; rfl
          have hsz := hf.size
          have hdl : (ddTo l k).length ≤ k := ddTo_len l k
          have HOK := hide (And.intro ho hf)
          by_cases hk0 : k = 0
          · have hkeep : keepAt l k = true := decide_eq_true (.inl hk0)
            have hd0 : ddTo l k = [] := by rw [hk0]; rfl
            have HS := hide (show ddTo l (k + 1) = [] ++ [x] by rw [ddTo_succ, if_pos hkeep, hkx, hd0])
            rw [hd0] at ho HOK
            obtain ⟨Ao, co, hvo, -, -, -⟩ := ho.rd
            have hvo : v = .slice Ao 0 co := hvo
            subst hvo
            clear ho hf hx hd0 hdl hk0 hkx
            go_wp2_with (first | (refine wpList_append_rd _ rfl _ _ 36 rfl wq.heap.size 3 .i64 8 intE _ [] rfl (HOK.out.1.alloc _) _ [x] rfl (rd_one wp 3 x) ?b1 ?b2 ?b3 ?_))
            case b1 => simp
            case b2 => unfold maxLen; simp
            case b3 => rw [World.size_alloc]; omega
            intro v' w5 ho5 hg5 hb5 hblk
            have HF := hide (And.intro ho5 (HOK.out.2.trans' (((Frm.refl wp _).alloc _).trans (Frm.grown hg5)) (fun g hg => .inr (HOK.out.1.size g (by simpa using hg)).1)))
            clear ho5 hg5 hb5 hblk HOK
            go_wp2_with fail
            go_roundw
            case rel => exact ⟨k + 1, by omega, by go_num, by rw [HS.out]; exact HF.out.1, HF.out.2⟩
            case measure => simp [intOf]; omega
          · obtain ⟨p, hp⟩ := ddTo_last l k hk (by omega)
            obtain ⟨y, hy⟩ : ∃ y, l.getD (k - 1) 0 = y := ⟨_, rfl⟩
            rw [hy] at hp
            have hkq : keepAt l k = decide (x ≠ y) := by
              unfold keepAt
              rw [hkx, hy]
              exact decide_eq_decide.2 ⟨fun h => h.resolve_left hk0, .inr⟩
            obtain ⟨N, hN⟩ : ∃ N, (ddTo l k).length = N := ⟨_, rfl⟩
            have hN1 : N = p.length + 1 := by rw [← hN, hp]; simp
            obtain ⟨Ao, co, hvo, hco, hmo, -⟩ := ho.rd
            rw [hN] at hvo hco
            subst hvo
            have hco9 : co ≤ 9223372036854775807 := by unfold maxLen at hmo; omega
            obtain ⟨bo, oo, rfl, -, cl⟩ := rd_at (k := N - 1) (x := y) ho.rd (by rw [hp, hN1]; simp)
            have hk1' : 0 ≤ (N : Int) - 1 := by omega
            have hk2' : (N : Int) - 1 < N := by omega
            have hw1 : IntKind.i64.wrap ((N : Int) - 1) = (N : Int) - 1 := IntWalk.i64_in _ (by omega)
            have ht1 : ((N : Int) - 1).toNat = N - 1 := by omega
            have hNz : ((N : Int) == 0) = false := by simp; omega
            have hNz2 : (N == 0) = false := by simp; omega
            have hNz3 : ¬ N = 0 := by omega
            have hNl : N ≤ 1000000 := by omega
            have HN := hide hN
            clear ho hf hx hmo hN1 hdl hN
            by_cases hxy : y = x
            · have HS := hide (show ddTo l (k + 1) = ddTo l k by rw [ddTo_succ, if_neg (show ¬ keepAt l k = true by rw [hkq]; simp [hxy]), List.append_nil])
              have hxy1 : (y == x) = true := by simpa using hxy
              clear hxy hp hkq
              go_wp2_with fail
              go_roundw
              case rel => exact ⟨k + 1, by omega, by go_num, by rw [HS.out]; exact HOK.out.1, HOK.out.2⟩
              case measure => simp [intOf]; omega
            · have HS := hide (show ddTo l (k + 1) = ddTo l k ++ [x] by rw [ddTo_succ, if_pos (show keepAt l k = true by rw [hkq]; exact decide_eq_true (fun h => hxy h.symm)), hkx])
              have hxy1 : (y == x) = false := by simpa using hxy
              clear hxy hp hkq
              go_wp2_with (first | (refine wpList_append_rd _ rfl _ _ 36 rfl wq.heap.size 3 .i64 8 intE _ (ddTo l k) rfl (HOK.out.1.alloc _) _ [x] rfl (rd_one wp 3 x) ?b1 ?b2 ?b3 ?_))
              case b1 => simp only [List.length_singleton, HN.out]; omega
              case b2 => unfold maxLen; simp only [List.length_singleton, HN.out]; omega
              case b3 => rw [World.size_alloc]; omega
              intro v' w5 ho5 hg5 hb5 hblk
              have HF := hide (And.intro ho5 (HOK.out.2.trans' (((Frm.refl wp _).alloc _).trans (Frm.grown hg5)) (fun g hg => .inr (HOK.out.1.size g (by simpa using hg)).1)))
              clear ho5 hg5 hb5 hblk HOK
              go_wp2_with fail
              go_roundw
              case rel => exact ⟨k + 1, by omega, by go_num, by rw [HS.out]; exact HF.out.1, HF.out.2⟩
              case measure => simp [intOf]; omega
        · obtain rfl : k = l.length := by omega
          have HP := hide (HLL.out.1.push HLL.out.2.1 HLL.out.2.2.1 (hf.mono (fun _ h => (by cases h))) (ho.low (HLL.out.2.2.2.size)) (.inr fun g' hg' => (ho.size g' hg').1))
          have hDl := HLL.out.1.lt
          have hcvD : wp.cell? ⟨D, a, none⟩ = wq.cell? ⟨D, a, none⟩ := hf.cell (p := ⟨D, a, none⟩) hDl.2 (by simp)
          have hfr5 : wp.frozen? ⟨D, a, none⟩ = false := (HLL.out.1.own.frm hf (fun _ _ => by simp)).freeAt a
          have HB5 : Hid (Below w.heap.size w wp) := hide (HLL.out.2.2.2.trans (hf.toBelow (fun x hx => (by cases hx)) HLL.out.2.2.2.size))
          have hcv5 := hcvD.trans HCV.out
          obtain ⟨Au, cu, rfl, -, -, -⟩ := ho.rd
          clear ho hf hcvD
          go_wp2_with fail
          go_roundw
          case rel => exact ⟨a + 1, R.set a (.slice Au (ddTo l l.length).length cu), by omega, by go_num, hide (by rw [List.length_set]; exact hR.out), by
            have := HP.out
            have h2 := predsTo_step g a hlt
            rw [show dd (revTo g g.length a) = ddTo l l.length by rw [HLN.out]; rfl] at h2
            rw [h2] at this
            exact this, HB5.out.setCell (p := ⟨D, a, none⟩) hDl.1 _⟩
          case measure => simp [intOf]; omega
    · obtain rfl : a = g.length := by omega
      have HZ := hide (And.intro hL hb)
      clear hL hb
      go_wp2_with fail
      go_ret
      have := HZ.out.1
      rw [predsTo_end] at this
      exact ⟨D, rfl, ⟨R, this⟩, HZ.out.2⟩
end Go.Proofs.Ytaehfohljblmoaa

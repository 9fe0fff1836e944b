/-
  WorklistSorted, layer 5 (worklist).
-/
import Derived.Test.YthdjgbkooeabfaaLawsB
namespace Go.Proofs.Ythdjgbkooeabfaa
open Go.RowKit

theorem rank_at {w : World} {A : Option Addr} {c n : Nat} {l : List Int} (h : Rd w .i64 (.slice A n c) l) {x : Nat} (hx : x < l.length) : ∃ b off, A = some ⟨b, off, none⟩ ∧ w.cell? ⟨b, off + x, none⟩ = some (.int .i64 (l.getD x 0)) := by
  obtain ⟨b, off, e, _, hc⟩ := rd_at h (k := x) (x := l.getD x 0) (by rw [List.getD_eq_getElem?_getD, List.getElem?_eq_getElem hx]; rfl)
  exact ⟨b, off, e, hc⟩

set_option maxRecDepth 100000 in
set_option maxHeartbeats 4000000 in
theorem lawSorted (u v : Value) (r l : List Int) (w : World) (hu : Rd w .i64 u r) (hv : Rd w .i64 v l) :
    Calls Try.prog 5 #[u, v] w (LawDone w) := by
  have HU := hide hu
  have HV := hide hv
  obtain ⟨A, c, rfl, hc, hm, -⟩ := hv
  obtain ⟨A', c', rfl, hc', hm', -⟩ := hu
  have hc9 : c ≤ 9223372036854775807 := by unfold maxLen at hm; omega
  have hc9' : c' ≤ 9223372036854775807 := by unfold maxLen at hm'; omega
  clear hm hm'
  by_cases h0 : (r.length : Int) > 200
  · have h0' : (200 : Int) < r.length := h0
    have HW := hide (works_any w)
    go_enter Try.func5, Try.ntmps5
    go_wp2_with fail
    refine HW.out.mono ?_
    rintro en w1 ⟨rfl, hb⟩
    go_wp2_with fail
    go_ret
    exact ⟨rfl, hb⟩
  · have h0' : ¬ ((200 : Int) < r.length) := h0
    by_cases h1 : (l.length : Int) > 200
    · have h1' : (200 : Int) < l.length := h1
      have HW := hide (works_any w)
      go_enter Try.func5, Try.ntmps5
      go_wp2_with fail
      refine HW.out.mono ?_
      rintro en w1 ⟨rfl, hb⟩
      go_wp2_with fail
      go_ret
      exact ⟨rfl, hb⟩
    · have h1' : ¬ ((200 : Int) < l.length) := h1
      have hrl : r.length ≤ 65536 := by omega
      go_enter Try.func5, Try.ntmps5
      go_wp2_with fail
      refine (byrank_any w _ r HU.out hrl).mono ?_
      rintro en w1 ⟨rfl, hq1, hf1⟩
      have hb1 : Below w.heap.size w w1 := hf1.toBelow (by simp) (Nat.le_refl _)
      have H1 := hide (And.intro hq1 hb1)
      clear hq1 hf1 hb1
      go_wp2_with fail
      go_loopw [30, 6] (fun z nv wr => ∃ (k : Nat) (q : List Nat), k ≤ l.length ∧ z = .int .i64 k ∧ nv = .int .i64 (q.length : Nat) ∧ q.length ≤ k ∧ QHeap wr w.heap.size r.length r q ∧ Below w.heap.size w wr) (fun z _ _ => l.length - (intOf z).toNat)
      case atStart => exact ⟨0, [], Nat.zero_le _, rfl, rfl, Nat.le_refl _, H1.out.1, H1.out.2⟩
      case round =>
        clear H1
        obtain ⟨wq, rfl⟩ : ∃ x, x = wr := ⟨_, rfl⟩
        obtain ⟨k, q, hk, rfl, rfl, hqk, hq, hb⟩ := hrel
        have HQ := hide (And.intro hq hb)
        clear hq hb
        by_cases hlt : k < l.length
        · obtain ⟨x, hx⟩ : ∃ x, l[k]? = some x := ⟨_, List.getElem?_eq_getElem hlt⟩
          obtain ⟨b, off, rfl, hbl, cx⟩ := rd_at (HV.out.below' HQ.out.2) hx
          have hlt' : (k : Int) < l.length := by omega
          clear hx
          by_cases hin : 0 ≤ x ∧ x < r.length ∧ x.toNat ∉ q
          · obtain ⟨y, rfl⟩ : ∃ y : Nat, x = y := ⟨x.toNat, by omega⟩
            have hyq : y ∉ q := by simpa using hin.2.2
            have HP := hide ((heapShop r).push y HQ.out.1 (show y < r.length by omega) hyq)
            clear hin hyq
            go_wp2_with fail
            refine HP.out.mono ?_
            rintro en w2 ⟨rfl, hq2, hf2⟩
            have hq2 : QHeap w2 w.heap.size r.length r (q ++ [y]) := hq2
            have hb2 := HQ.out.2.trans (hf2.toBelow (fun g hg => (mem_blocks.1 hg).1) HQ.out.2.size)
            have H2 := hide (And.intro hq2 hb2)
            clear hq2 hb2 hf2 HP HQ
            go_wp2_with fail
            go_roundw
            case rel => exact ⟨k + 1, q ++ [y], by omega, by go_num, by rw [List.length_append, List.length_singleton]; go_num, by simp; omega, H2.out.1, H2.out.2⟩
            case measure => simp [intOf]; omega
          · have HP := hide ((heapShop r).pushNo x HQ.out.1 hin)
            clear hin
            go_wp2_with (first | (go_at_call 14; refine HP.out.mono ?_; rintro en w' ⟨rfl, rfl⟩))
            go_roundw
            case rel => exact ⟨k + 1, q, by omega, by go_num, rfl, by omega, HQ.out.1, HQ.out.2⟩
            case measure => simp [intOf]; omega
        · obtain rfl : k = l.length := by omega
          go_wp2_with fail
          have HS := HQ
          clear HQ
          go_loopw [10, 9] (fun z lv wr => ∃ (k : Nat) (p : List Nat) (last : Int), z = .int .i64 k ∧ lv = .int .i64 last ∧ p.length + k = q.length ∧ QHeap wr w.heap.size r.length r p ∧ (last = -1 ∨ ∃ y : Nat, last = y ∧ y < r.length ∧ ∀ x ∈ p, Bef r y x) ∧ Below w.heap.size w wr) (fun z _ _ => q.length - (intOf z).toNat)
          case atStart => exact ⟨0, q, -1, rfl, rfl, rfl, HS.out.1, .inl rfl, HS.out.2⟩
          case round =>
            clear HS
            obtain ⟨wv, rfl⟩ : ∃ x, x = wr := ⟨_, rfl⟩
            obtain ⟨m, p, last, rfl, rfl, hpm, hq, hlast, hb⟩ := hrel
            have H2 := hide (And.intro hq hb)
            have HLA := hide hlast
            clear hq hb hlast
            by_cases hlm : m < q.length
            · have hlm' : (m : Int) < q.length := by omega
              have hp0 : p ≠ [] := by rintro rfl; simp at hpm; omega
              obtain ⟨k0, x, hk0, hpick, hpop⟩ := (heapShop r).pop H2.out.1 hp0
              have hpick : Least r p x := hpick
              have hxr : x < r.length := H2.out.1.1.lt x (List.mem_of_getElem? hk0)
              have hon := nodup_erase H2.out.1.1.once hk0
              have hlen : (p.eraseIdx k0).length + (m + 1) = q.length := by
                have h1 := (List.getElem?_eq_some_iff.1 hk0).1
                rw [List.length_eraseIdx, if_pos h1]
                omega
              have hnext : Hid (∀ z ∈ p.eraseIdx k0, Bef r x z) := hide fun z hz => by
                have h1 := (hon.2 z).1 hz
                refine Decidable.byContradiction fun h2 => h1.2 (Bef.total (hpick z h1.1) h2)
              have hbef : Hid (∀ y : Nat, (∀ z ∈ p, Bef r y z) → Bef r y x) := hide fun y hy => hy x (List.mem_of_getElem? hk0)
              have HP := hide hpop
              clear hpop hk0 hpick hon
              go_wp2_with fail
              refine HP.out.mono ?_
              rintro en w2 ⟨rfl, hq2, hf2⟩
              have hq2 : QHeap w2 w.heap.size r.length r (p.eraseIdx k0) := hq2
              have hb2 := H2.out.2.trans (hf2.toBelow (fun g hg => (mem_blocks.1 hg).1) H2.out.2.size)
              obtain ⟨b, off, rfl, cx⟩ := rank_at (HU.out.below' hb2) hxr
              have H3 := hide (And.intro hq2 hb2)
              have HU2 := hide (HU.out.below' hb2)
              clear hq2 hb2 hf2 H2 HP
              have tx1 : (x : Int) < r.length := by omega
              have tx0 : decide ((x : Int) < 0) = false := by rw [decide_eq_false_iff_not]; omega
              have tx2 : decide ((r.length : Int) ≤ (x : Int)) = false := by rw [decide_eq_false_iff_not]; omega
              have tx3 : decide (r.length ≤ x) = false := by rw [decide_eq_false_iff_not]; omega
              obtain ⟨a1, ha1⟩ : ∃ a, a = r.getD x 0 := ⟨_, rfl⟩
              rw [← ha1] at cx
              rcases HLA.out with rfl | ⟨y, rfl, hyr, hyp⟩
              · clear ha1
                go_wp2_with fail
                go_quiet (fail)
                go_wp2_with fail
                go_roundw
                case rel => exact ⟨m + 1, _, _, by go_num, rfl, hlen, H3.out.1.frm (S := []) ((Frm.refl _ _).drewN _) (by simp), .inr ⟨x, rfl, hxr, hnext.out⟩, Below.drewN' H3.out.2 _⟩
                case measure => simp [intOf]; omega
              · have hyx := hbef.out y hyp
                obtain ⟨b', off', e, cy⟩ := rank_at HU2.out hyr
                injection e with e
                injection e with e1 e2
                subst e1 e2
                obtain ⟨a2, ha2⟩ : ∃ a, a = r.getD y 0 := ⟨_, rfl⟩
                rw [← ha2] at cy
                have hd : a2 < a1 ∨ (a2 = a1 ∧ y < x) := by rw [ha1, ha2]; exact hyx
                have ty1 : (y : Int) < r.length := by omega
                have ty0 : (y : Int) ≥ 0 := by omega
                have ty2 : (0 : Int) ≤ y := by omega
                have t1 : decide (a1 < a2) = false := by rw [decide_eq_false_iff_not]; omega
                clear ha1 ha2 hyx hyp
                by_cases he : a1 = a2
                · have t2 : (a1 == a2) = true := by simpa using he
                  have t3 : decide (x ≤ y) = false := by rw [decide_eq_false_iff_not]; omega
                  have t4 : ¬ ((x : Int) ≤ (y : Int)) := by omega
                  clear he hd
                  go_wp2_with fail
                  go_quiet (fail)
                  go_wp2_with fail
                  go_roundw
                  case rel => exact ⟨m + 1, _, _, by go_num, rfl, hlen, H3.out.1.frm (S := []) ((Frm.refl _ _).drewN _) (by simp), .inr ⟨x, rfl, hxr, hnext.out⟩, Below.drewN' H3.out.2 _⟩
                  case measure => simp [intOf]; omega
                · have t2 : (a1 == a2) = false := by simpa using he
                  clear he hd
                  go_wp2_with fail
                  go_quiet (fail)
                  go_wp2_with fail
                  go_roundw
                  case rel => exact ⟨m + 1, _, _, by go_num, rfl, hlen, H3.out.1.frm (S := []) ((Frm.refl _ _).drewN _) (by simp), .inr ⟨x, rfl, hxr, hnext.out⟩, Below.drewN' H3.out.2 _⟩
                  case measure => simp [intOf]; omega
            · obtain rfl : p = [] := List.eq_nil_of_length_eq_zero (by omega)
              have hlm' : ¬ ((m : Int) < q.length) := by omega
              go_wp2_with (first | (go_at_call 15; refine ((heapShop r).popNo H2.out.1).mono ?_; rintro en w' ⟨rfl, rfl⟩) | (go_at_call 16; refine ((heapShop r).len H2.out.1).mono ?_; rintro en w' ⟨rfl, rfl⟩))
              refine (works_any _).mono ?_
              rintro en w4 ⟨rfl, hb4⟩
              have HB4 := hide (H2.out.2.trans (hb4.mono H2.out.2.size))
              clear hb4 H2
              go_wp2_with fail
              go_ret
              exact ⟨by simp, HB4.out⟩
end Go.Proofs.Ythdjgbkooeabfaa

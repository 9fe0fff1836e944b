/-
  Layer 6 (digraph), the reference: Check, ok.
-/
import Derived.Test.YtlgnmlhgghabkaaSmall
import Derived.Test.YtlgnmlhgghabkaaPreds
namespace Go.Proofs.Ytlgnmlhgghabkaa
open Go.RowKit

set_option maxRecDepth 100000 in
set_option maxHeartbeats 1000000 in
theorem rcheck_any (A : Option Addr) (c : Nat) (g : List (List Int)) (w : World) (hg : RdL w A c g) :
    Calls Try.prog 27 #[.agg #[.slice A g.length c]] w fun en w' => en = .returned (.int .i64 (codeG g)) ∧ Below w.heap.size w w' := by
  have hc := hg.cap
  have HG := hide hg
  have hc9 : c ≤ 9223372036854775807 := by unfold maxLen at hc; omega
  have HA : Hid (Below w.heap.size w (w.alloc (.cells #[.slice A g.length c] 24))) := hide ((Below.refl _ _).alloc (Nat.le_refl _) _)
  have hx : (w.alloc (.cells #[.slice A g.length c] 24)).cell? ⟨w.heap.size, 0, none⟩ = some (.slice A g.length c) := by simp [go_sem]
  by_cases h1 : (g.length : Int) > 65536
  · have e : codeG g = 11 := by unfold codeG; rw [if_pos (by omega)]
    rw [e]
    have h1' : 65536 < g.length := by omega
    clear hg e
    go_enter Try.func27, Try.ntmps27
    go_wp2_with fail
    go_ret
    exact ⟨rfl, HA.out⟩
  · have h1' : ¬ (65536 < g.length) := by omega
    clear hg
    go_enter Try.func27, Try.ntmps27
    go_wp2_with fail
    go_loopw [14] (fun z wr => ∃ i : Nat, i ≤ g.length ∧ z = .int .i64 i ∧ Hid (∀ j l, j < i → g[j]? = some l → okRow g.length l = true) ∧ Below w.heap.size w wr ∧ wr.cell? ⟨w.heap.size, 0, none⟩ = some (.slice A g.length c)) (fun z _ => g.length - (intOf z).toNat)
    case atStart => exact ⟨0, Nat.zero_le _, rfl, hide (fun j l hj => by omega), HA.out, hx⟩
    case round =>
      clear hx HA
      obtain ⟨wq, rfl⟩ : ∃ x, x = wr := ⟨_, rfl⟩
      obtain ⟨i, hi, rfl, hok, hb, hx⟩ := hrel
      by_cases hlt : i < g.length
      · obtain ⟨l, hl⟩ : ∃ l, g[i]? = some l := ⟨_, List.getElem?_eq_getElem hlt⟩
        have hlt' : (i : Int) < g.length := by omega
        obtain ⟨b, off, B, d, rfl, hbl, hcell, hrow⟩ := (HG.out.below' hb).at hl
        have HR := hide hrow
        obtain ⟨_, _, e3, hd, hm, hcl⟩ := hrow
        injection e3 with e3 e4 e5
        subst e3 e5
        have hd9 : d ≤ 9223372036854775807 := by unfold maxLen at hm; omega
        have HB := hide hb
        have HL := hide hl
        clear hb hl hcl hm
        go_wp2_with fail
        go_loopw [20] (fun z wr => ∃ j : Nat, j ≤ l.length ∧ z = .int .i64 j ∧ Hid (∀ k m, k < j → l[k]? = some m → 0 ≤ m ∧ m < g.length) ∧ Below w.heap.size w wr ∧ Below wq.heap.size wq wr ∧ wr.cell? ⟨w.heap.size, 0, none⟩ = some (.slice (some ⟨b, off, none⟩) g.length c)) (fun z _ => l.length - (intOf z).toNat)
        case atStart => exact ⟨0, Nat.zero_le _, rfl, hide (fun j l hj => by omega), HB.out, Below.refl _ _, hx⟩
        case round =>
          clear hx hcell HB
          obtain ⟨wp, rfl⟩ : ∃ x, x = wr := ⟨_, rfl⟩
          obtain ⟨j, hj, rfl, hok2, hb, hb2, hx⟩ := hrel
          by_cases hlt2 : j < l.length
          · obtain ⟨m, hm⟩ : ∃ m, l[j]? = some m := ⟨_, List.getElem?_eq_getElem hlt2⟩
            have hlt2' : (j : Int) < l.length := by omega
            obtain ⟨_, _, e6, _, _, hcl⟩ := HR.out.below' hb2
            injection e6 with e6 e7 e8
            subst e6 e8
            obtain ⟨b2, off2, rfl, hbl2, hcl⟩ := hcl (by omega)
            have hcell2 := hcl j m hm
            have HB := hide (And.intro hb hb2)
            have HM := hide hm
            clear hb hb2 hcl hm
            by_cases hm : 0 ≤ m ∧ m < g.length
            · have hm1 : ¬ (m < 0) := by omega
              have hm2 : ¬ (m ≥ (g.length : Int)) := by omega
              have hm3 : decide (m < 0) = false := decide_eq_false hm1
              have HMM := hide hm
              clear hm
              go_wp2_with fail
              go_roundw
              case rel =>
                exact ⟨j + 1, by omega, by go_num, hide (fun k m' hk hm' => by
                rcases Nat.lt_succ_iff_lt_or_eq.1 hk with h | rfl
                · exact hok2.out k m' h hm'
                · rw [HM.out] at hm'; injection hm' with e; exact e ▸ HMM.out), HB.out.1, HB.out.2, hx⟩
              case measure => simp [intOf]; omega
            · have HMM := hide hm
              have e : codeG g = 10 := by
                have : okG g = false := by
                  unfold okG
                  rw [List.all_eq_false]
                  refine ⟨l, List.mem_of_getElem? HL.out, fun h => HMM.out ?_⟩
                  unfold okRow at h
                  rw [List.all_eq_true] at h
                  exact of_decide_eq_true (h m (List.mem_of_getElem? HM.out))
                unfold codeG
                rw [if_neg h1', this]
                rfl
              have HE := hide e
              clear e
              by_cases hm1 : m < 0
              · clear hm
                go_wp2_with fail
                go_ret
                exact ⟨by rw [HE.out]; rfl, HB.out.1⟩
              · have hm2 : m ≥ (g.length : Int) := by omega
                clear hm
                go_wp2_with fail
                go_ret
                exact ⟨by rw [HE.out]; rfl, HB.out.1⟩
          · obtain rfl : j = l.length := by omega
            go_wp2_with fail
            go_roundw
            case rel =>
              exact ⟨i + 1, by omega, by go_num, hide (fun k l' hk hl' => by
              rcases Nat.lt_succ_iff_lt_or_eq.1 hk with h | rfl
              · exact hok.out k l' h hl'
              · rw [HL.out] at hl'
                injection hl' with e
                subst e
                unfold okRow
                rw [List.all_eq_true]
                intro m hm
                obtain ⟨k, hk, hmk⟩ := List.getElem_of_mem hm
                have := hok2.out k m (by omega) (by rw [List.getElem?_eq_getElem hk, hmk])
                exact decide_eq_true this), hb, hx⟩
            case measure => simp [intOf]; omega
      · obtain rfl : i = g.length := by omega
        go_wp2_with fail
        go_ret
        have e : codeG g = 0 := by
          have : okG g = true := by
            unfold okG
            rw [List.all_eq_true]
            intro l hl
            obtain ⟨k, hk, hlk⟩ := List.getElem_of_mem hl
            exact hok.out k l (by omega) (by rw [List.getElem?_eq_getElem hk, hlk])
          unfold codeG
          rw [if_neg h1', if_pos this]
        rw [e]
        exact ⟨rfl, hb⟩

theorem rok_any (A : Option Addr) (c : Nat) (g : List (List Int)) (n : Int) (w : World) (hg : RdL w A c g) :
    Calls Try.prog 46 #[.agg #[.slice A g.length c], .int .i64 n] w fun en w' => en = .returned (.bool (decide (codeG g = 0 ∧ 0 ≤ n ∧ n < g.length))) ∧ Below w.heap.size w w' := by
  have HA : Hid (Below w.heap.size w (w.alloc (.cells #[.slice A g.length c] 24))) := hide ((Below.refl _ _).alloc (Nat.le_refl _) _)
  have HG : Hid (RdL (w.alloc (.cells #[.slice A g.length c] 24)) A c g) := hide (hg.below' HA.out)
  have hx : (w.alloc (.cells #[.slice A g.length c] 24)).cell? ⟨w.heap.size, 0, none⟩ = some (.slice A g.length c) := by simp [go_sem]
  clear hg
  by_cases hk : codeG g = 0
  · have HC := rcheck_any A c g _ HG.out
    rw [hk] at HC
    have HCh := hide HC
    clear HC
    by_cases h0 : 0 ≤ n
    · have e : decide (codeG g = 0 ∧ 0 ≤ n ∧ n < g.length) = decide (n < g.length) := by simp [hk, h0]
      rw [e]
      have h0' : n ≥ 0 := h0
      clear e hk
      go_enter Try.func46, Try.ntmps46
      go_wp2_with fail
      refine HCh.out.mono ?_
      rintro en w2 ⟨rfl, hb⟩
      have hx2 : w2.cell? ⟨w.heap.size, 0, none⟩ = some (.slice A g.length c) := (hb.cell (p := ⟨w.heap.size, 0, none⟩) (lt_of_cell hx)).trans hx
      have HZ := hide (HA.out.trans (hb.mono HA.out.size))
      clear hb hx
      go_wp2_with fail
      go_ret
      exact ⟨by simp, HZ.out⟩
    · have e : decide (codeG g = 0 ∧ 0 ≤ n ∧ n < g.length) = false := decide_eq_false (fun h => h0 h.2.1)
      rw [e]
      have h0' : ¬ (n ≥ 0) := h0
      clear e hk
      go_enter Try.func46, Try.ntmps46
      go_wp2_with fail
      refine HCh.out.mono ?_
      rintro en w2 ⟨rfl, hb⟩
      have HZ := hide (HA.out.trans (hb.mono HA.out.size))
      clear hb hx
      go_wp2_with fail
      go_ret
      exact ⟨by simp, HZ.out⟩
  · have HCh := hide (rcheck_any A c g _ HG.out)
    have e : decide (codeG g = 0 ∧ 0 ≤ n ∧ n < g.length) = false := decide_eq_false (fun h => hk h.1)
    rw [e]
    have hk1 : (codeG g == 0) = false := by simpa using hk
    clear e hk
    go_enter Try.func46, Try.ntmps46
    go_wp2_with fail
    refine HCh.out.mono ?_
    rintro en w2 ⟨rfl, hb⟩
    have HZ := hide (HA.out.trans (hb.mono HA.out.size))
    clear hb hx
    go_wp2_with fail
    go_ret
    exact ⟨by simp, HZ.out⟩
end Go.Proofs.Ytlgnmlhgghabkaa

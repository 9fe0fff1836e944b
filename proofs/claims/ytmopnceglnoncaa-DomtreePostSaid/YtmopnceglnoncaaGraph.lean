/-
  Layer 6 (digraph): how a graph reads; isNode and Check.
-/
import Derived.Test.YtmopnceglnoncaaRows
import Derived.Test.YtmopnceglnoncaaKit
import Derived.Test.YtmopnceglnoncaaOpenN
import Derived.Deep.QuietTactic
import Derived.BigQuiet
import Derived.Deep.RegionLaw
import Derived.StillTailTactics
import Derived.Deep.CutRange
namespace Go.Proofs.Ytmopnceglnoncaa
open Go.RowKit

/-- The rows of a slice of slices. -/
def RdL (w : World) (A : Option Addr) (c : Nat) (g : List (List Int)) : Prop :=
  ∃ rows : List Value, rows.length = g.length ∧ RdV w (.slice A g.length c) rows ∧ ∀ (i : Nat) (l : List Int), g[i]? = some l → ∃ (B : Option Addr) (d : Nat), rows[i]? = some (Value.slice B l.length d) ∧ Rd w .i64 (.slice B l.length d) l
theorem RdL.below' {w w' : World} {A : Option Addr} {c : Nat} {g : List (List Int)} (h : RdL w A c g) (hb : Below w.heap.size w w') : RdL w' A c g := by
  obtain ⟨rows, h1, h2, h3⟩ := h
  exact ⟨rows, h1, h2.below' hb, fun i l hi => by
    obtain ⟨B, d, h4, h5⟩ := h3 i l hi
    exact ⟨B, d, h4, h5.below' hb⟩⟩
theorem RdL.at {w : World} {A : Option Addr} {c : Nat} {g : List (List Int)} (h : RdL w A c g) {i : Nat} {l : List Int} (hi : g[i]? = some l) :
    ∃ b off B d, A = some ⟨b, off, none⟩ ∧ b < w.heap.size ∧ w.cell? ⟨b, off + i, none⟩ = some (Value.slice B l.length d) ∧ Rd w .i64 (.slice B l.length d) l := by
  obtain ⟨rows, h1, h2, h3⟩ := h
  obtain ⟨B, d, h4, h5⟩ := h3 i l hi
  obtain ⟨b, off, h6, h7, h8⟩ := h2.at i _ h4
  exact ⟨b, off, B, d, h6, h7, h8, h5⟩
theorem RdL.cap {w : World} {A : Option Addr} {c : Nat} {g : List (List Int)} (h : RdL w A c g) : g.length ≤ c ∧ c ≤ maxLen := by
  obtain ⟨rows, h1, ⟨A', c', h2, h3, h4, _⟩, _⟩ := h
  injection h2 with e1 e2 e3
  subst e3
  omega

theorem isNode_any (A : Option Addr) (n c : Nat) (i : Int) (w : World) :
    Calls Try.prog 47 #[.agg #[.slice A n c], .int .i64 i] w fun en w' => en = .returned (.bool (decide (0 ≤ i ∧ i < n))) ∧ Below w.heap.size w w' := by
  by_cases h0 : 0 ≤ i
  · have e : decide (0 ≤ i ∧ i < (n : Int)) = decide (i < (n : Int)) := by simp [h0]
    rw [e]
    clear e
    have h0' : i ≥ 0 := h0
    go_enter Try.func47, Try.ntmps47
    go_wp2_with fail
    go_ret
    exact ⟨by simp, (Below.refl _ _).alloc (Nat.le_refl _) _⟩
  · have e : decide (0 ≤ i ∧ i < (n : Int)) = false := by simp [h0]
    rw [e]
    clear e
    have h0' : ¬ (i ≥ 0) := h0
    go_enter Try.func47, Try.ntmps47
    go_wp2_with fail
    go_ret
    exact ⟨by simp, (Below.refl _ _).alloc (Nat.le_refl _) _⟩

/-- All successors of a list are nodes. -/
def okRow (n : Nat) (l : List Int) : Bool := l.all fun m => decide (0 ≤ m ∧ m < n)
def okG (g : List (List Int)) : Bool := g.all (okRow g.length)
def codeG (g : List (List Int)) : Int := if 65536 < g.length then 11 else if okG g = true then 0 else 10

set_option maxRecDepth 100000 in
set_option maxHeartbeats 1000000 in
theorem check_any (A : Option Addr) (c : Nat) (g : List (List Int)) (w : World) (hg : RdL w A c g) :
    Calls Try.prog 31 #[.agg #[.slice A g.length c]] w fun en w' => en = .returned (.int .i64 (codeG g)) ∧ Below w.heap.size w w' := by
  have hc := hg.cap
  have HG := hide hg
  have hc9 : c ≤ 9223372036854775807 := by unfold maxLen at hc; omega
  have HA : Hid (Below w.heap.size w (w.alloc (.cells #[.slice A g.length c] 24))) := hide ((Below.refl _ _).alloc (Nat.le_refl _) _)
  have hx : (w.alloc (.cells #[.slice A g.length c] 24)).cell? ⟨w.heap.size, 0, none⟩ = some (.slice A g.length c) := by simp [go_sem]
  by_cases h1 : (g.length : Int) > 65536
  · have e : codeG g = 11 := by unfold codeG; rw [if_pos (by omega)]
    rw [e]
    have h1' : 65536 < g.length := by omega
    clear hg e
    go_enter Try.func31, Try.ntmps31
    go_wp2_with fail
    go_ret
    exact ⟨rfl, HA.out⟩
  · have h1' : ¬ (65536 < g.length) := by omega
    clear hg
    go_enter Try.func31, Try.ntmps31
    go_wp2_with fail
    go_loopw [14] (fun z wr => ∃ i : Nat, i ≤ g.length ∧ z = .int .i64 i ∧ Hid (∀ j l, j < i → g[j]? = some l → okRow g.length l = true) ∧ Below w.heap.size w wr ∧ wr.cell? ⟨w.heap.size, 0, none⟩ = some (.slice A g.length c)) (fun z _ => g.length - (intOf z).toNat)
    case atStart => exact ⟨0, Nat.zero_le _, rfl, hide (fun j l hj => by omega), HA.out, hx⟩
    case round =>
      clear hx HA
      obtain ⟨wq, rfl⟩ : ∃ x, x = wr := ⟨_, rfl⟩
      obtain ⟨i, hi, rfl, hok, hb, hx⟩ := hrel
      by_cases hlt : i < g.length
      · obtain ⟨l, hl⟩ : ∃ l, g[i]? = some l := ⟨_, List.getElem?_eq_getElem hlt⟩
        have hlt' : (i : Int) < g.length := by omega
        obtain ⟨b, off, B, d, rfl, hbl, hcell, hrow⟩ := (HG.out.below' hb).at hl
        have HR := hide hrow
        obtain ⟨_, _, e3, hd, hm, hcl⟩ := hrow
        injection e3 with e3 e4 e5
        subst e3 e5
        have hd9 : d ≤ 9223372036854775807 := by unfold maxLen at hm; omega
        have HB := hide hb
        have HL := hide hl
        clear hb hl hcl hm
        go_wp2_with fail
        go_loopw [20] (fun z wr => ∃ j : Nat, j ≤ l.length ∧ z = .int .i64 j ∧ Hid (∀ k m, k < j → l[k]? = some m → 0 ≤ m ∧ m < g.length) ∧ Below w.heap.size w wr ∧ Below wq.heap.size wq wr ∧ wr.cell? ⟨w.heap.size, 0, none⟩ = some (.slice (some ⟨b, off, none⟩) g.length c)) (fun z _ => l.length - (intOf z).toNat)
        case atStart => exact ⟨0, Nat.zero_le _, rfl, hide (fun j l hj => by omega), HB.out, Below.refl _ _, hx⟩
        case round =>
          clear hx hcell HB
          obtain ⟨wp, rfl⟩ : ∃ x, x = wr := ⟨_, rfl⟩
          obtain ⟨j, hj, rfl, hok2, hb, hb2, hx⟩ := hrel
          by_cases hlt2 : j < l.length
          · obtain ⟨m, hm⟩ : ∃ m, l[j]? = some m := ⟨_, List.getElem?_eq_getElem hlt2⟩
            have hlt2' : (j : Int) < l.length := by omega
            obtain ⟨_, _, e6, _, _, hcl⟩ := HR.out.below' hb2
            injection e6 with e6 e7 e8
            subst e6 e8
            obtain ⟨b2, off2, rfl, hbl2, hcl⟩ := hcl (by omega)
            have hcell2 := hcl j m hm
            have HB := hide (And.intro hb hb2)
            have HM := hide hm
            clear hb hb2 hcl hm
            go_wp2_with fail
            refine (isNode_any _ _ _ _ _).mono ?_
            rintro en w2 ⟨rfl, hb3⟩
            have hx3 : w2.cell? ⟨w.heap.size, 0, none⟩ = some (.slice (some ⟨b, off, none⟩) g.length c) := (hb3.cell (p := ⟨w.heap.size, 0, none⟩) (lt_of_cell hx)).trans hx
            have HC := hide (And.intro (HB.out.1.trans (hb3.mono HB.out.1.size)) (HB.out.2.trans (hb3.mono HB.out.2.size)))
            clear hb3 HB hx hcell2
            by_cases hm : 0 ≤ m ∧ m < g.length
            · rw [decide_eq_true hm]
              go_wp2_with fail
              go_roundw
              case rel =>
                exact ⟨j + 1, by omega, by go_num, hide (fun k m' hk hm' => by
                rcases Nat.lt_succ_iff_lt_or_eq.1 hk with h | rfl
                · exact hok2.out k m' h hm'
                · rw [HM.out] at hm'; injection hm' with e; exact e ▸ hm), HC.out.1, HC.out.2, hx3⟩
              case measure => simp [intOf]; omega
            · rw [decide_eq_false hm]
              go_wp2_with fail
              go_ret
              have e : codeG g = 10 := by
                have : okG g = false := by
                  unfold okG
                  rw [List.all_eq_false]
                  refine ⟨l, List.mem_of_getElem? HL.out, fun h => hm ?_⟩
                  unfold okRow at h
                  rw [List.all_eq_true] at h
                  exact of_decide_eq_true (h m (List.mem_of_getElem? HM.out))
                unfold codeG
                rw [if_neg h1', this]
                rfl
              rw [e]
              exact ⟨rfl, HC.out.1⟩
          · obtain rfl : j = l.length := by omega
            go_wp2_with fail
            go_roundw
            case rel =>
              exact ⟨i + 1, by omega, by go_num, hide (fun k l' hk hl' => by
              rcases Nat.lt_succ_iff_lt_or_eq.1 hk with h | rfl
              · exact hok.out k l' h hl'
              · rw [HL.out] at hl'
                injection hl' with e
                subst e
                unfold okRow
                rw [List.all_eq_true]
                intro m hm
                obtain ⟨k, hk, hmk⟩ := List.getElem_of_mem hm
                have := hok2.out k m (by omega) (by rw [List.getElem?_eq_getElem hk, hmk])
                exact decide_eq_true this), hb, hx⟩
            case measure => simp [intOf]; omega
      · obtain rfl : i = g.length := by omega
        go_wp2_with fail
        go_ret
        have e : codeG g = 0 := by
          have : okG g = true := by
            unfold okG
            rw [List.all_eq_true]
            intro l hl
            obtain ⟨k, hk, hlk⟩ := List.getElem_of_mem hl
            exact hok.out k l (by omega) (by rw [List.getElem?_eq_getElem hk, hlk])
          unfold codeG
          rw [if_neg h1', if_pos this]
        rw [e]
        exact ⟨rfl, hb⟩
end Go.Proofs.Ytmopnceglnoncaa

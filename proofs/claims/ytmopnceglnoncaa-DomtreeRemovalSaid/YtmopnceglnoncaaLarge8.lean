/-
  Layer 8 (domtree): which graphs the laws look at.
-/
import Derived.Test.YtmopnceglnoncaaBuild
import Derived.Test.YtmopnceglnoncaaSmall
namespace Go.Proofs.Ytmopnceglnoncaa
open Go.RowKit

/-- Is the graph too large for the laws? -/
def bigC (g : List (List Int)) : Bool := (g.any fun l => decide (200 < l.length)) || decide (60 < g.length) || decide (400 < edges g)
theorem bigC_row {g : List (List Int)} {l : List Int} (h : l ∈ g) (hl : 200 < l.length) : bigC g = true := by
  unfold bigC
  rw [List.any_eq_true.2 ⟨l, h, by simpa using hl⟩]; rfl
theorem bigC_len {g : List (List Int)} (h : 60 < g.length) : bigC g = true := by unfold bigC; simp [h]
theorem bigC_sum {g : List (List Int)} (h : 400 < edges g) : bigC g = true := by unfold bigC; simp [h]
theorem bigC_no {g : List (List Int)} (h1 : ∀ l ∈ g, l.length ≤ 200) (h2 : g.length ≤ 60) : bigC g = decide (400 < edges g) := by
  unfold bigC
  have e1 : (g.any fun l => decide (200 < l.length)) = false := by
    rw [List.any_eq_false]
    intro l hl
    have := h1 l hl
    simp; omega
  rw [e1, decide_eq_false (p := 60 < g.length) (by omega)]; rfl
theorem bigC_small {g : List (List Int)} (h : bigC g = false) : g.length ≤ 60 ∧ edges g ≤ 400 :=
  ⟨Nat.le_of_not_lt fun c => (by rw [bigC_len c] at h; cases h), Nat.le_of_not_lt fun c => (by rw [bigC_sum c] at h; cases h)⟩

set_option maxRecDepth 100000 in
set_option maxHeartbeats 2000000 in
theorem large_any (A : Option Addr) (c : Nat) (g : List (List Int)) (w : World) (hg : RdL w A c g) :
    Calls Try.prog 9 #[.agg #[.slice A g.length c]] w fun en w' => en = .returned (.bool (bigC g)) ∧ Below w.heap.size w w' := by
  have hc := hg.cap
  have hc9 : c ≤ 9223372036854775807 := by unfold maxLen at hc; omega
  obtain ⟨w1, hw1⟩ : ∃ x, w.alloc (.cells #[.slice A g.length c] 24) = x := ⟨_, rfl⟩
  have hx1 : w1.cell? ⟨w.heap.size, 0, none⟩ = some (.slice A g.length c) := by rw [← hw1]; simp [go_sem]
  have hB1 : Below w.heap.size w w1 := by rw [← hw1]; exact (Below.refl _ _).alloc (Nat.le_refl _) _
  have HB1 := hide hB1
  have HG1 := hide (hg.below' hB1)
  by_cases h60 : 60 < g.length
  · have t1 : decide ((g.length : Int) > 60) = true := decide_eq_true (by omega)
    have t1' : decide ((60 : Int) < (g.length : Int)) = true := decide_eq_true (by omega)
    have HBC := hide (bigC_len h60)
    have t2 : (60 : Int) < (g.length : Int) := by omega
    clear hg hB1 hc HG1
    go_enter Try.func9, Try.ntmps9
    go_wp2_with fail
    go_ret
    exact ⟨by rw [HBC.out]; rfl, HB1.out⟩
  have h60' : g.length ≤ 60 := by omega
  have t1 : decide ((g.length : Int) > 60) = false := decide_eq_false (by omega)
  have t1' : decide ((60 : Int) < (g.length : Int)) = false := decide_eq_false (by omega)
  have t2 : ¬ (60 : Int) < (g.length : Int) := by omega
  clear hg hB1 hc h60
  go_enter Try.func9, Try.ntmps9
  go_wp2_with fail
  clear hw1
  go_loopw [3, 13] (fun n z wr => ∃ (a s : Nat), a ≤ g.length ∧ z = .int .i64 (a : Nat) ∧ n = .int .i64 (s : Nat) ∧ Hid (s = edgesTo g a ∧ s ≤ 200 * a) ∧ Hid (∀ l ∈ g.take a, l.length ≤ 200) ∧ Hid (Below w1.heap.size w1 wr)) (fun _ z _ => g.length - (intOf z).toNat)
  case atStart => exact ⟨0, 0, Nat.zero_le _, rfl, rfl, hide ⟨by simp [edgesTo], Nat.le_refl _⟩, hide (by simp), hide (Below.refl _ _)⟩
  case round =>
    clear hx1
    obtain ⟨wq, rfl⟩ : ∃ x, x = wr := ⟨_, rfl⟩
    obtain ⟨a, s, ha, rfl, rfl, HS, HRO, HB⟩ := hrel
    by_cases hlt : a < g.length
    · have hlt' : (a : Int) < g.length := by omega
      obtain ⟨l, hl⟩ : ∃ l, g[a]? = some l := ⟨_, List.getElem?_eq_getElem hlt⟩
      obtain ⟨b, off, B, d, rfl, hbl2, hcell2, hrow⟩ := HG1.out.at hl
      have hcell := (HB.out.cell (p := ⟨b, off + a, none⟩) hbl2).trans hcell2
      obtain ⟨_, _, e3, hd, hm, -⟩ := hrow
      injection e3 with e3 e4 e5
      subst e3 e5
      have hd9 : d ≤ 9223372036854775807 := by unfold maxLen at hm; omega
      have HES := hide (edgesTo_succ hl)
      have HLL := hide hl
      clear hbl2 hcell2 hm e4 hl
      by_cases h200 : l.length ≤ 200
      · have h1 : ¬ (200 : Int) < l.length := by omega
        have h1b : decide ((200 : Int) < l.length) = false := decide_eq_false h1
        obtain ⟨h2, h3⟩ := HS.out
        have hw1 : IntKind.i64.wrap ((s : Int) + l.length) = ((s + l.length : Nat) : Int) := by rw [show ((s : Int) + l.length) = ((s + l.length : Nat) : Int) by omega]; exact IntWalk.i64_in _ (by omega)
        have HS2 : Hid (s + l.length = edgesTo g (a + 1) ∧ s + l.length ≤ 200 * (a + 1)) := hide ⟨by rw [HES.out, ← h2], by omega⟩
        have HR2 : Hid (∀ m ∈ g.take (a + 1), m.length ≤ 200) := hide (by
          intro m hm
          rw [List.take_add_one, HLL.out] at hm
          rcases List.mem_append.1 hm with hm | hm
          · exact HRO.out m hm
          · have : m = l := by simpa using hm
            rw [this]; exact h200)
        clear h2 h3
        go_wp2_with fail
        go_roundw
        case rel => exact ⟨a + 1, s + l.length, by omega, by go_num, rfl, HS2, HR2, HB⟩
        case measure => simp [intOf]; omega
      · have h1 : (200 : Int) < l.length := by omega
        have h1b : decide ((200 : Int) < l.length) = true := decide_eq_true h1
        have HZ := hide (HB1.out.trans (HB.out.mono HB1.out.size))
        have HBG := hide (bigC_row (List.mem_of_getElem? HLL.out) (show 200 < l.length by omega))
        go_wp2_with fail
        go_ret
        exact ⟨by rw [HBG.out]; rfl, HZ.out⟩
    · obtain rfl : a = g.length := by omega
      have HZ := hide (HB1.out.trans (HB.out.mono HB1.out.size))
      have HEE : Hid (s = edges g) := hide (by rw [← edgesTo_end]; exact HS.out.1)
      have hro : ∀ l ∈ g, l.length ≤ 200 := by have := HRO.out; rwa [List.take_length] at this
      have HBG := hide (bigC_no hro h60')
      clear HS HB HRO hro
      by_cases h3 : s ≤ 400
      · have h4 : ¬ (400 : Int) < s := by omega
        have h4b : decide ((400 : Int) < s) = false := decide_eq_false h4
        have HF : Hid (bigC g = false) := hide (by rw [HBG.out, ← HEE.out]; exact decide_eq_false (by omega))
        clear HBG
        go_wp2_with fail
        go_ret
        exact ⟨by rw [HF.out]; first | rfl | simp; omega, HZ.out⟩
      · have h4 : (400 : Int) < s := by omega
        have h4b : decide ((400 : Int) < s) = true := decide_eq_true h4
        have HF : Hid (bigC g = true) := hide (by rw [HBG.out, ← HEE.out]; exact decide_eq_true (by omega))
        clear HBG
        go_wp2_with fail
        go_ret
        exact ⟨by rw [HF.out]; first | rfl | simp; omega, HZ.out⟩
end Go.Proofs.Ytmopnceglnoncaa

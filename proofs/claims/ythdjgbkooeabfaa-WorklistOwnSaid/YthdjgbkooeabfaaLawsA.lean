/-
  WorklistQueue and WorklistRank, layer 5 (worklist).
-/
import Derived.Test.YthdjgbkooeabfaaWorks
import Derived.Test.YthdjgbkooeabfaaPlay
namespace Go.Proofs.Ythdjgbkooeabfaa
open Go.RowKit

set_option maxRecDepth 100000 in
theorem lawQueue (n : Int) (v : Value) (acts : List (Int × Int)) (w : World) (hv : RdN w 2 v (acts.map act)) :
    Calls Try.prog 3 #[.int .i64 n, v] w (LawDone w) := by
  have HV := hide hv
  obtain ⟨_, A, c, rfl, hc, hm, -⟩ := hv
  have hc9 : c ≤ 9223372036854775807 := by unfold maxLen at hm; omega
  rw [List.length_map] at hc HV ⊢
  by_cases h1 : (acts.length : Int) > 150
  · have h1' : (150 : Int) < acts.length := h1
    have HW := hide (works_any w)
    go_enter Try.func3, Try.ntmps3
    go_wp2_with fail
    refine HW.out.mono ?_
    rintro en w1 ⟨rfl, hb⟩
    go_wp2_with fail
    go_ret
    exact ⟨rfl, hb⟩
  · have h1' : ¬ ((150 : Int) < acts.length) := h1
    clear hm
    go_enter Try.func3, Try.ntmps3
    go_wp2_with fail
    refine (new_ring n w).mono ?_
    rintro en w1 ⟨rfl, hq1, hf1⟩
    have H1 := hide (And.intro hq1 hf1)
    clear hq1 hf1
    go_wp2_with fail
    refine (rnew_any n w1).mono ?_
    rintro en w2 ⟨rfl, ⟨F, hr2⟩, hf2⟩
    have hB : Both (ringShop (room n)) w2 w.heap.size w1.heap.size w1.heap.size [] F := ⟨H1.out.1.frm hf2 (by simp), hr2, H1.out.1.lt⟩
    have hb2 : Below w.heap.size w w2 := (H1.out.2.toBelow (by simp) (Nat.le_refl _)).trans (hf2.toBelow (by simp) H1.out.2.size)
    have HB := hide (And.intro hB hb2)
    clear hB hb2 hr2 hf2 H1
    go_wp2_with fail
    refine (play_any (ringShop (room n)) w w2 w.heap.size w1.heap.size w1.heap.size F HB.out.1 _ acts HV.out HB.out.2 (Nat.le_refl _)).mono ?_
    rintro en w3 ⟨rfl, hb3⟩
    have HB3 := hide hb3
    clear hb3 HB HV
    go_wp2_with fail
    refine (works_any w3).mono ?_
    rintro en w4 ⟨rfl, hb4⟩
    have HB4 := hide (HB3.out.trans (hb4.mono HB3.out.size))
    clear hb4 HB3
    go_wp2_with fail
    go_ret
    exact ⟨rfl, HB4.out⟩

set_option maxRecDepth 100000 in
theorem lawRank (u v : Value) (l : List Int) (acts : List (Int × Int)) (w : World) (hu : Rd w .i64 u l) (hv : RdN w 2 v (acts.map act)) :
    Calls Try.prog 4 #[u, v] w (LawDone w) := by
  have HV := hide hv
  have HU := hide hu
  obtain ⟨_, A, c, rfl, hc, hm, -⟩ := hv
  obtain ⟨A', c', rfl, hc', hm', -⟩ := hu
  have hc9 : c ≤ 9223372036854775807 := by unfold maxLen at hm; omega
  have hc9' : c' ≤ 9223372036854775807 := by unfold maxLen at hm'; omega
  rw [List.length_map] at hc HV ⊢
  clear hm hm'
  have HW := hide (works_any w)
  by_cases h0 : (l.length : Int) > 300
  · have h0' : (300 : Int) < l.length := h0
    go_enter Try.func4, Try.ntmps4
    go_wp2_with fail
    refine HW.out.mono ?_
    rintro en w1 ⟨rfl, hb⟩
    go_wp2_with fail
    go_ret
    exact ⟨rfl, hb⟩
  · have h0' : ¬ ((300 : Int) < l.length) := h0
    by_cases h1 : (acts.length : Int) > 150
    · have h1' : (150 : Int) < acts.length := h1
      go_enter Try.func4, Try.ntmps4
      go_wp2_with fail
      refine HW.out.mono ?_
      rintro en w1 ⟨rfl, hb⟩
      go_wp2_with fail
      go_ret
      exact ⟨rfl, hb⟩
    · have h1' : ¬ ((150 : Int) < acts.length) := h1
      clear HW
      have hl : l.length ≤ 65536 := by omega
      go_enter Try.func4, Try.ntmps4
      go_wp2_with fail
      refine (byrank_any w _ l HU.out hl).mono ?_
      rintro en w1 ⟨rfl, hq1, hf1⟩
      have hU1 := HU.out.below' (hf1.toBelow (by simp) (Nat.le_refl _))
      have H1 := hide (And.intro hq1 (And.intro hf1 hU1))
      clear hq1 hf1 hU1 HU
      go_wp2_with fail
      refine (rbyrank_any w1 _ l H1.out.2.2 hl).mono ?_
      rintro en w2 ⟨R, rfl, ⟨F, hr2⟩, hf2⟩
      have hB : Both (heapShop l) w2 w.heap.size w1.heap.size R [] F := ⟨H1.out.1.frm hf2 (by simp), hr2, H1.out.1.lt⟩
      have hb2 : Below w.heap.size w w2 := (H1.out.2.1.toBelow (by simp) (Nat.le_refl _)).trans (hf2.toBelow (by simp) H1.out.2.1.size)
      have HB := hide (And.intro hB hb2)
      clear hB hb2 hr2 hf2 H1
      go_wp2_with fail
      refine (play_any (heapShop l) w w2 w.heap.size w1.heap.size R F HB.out.1 _ acts HV.out HB.out.2 (Nat.le_refl _)).mono ?_
      rintro en w3 ⟨rfl, hb3⟩
      have HB3 := hide hb3
      clear hb3 HB HV
      go_wp2_with fail
      refine (works_any w3).mono ?_
      rintro en w4 ⟨rfl, hb4⟩
      have HB4 := hide (HB3.out.trans (hb4.mono HB3.out.size))
      clear hb4 HB3
      go_wp2_with fail
      go_ret
      exact ⟨rfl, HB4.out⟩
end Go.Proofs.Ythdjgbkooeabfaa

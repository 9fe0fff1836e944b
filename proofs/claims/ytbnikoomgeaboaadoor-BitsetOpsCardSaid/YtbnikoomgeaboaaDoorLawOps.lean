/-
  BitsetOps, layer 3 (bitset).
-/
import Derived.Test.YtbnikoomgeaboaaDoorPair3
import Derived.Test.YtbnikoomgeaboaaDoorAwake
import Derived.Test.YtbnikoomgeaboaaDoorOpenN
import Derived.Deep.CutRange
namespace Go.Proofs.YtbnikoomgeaboaaDoor
open Go.RowKit

/-- An operation. -/
structure OpS where
  kind : Int
  i : Int
  cap : Int
  v : Value
  l : List Int
def OpS.row (s : OpS) : List Value := [.int .i64 s.kind, .int .i64 s.i, .int .i64 s.cap, s.v]

set_option maxRecDepth 100000 in
set_option maxHeartbeats 1000000 in
theorem ops_big (n : Int) (v : Value) (ss : List OpS) (w : World) (hT : Tab w) (hv : RdN w 4 v (ss.map OpS.row)) (h : ¬ (n ≤ 2000 ∧ ss.length ≤ 100)) :
    Calls Tryd.prog 3 #[.int .i64 n, v] w (LawDone w) := by
  obtain ⟨_, A, c, rfl, hc, hm, -⟩ := hv
  have hc9 : c ≤ 9223372036854775807 := by unfold maxLen at hm; omega
  rw [List.length_map] at hc ⊢
  have hp0 := hT.1
  have hT0 := hide hT
  clear hT hm
  by_cases hn : n < 0 ∨ 65536 < n
  · have HN := hide (new_nil n w hn)
    have HR := hide (rnew_nil n w hn)
    have HA := hide (awake_any w hT0.out)
    by_cases h1 : n > 2000
    · have h1' : 2000 < n := h1
      clear h hn
      go_enter Tryd.func3, Tryd.ntmps3
      go_wp2_with (first | (go_at_call 7; refine HN.out.mono ?_; rintro en w' ⟨rfl, rfl⟩) | (go_at_call 8; refine HR.out.mono ?_; rintro en w' ⟨rfl, rfl⟩))
      refine HA.out.mono ?_
      rintro en w1 ⟨rfl, hB⟩
      go_wp2_with fail
      go_ret
      exact ⟨rfl, hB⟩
    · have h1' : ¬ (2000 < n) := h1
      have h2 : (100 : Int) < ss.length := by omega
      clear h hn
      go_enter Tryd.func3, Tryd.ntmps3
      go_wp2_with (first | (go_at_call 7; refine HN.out.mono ?_; rintro en w' ⟨rfl, rfl⟩) | (go_at_call 8; refine HR.out.mono ?_; rintro en w' ⟨rfl, rfl⟩))
      refine HA.out.mono ?_
      rintro en w1 ⟨rfl, hB⟩
      go_wp2_with fail
      go_ret
      exact ⟨rfl, hB⟩
  · obtain ⟨m, rfl⟩ : ∃ m : Nat, n = m := ⟨n.toNat, by omega⟩
    by_cases h1 : (m : Int) > 2000
    · have h1' : (2000 : Int) < m := h1
      have h1'' : 2000 < m := by omega
      have hm5 : m ≤ 65536 := by omega
      clear h hn
      go_enter Tryd.func3, Tryd.ntmps3
      go_wp2_with fail
      refine (new_set m w hm5).mono ?_
      rintro en w1 ⟨rfl, -, hf1⟩
      go_wp2_with fail
      refine (rnew_set m w1 hm5).mono ?_
      rintro en w2 ⟨rfl, -, hf2⟩
      have HB := hide (And.intro ((hf1.trans hf2).toBelow (B := w.heap.size) (by simp) (Nat.le_refl _)) (hT0.out.frm (hf1.trans hf2) (by simp)))
      clear hf1 hf2
      go_wp2_with fail
      refine (awake_any w2 HB.out.2).mono ?_
      rintro en w3 ⟨rfl, hB⟩
      have HB3 := hide (HB.out.1.trans (hB.mono HB.out.1.size))
      clear hB HB
      go_wp2_with fail
      go_ret
      exact ⟨rfl, HB3.out⟩
    · have h1' : ¬ ((2000 : Int) < m) := h1
      have h1'' : ¬ (2000 < m) := by omega
      have h2 : (100 : Int) < ss.length := by omega
      have hm5 : m ≤ 65536 := by omega
      clear h hn
      go_enter Tryd.func3, Tryd.ntmps3
      go_wp2_with fail
      refine (new_set m w hm5).mono ?_
      rintro en w1 ⟨rfl, -, hf1⟩
      go_wp2_with fail
      refine (rnew_set m w1 hm5).mono ?_
      rintro en w2 ⟨rfl, -, hf2⟩
      have HB := hide (And.intro ((hf1.trans hf2).toBelow (B := w.heap.size) (by simp) (Nat.le_refl _)) (hT0.out.frm (hf1.trans hf2) (by simp)))
      clear hf1 hf2
      go_wp2_with fail
      refine (awake_any w2 HB.out.2).mono ?_
      rintro en w3 ⟨rfl, hB⟩
      have HB3 := hide (HB.out.1.trans (hB.mono HB.out.1.size))
      clear hB HB
      go_wp2_with fail
      go_ret
      exact ⟨rfl, HB3.out⟩
end Go.Proofs.YtbnikoomgeaboaaDoor

/-
  slices.Equal over two slices of bools that hold the same, and slices.Contains.
-/
import Derived.Test.YtmopnceglnoncaaTEqI
import Derived.Test.YtmopnceglnoncaaDBase
namespace Go.Proofs.Ytmopnceglnoncaa
open Go.RowKit

set_option maxRecDepth 100000 in
/-- slices.Equal at bools: the same lists are equal. -/
theorem eqb_any (u v : Value) (n : Nat) (f : Nat → Bool) (w : World) (hu : RdV w u (bl n f)) (hv : RdV w v (bl n f)) :
    Calls Try.prog 30 #[u, v] w fun e w' => e = .returned (.bool true) ∧ Below w.heap.size w w' := by
  have hl1 := hu.len
  rw [bl_len] at hl1
  unfold maxLen at hl1
  obtain ⟨A, c, rfl, hc, hcm, hr⟩ := hu
  obtain ⟨B, d, rfl, hd, hdm, hs⟩ := hv
  have HR : Hid (RdV w (.slice A (bl n f).length c) (bl n f)) := hide ⟨A, c, rfl, hc, hcm, hr⟩
  have HS : Hid (RdV w (.slice B (bl n f).length d) (bl n f)) := hide ⟨B, d, rfl, hd, hdm, hs⟩
  clear hr hs
  rw [bl_len] at hc hd HR HS
  rw [bl_len]
  have hn : ((n : Int) != (n : Int)) = false := by rw [bne_eq_false_iff_eq]
  go_enter Try.func30, Try.ntmps30
  go_wp2_with fail
  go_loopw [13] (fun i wr => ∃ k : Nat, k ≤ n ∧ i = .int .i64 k ∧ Below w.heap.size w wr) (fun i _ => n - (intOf i).toNat)
  case atStart => exact ⟨0, Nat.zero_le _, rfl, Below.refl _ _⟩
  case round =>
    obtain ⟨k, hk, rfl, hB⟩ := hrel
    by_cases hlt : k < n
    · obtain ⟨b, off, rfl, hb, hcell⟩ := HR.out.at k _ (bl_get f hlt)
      obtain ⟨b', off', rfl, hb', hcell'⟩ := HS.out.at k _ (bl_get f hlt)
      have c1 := (hB.cell (p := ⟨b, off + k, none⟩) hb).trans hcell
      have c2 := (hB.cell (p := ⟨b', off' + k, none⟩) hb').trans hcell'
      have b1 : (k : Int) < (n : Int) := by omega
      have b0 : 0 ≤ (k : Int) := by omega
      generalize f k = q at c1 c2
      clear hcell hcell'
      cases q
      all_goals
        go_wp2_with fail
        go_quiet (fail)
        go_wp2_with fail
        go_roundw
        case rel => exact ⟨k + 1, by omega, by go_num, Below.drewN' hB _⟩
        case measure => simp [intOf]; omega
    · obtain rfl : k = n := by omega
      go_wp2_with fail
      go_ret
      exact ⟨rfl, hB⟩

end Go.Proofs.Ytmopnceglnoncaa

/-
  slices.Contains over bools that are all false.
-/
import Derived.Test.YtakojoedifhcnaaTEqB
namespace Go.Proofs.Ytakojoedifhcnaa
open Go.RowKit

set_option maxRecDepth 100000 in
theorem indexb_any (u : Value) (n : Nat) (w : World) (hu : RdV w u (bl n (fun _ => false))) :
    Calls Try.prog 26 #[u, .bool true] w fun e w' => e = .returned (.int .i64 (-1)) ∧ Below w.heap.size w w' := by
  have hl1 := hu.len
  rw [bl_len] at hl1
  unfold maxLen at hl1
  have HU := hide hu
  obtain ⟨A, c, e0, hc, hcm, -⟩ := hu
  rw [bl_len] at e0 hc
  subst e0
  go_enter Try.func26, Try.ntmps26
  go_wp2_with fail
  go_loopw [8] (fun i wr => ∃ k : Nat, k ≤ n ∧ i = .int .i64 k ∧ Below w.heap.size w wr) (fun i _ => n - (intOf i).toNat)
  case atStart => exact ⟨0, Nat.zero_le _, rfl, Below.refl _ _⟩
  case round =>
    obtain ⟨k, hk, rfl, hB⟩ := hrel
    by_cases hlt : k < n
    · obtain ⟨b, off, rfl, hb, hcell⟩ := HU.out.at k _ (bl_get (fun _ => false) hlt)
      have c1 := (hB.cell (p := ⟨b, off + k, none⟩) hb).trans hcell
      have b1 : (k : Int) < (n : Int) := by omega
      clear hcell
      go_wp2_with fail
      go_roundw
      case rel => exact ⟨k + 1, by omega, by go_num, hB⟩
      case measure => simp [intOf]; omega
    · obtain rfl : k = n := by omega
      go_wp2_with fail
      go_ret
      exact ⟨rfl, hB⟩
set_option maxRecDepth 100000 in
theorem contb_any (u : Value) (n : Nat) (w : World) (hu : RdV w u (bl n (fun _ => false))) :
    Calls Try.prog 17 #[u, .bool true] w fun e w' => e = .returned (.bool false) ∧ Below w.heap.size w w' := by
  have HK := hide (indexb_any u n w hu)
  clear hu
  go_enter Try.func17, Try.ntmps17
  go_wp2_with fail
  refine HK.out.mono ?_
  rintro en w2 ⟨rfl, hb⟩
  have HB := hide hb
  clear hb
  go_wp2_with fail
  go_ret
  exact ⟨by first | rfl | simp, HB.out⟩
end Go.Proofs.Ytakojoedifhcnaa

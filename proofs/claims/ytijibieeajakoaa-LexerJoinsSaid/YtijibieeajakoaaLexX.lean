/-
  Layer 13 (lexer): FormatInt of the reference.
-/
import Derived.Test.YtijibieeajakoaaLexV
namespace Go.Proofs.Ytijibieeajakoaa
open Go.RowKit

def strSz (v : Value) : Nat := match v with | .string s => s.size | _ => 0
theorem strSz_Bs (D : List UInt8) : strSz (.string (Bs D)) = D.length := Bs_size D
theorem one_str (w : World) (u : Nat) (h : u < 10) : (convert 32 9 (.slice (some ⟨w.heap.size, 0, none⟩) 1 1)).run Try.prog (w.alloc (.cells #[.int .u8 ((48 + u : Nat) : Int)] 5)) = .ok (.string (Bs [dg u])) (w.alloc (.cells #[.int .u8 ((48 + u : Nat) : Int)] 5)) := by
  have h1 := run_convert_rd (P := Try.prog) _ 32 9 5 Try.underlying32 Try.underlying5 Try.underlying9 (rd_one (k := .u8) w 5 ((48 + u : Nat) : Int))
  have h2 : strOfNums [((48 + u : Nat) : Int)] = Bs [dg u] := by rw [strNums, List.map_cons, dg_nat h]; rfl
  rw [h2] at h1
  exact h1

set_option maxRecDepth 100000 in
set_option maxHeartbeats 2000000 in
theorem rformat_any (z : Int) (hz1 : -9223372036854775808 ≤ z) (hz2 : z ≤ 9223372036854775807) (w : World) : Calls Try.prog 18 #[.int .i64 z] w fun e w' => e = .returned (.string (Bs (fmtZ z))) ∧ Below w.heap.size w w' := by
  obtain ⟨u0, hu0⟩ : ∃ u, z.natAbs = u := ⟨_, rfl⟩
  have hub : Hid (u0 ≤ 9223372036854775808) := by show _ ≤ _; omega
  have hT := Bs_toList
  have hsz := Bs_size
  have hap := Bs_append
  have h45 : ({ data := #[45] } : ByteArray) = Bs [45] := rfl
  have hB0 : Below w.heap.size w w := Below.refl _ _
  by_cases hneg : z < 0
  · have hw := u64_neg z hneg hz1
    have hfmt : Hid (fmtZ z = 45 :: digsW u0) := by show _ = _; unfold fmtZ; rw [if_pos hneg, hu0]
    rw [hu0] at hw
    clear hu0
    go_enter Try.func18, Try.ntmps18
    go_wp2_with fail
    go_loopw [3, 4] (fun v3 v4 wr => ∃ (u : Nat) (D : List UInt8), v3 = .int .u64 (u : Int) ∧ v4 = .string (Bs D) ∧ Gath u0 u D ∧ D.length ≤ 19 ∧ (u : Int) ≤ 9223372036854775808 ∧ Below w.heap.size w wr) (fun _ v4 _ => 20 - strSz v4)
    case atStart => exact ⟨u0, [], rfl, rfl, Gath.start _, by simp, by have := hub.out; omega, hB0⟩
    case round =>
      obtain ⟨u, D, rfl, rfl, hG, hD19, hub2, hB⟩ := hrel
      have HG := hide hG
      have HB := hide hB
      clear hG hB hw
      by_cases hgo : 0 < u ∨ D = []
      · have HST := hide (HG.out.step hgo)
        have hroom := HG.out.room hgo (by have := hub.out; omega)
        have hcv := one_str wr (u % 10) (by omega)
        have hcv0 := one_str wr 0 (by omega)
        rw [show ((48 + u % 10 : Nat) : Int) = 48 + (u : Int) % 10 by omega] at hcv
        rw [show ((48 + 0 : Nat) : Int) = 48 by omega] at hcv0
        have hlt : (0 : Int) < (u : Int) ∨ ((u : Int) = 0 ∧ D = []) := by rcases hgo with h | h; (exact .inl (by omega)); (rcases Nat.eq_zero_or_pos u with h0 | h0; (exact .inr ⟨by omega, h⟩); (exact .inl (by omega)))
        clear hgo HG
        rcases hlt with hlt | ⟨hlt, rfl⟩
        · clear hcv0
          go_wp2_with fail
          go_roundw
          case rel => exact ⟨u / 10, dg (u % 10) :: D, by go_num, by rfl, HST.out, by simp; omega, by omega, HB.out.alloc HB.out.size _⟩
          case measure => simp only [strSz_Bs, List.length_cons, List.singleton_append]; omega
        · obtain rfl : u = 0 := by omega
          clear hcv
          go_wp2_with fail
          go_roundw
          case rel => exact ⟨0, [dg 0], by go_num, by rfl, HST.out, by simp, by omega, HB.out.alloc HB.out.size _⟩
          case measure => simp only [strSz_Bs]; simp
      · obtain rfl : u = 0 := by omega
        have hDne : D ≠ [] := fun h => hgo (.inr h)
        have hdone : Hid (digsW u0 = D) := HG.out.done hDne
        have hemp : D.isEmpty = false := by simpa using hDne
        clear HG hgo
        go_wp2_with fail
        go_ret
        exact ⟨by rw [hfmt.out, hdone.out]; rfl, HB.out⟩
  · have hw := u64_pos z (by omega) hz2
    have hfmt : Hid (fmtZ z = digsW u0) := by show _ = _; unfold fmtZ; rw [if_neg hneg, hu0]
    rw [hu0] at hw
    clear hu0
    go_enter Try.func18, Try.ntmps18
    go_wp2_with fail
    go_loopw [3, 4] (fun v3 v4 wr => ∃ (u : Nat) (D : List UInt8), v3 = .int .u64 (u : Int) ∧ v4 = .string (Bs D) ∧ Gath u0 u D ∧ D.length ≤ 19 ∧ (u : Int) ≤ 9223372036854775808 ∧ Below w.heap.size w wr) (fun _ v4 _ => 20 - strSz v4)
    case atStart => exact ⟨u0, [], rfl, rfl, Gath.start _, by simp, by have := hub.out; omega, hB0⟩
    case round =>
      obtain ⟨u, D, rfl, rfl, hG, hD19, hub2, hB⟩ := hrel
      have HG := hide hG
      have HB := hide hB
      clear hG hB hw
      by_cases hgo : 0 < u ∨ D = []
      · have HST := hide (HG.out.step hgo)
        have hroom := HG.out.room hgo (by have := hub.out; omega)
        have hcv := one_str wr (u % 10) (by omega)
        have hcv0 := one_str wr 0 (by omega)
        rw [show ((48 + u % 10 : Nat) : Int) = 48 + (u : Int) % 10 by omega] at hcv
        rw [show ((48 + 0 : Nat) : Int) = 48 by omega] at hcv0
        have hlt : (0 : Int) < (u : Int) ∨ ((u : Int) = 0 ∧ D = []) := by rcases hgo with h | h; (exact .inl (by omega)); (rcases Nat.eq_zero_or_pos u with h0 | h0; (exact .inr ⟨by omega, h⟩); (exact .inl (by omega)))
        clear hgo HG
        rcases hlt with hlt | ⟨hlt, rfl⟩
        · clear hcv0
          go_wp2_with fail
          go_roundw
          case rel => exact ⟨u / 10, dg (u % 10) :: D, by go_num, by rfl, HST.out, by simp; omega, by omega, HB.out.alloc HB.out.size _⟩
          case measure => simp only [strSz_Bs, List.length_cons, List.singleton_append]; omega
        · obtain rfl : u = 0 := by omega
          clear hcv
          go_wp2_with fail
          go_roundw
          case rel => exact ⟨0, [dg 0], by go_num, by rfl, HST.out, by simp, by omega, HB.out.alloc HB.out.size _⟩
          case measure => simp only [strSz_Bs]; simp
      · obtain rfl : u = 0 := by omega
        have hDne : D ≠ [] := fun h => hgo (.inr h)
        have hdone : Hid (digsW u0 = D) := HG.out.done hDne
        have hemp : D.isEmpty = false := by simpa using hDne
        clear HG hgo
        go_wp2_with fail
        go_ret
        exact ⟨by rw [hfmt.out, hdone.out]; rfl, HB.out⟩
end Go.Proofs.Ytijibieeajakoaa

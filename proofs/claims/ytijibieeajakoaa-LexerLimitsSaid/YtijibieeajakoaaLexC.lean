/-
  Layer 13 (lexer): integers at a text's front, and what they represent.
-/
import Derived.Test.YtijibieeajakoaaLexB
namespace Go.Proofs.Ytijibieeajakoaa
open Go.RowKit

set_option maxRecDepth 100000 in
theorem integerLength_any (l : List UInt8) (hm : l.length ≤ 1000000) (w : World) : Calls Try.prog 21 #[.string (Bs l)] w fun e w' => e = .returned (.int .i64 (intLen l : Int)) ∧ Below w.heap.size w w' := by
  have hc := cut_le l
  have hcm : (cut l).length ≤ 1000000 := by omega
  have hdl : Hid (digLen (cut l) ≤ 1000000) := by have := span_le isDig (cut l); unfold digLen; show _ ≤ _; omega
  obtain ⟨n, hn⟩ : ∃ n, digLen (cut l) = n := ⟨_, rfl⟩
  have hres : Hid (intLen l = if 0 < n && minus l then n + 1 else n) := by show _ = _; unfold intLen; rw [hn]
  have hD := digitsLength_any (cut l) hcm
  rw [hn] at hD hdl
  have hnb := hdl.out
  clear hn hc hcm hdl
  go_enter Try.func21, Try.ntmps21
  go_wp2_with (first | (go_at_call 30; refine (cutMinus_any l _).mono ?_; rintro en w' ⟨rfl, rfl⟩) | (go_at_call 31; refine (hD _).mono ?_; rintro en w' ⟨rfl, hb⟩))
  all_goals (go_ret; refine ⟨?_, hb⟩; rw [hres.out]; simp_all)

set_option maxRecDepth 100000 in
theorem isCanonical_any (l : List UInt8) (h : cut l ≠ []) (w : World) : Calls Try.prog 22 #[.string (Bs l)] w fun e w' => e = .returned (.bool (canon l)) ∧ w' = w := by
  obtain ⟨d, r, hcr⟩ : ∃ d r, cut l = d :: r := by
    cases hx : cut l with
    | nil => exact absurd hx h
    | cons d r => exact ⟨d, r, rfl⟩
  have hres : Hid (canon l = (!decide ((d.toNat : Int) = 48) || decide (l = [48]))) := by show _ = _; unfold canon; rw [hcr]; rfl
  have hix := ix0 d r
  have hC := cutMinus_any l
  rw [hcr] at hC
  have hT := Bs_toList
  have h48 : ByteArray.toList { data := #[48] } = [48] := Bs_toList [48]
  clear h hcr
  go_enter Try.func22, Try.ntmps22
  go_wp2_with (go_at_call 30; refine (hC _).mono ?_; rintro en w' ⟨rfl, rfl⟩)
  all_goals (go_ret; refine ⟨?_, rfl⟩; rw [hres.out]; simp_all; try (rw [Bool.eq_iff_iff]; simp))

set_option maxRecDepth 100000 in
theorem parseDigits_any (l : List UInt8) (hm : l.length ≤ 1000000) (hd : ∀ c ∈ l, isDig c = true) (w : World) : Calls Try.prog 32 #[.string (Bs l)] w fun e w' =>
    e = .returned (.tuple #[.int .u64 (if l.length ≤ 19 then (num l : Int) else 0), .bool (decide (l.length ≤ 19))]) ∧ Below w.heap.size w w' := by
  have hlen := lenS l (by unfold maxLen; omega)
  have hD := hide hd
  clear hd
  go_enter Try.func32, Try.ntmps32
  by_cases h19 : (19 : Int) < (l.length : Int)
  · go_wp2
    go_ret2
    have h1 : ¬ l.length ≤ 19 := by omega
    exact ⟨by simp [h1], Below.refl _ _⟩
  · have h1 : l.length ≤ 19 := by omega
    go_wp2
    go_loopw [2] (fun n wr => ∃ pos : Nat, wr = w.iter (Bs l) pos ∧ pos ≤ l.length ∧ n = .int .u64 (num (l.take pos) : Int)) (fun _ wr => l.length - wr.iterPos w.heap.size)
    case atStart => exact ⟨0, rfl, Nat.zero_le _, by simp [num]⟩
    case round =>
      obtain ⟨pos, rfl, hp, rfl⟩ := hrel
      rcases Nat.lt_or_ge pos l.length with hp | hp
      · obtain ⟨c, hc⟩ : ∃ c, l[pos]? = some c := ⟨_, List.getElem?_eq_getElem hp⟩
        obtain ⟨r, k, hnx, hk, hr⟩ := nxt_high w l pos c hc
        have hcd := hD.out c (List.mem_of_getElem? hc)
        have hcn := dig_num hcd
        obtain ⟨rfl, rfl⟩ : r = c.toNat ∧ k = 1 := by
          rcases hr with h1 | h1
          · exact h1.2
          · omega
        have hstep : num (l.take (pos + 1)) = 10 * num (l.take pos) + (c.toNat - 48) := by
          rw [List.take_add_one, hc]; exact num_snoc _ _
        have hlt : num (l.take pos) < 1000000000000000000 := by
          have h2 := num_lt pos (l.take pos) (by simp; omega) (fun c hc => hD.out c (List.mem_of_mem_take hc))
          have h3 : 10 ^ pos ≤ 10 ^ 18 := Nat.pow_le_pow_right (by omega) (by omega)
          have h4 : (10 : Nat) ^ 18 = 1000000000000000000 := rfl
          omega
        obtain ⟨x, hx⟩ : ∃ x, num (l.take pos) = x := ⟨_, rfl⟩
        obtain ⟨cn, hcx⟩ : ∃ x, c.toNat = x := ⟨_, rfl⟩
        rw [hx] at hstep hlt ⊢
        rw [hcx] at hstep hcn hnx
        have hS := hide hstep
        clear hstep hr hcx hcd hx hD
        go_wp2
        go_roundw
        case rel => exact ⟨pos + 1, rfl, hp, by rw [hS.out]; congr 1; omega⟩
        case measure => simp; omega
      · obtain rfl : pos = l.length := by omega
        have hnx := nxt_end w l l.length (Nat.le_refl _)
        go_wp2
        go_ret2
        exact ⟨by simp [h1], below_iter _ _ _⟩
end Go.Proofs.Ytijibieeajakoaa

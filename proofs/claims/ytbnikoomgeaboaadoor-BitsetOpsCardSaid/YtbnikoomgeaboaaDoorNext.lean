/-
  The least element that is not less than a number, layer 3 (bitset).
-/
import Derived.Test.YtbnikoomgeaboaaDoorSet
import Derived.Laws.Bits64b
namespace Go.Proofs.YtbnikoomgeaboaaDoor
open Go.RowKit

/-- The library's table of trailing zeros lies in its variable. -/
def Tab (w : World) : Prop := 0 < w.heap.size ∧ ∀ j, j < 64 → w.cell? ⟨0, j, none⟩ = some (.int .u8 (Lib.deBruijn64tab.getD j 0))
theorem Tab.frm {w w' : World} {S : List Nat} (h : Tab w) (hf : Frm w w' S) (h0 : 0 ∉ S) : Tab w' := ⟨Nat.lt_of_lt_of_le h.1 hf.size, fun j hj => (hf.cell (p := ⟨0, j, none⟩) h.1 h0).trans (h.2 j hj)⟩
theorem Tab.below {w w' : World} (h : Tab w) (hb : Below w.heap.size w w') : Tab w' := h.frm (S := []) (Frm.below hb) (by simp)

theorem tz_key (x a : Nat) (hx : x < 18446744073709551616) (hx0 : x ≠ 0) (hlow : x &&& (18446744073709551616 - x) = a) :
    IntKind.u64.wrap (bits BinOp.and IntKind.u64 (x : Int) (IntKind.u64.wrap (-(x : Int))) * 285870213051353865) / 288230376151711744 = ((a * 285870213051353865 % 18446744073709551616 / 288230376151711744 : Nat) : Int) := by
  have e1 : IntKind.u64.wrap (-(x : Int)) = ((18446744073709551616 - x : Nat) : Int) := by rw [IntKind.wrap_u64]; omega
  rw [e1, bits_and_u64_nat x _ hx (by omega), hlow, IntKind.wrap_u64]
  omega
set_option maxHeartbeats 1000000 in
theorem tz_core (x k idx : Nat) (w : World) (hx0 : ((x : Int) == 0) = false)
    (key : IntKind.u64.wrap (bits BinOp.and IntKind.u64 (x : Int) (IntKind.u64.wrap (-(x : Int))) * 285870213051353865) / 288230376151711744 = (idx : Int))
    (hi : idx < 64) (hk : k < 64) (hcell : w.cell? ⟨0, idx, none⟩ = some (.int .u8 k)) :
    Calls Tryd.prog 48 #[.int .u64 x] w fun e w' => e = .returned (.int .i64 k) ∧ w = w' := by
  go_enter Tryd.func48, Tryd.ntmps48
  go_wp2_with (simp only [key])
  go_ret
  exact ⟨rfl, rfl⟩
/-- TrailingZeros64 of what is not nought. -/
theorem tz_any (x : Nat) (hx : Wd x) (hx0 : x ≠ 0) (w : World) (hT : Tab w) :
    Calls Tryd.prog 48 #[.int .u64 x] w fun e w' => e = .returned (.int .i64 (Lib.ctz 64 x)) ∧ w = w' := by
  obtain ⟨hlow, hk⟩ := Lib.lowest_bit 64 x hx0 hx
  obtain ⟨hi, htab⟩ := Lib.deBruijn64_at _ hk
  have hcell := hT.2 _ hi
  rw [htab] at hcell
  exact tz_core x _ _ w (by simp; omega) (tz_key x _ hx hx0 hlow) hi hk hcell

/-- The lowest bit of a word. -/
theorem ctz_bits {x : Nat} (hx : Wd x) (h0 : x ≠ 0) : Lib.ctz 64 x < 64 ∧ x.testBit (Lib.ctz 64 x) = true ∧ ∀ t, t < Lib.ctz 64 x → x.testBit t = false := by
  have e : Lib.ctz 64 x = Lib.ctzFrom 64 x := by simp [Lib.ctz, h0]
  obtain ⟨m, hm, hk⟩ := Lib.ctzFrom_spec 64 x (by omega) hx
  rw [e]
  generalize Lib.ctzFrom 64 x = k at hm hk
  subst hm
  refine ⟨hk, ?_, fun t ht => ?_⟩
  · rw [Nat.testBit_two_pow_mul]
    simp
  · rw [Nat.testBit_two_pow_mul]
    simp; omega
theorem shr_wd {x : Nat} (hx : Wd x) (k : Nat) : Wd (x / 2 ^ k) := Nat.lt_of_le_of_lt (Nat.div_le_self _ _) hx
theorem testBit_shr (x k t : Nat) : (x / 2 ^ k).testBit t = x.testBit (k + t) := by
  rw [← Nat.shiftRight_eq_div_pow, Nat.testBit_shiftRight]
/-- A word's bit, of the set. -/
theorem bit_word {ws : List Nat} {q x : Nat} (h : ws[q]? = some x) {t : Nat} (ht : t < 64) : bit ws (q * 64 + t) = x.testBit t := by
  unfold bit
  have a1 : (q * 64 + t) / 64 = q := by omega
  have a2 : (q * 64 + t) % 64 = t := by omega
  rw [a1, a2, List.getD_eq_getElem?_getD, h]
  rfl
/-- What a shifted word tells. -/
theorem word_zero {ws : List Nat} {m x : Nat} (h : ws[m / 64]? = some x) (h0 : x / 2 ^ (m % 64) = 0) : ∀ j, m ≤ j → j < m + (64 - m % 64) → bit ws j = false := by
  intro j h1 h2
  have e : j = m / 64 * 64 + (j % 64) := by omega
  rw [e, bit_word h (by omega)]
  have := testBit_shr x (m % 64) (j % 64 - m % 64)
  rw [h0, Nat.zero_testBit] at this
  rw [show m % 64 + (j % 64 - m % 64) = j % 64 by omega] at this
  exact this.symm
theorem word_some {ws : List Nat} {n m x : Nat} (hw : Words n ws) (h : ws[m / 64]? = some x) (h0 : x / 2 ^ (m % 64) ≠ 0) :
    m + Lib.ctz 64 (x / 2 ^ (m % 64)) < n ∧ bit ws (m + Lib.ctz 64 (x / 2 ^ (m % 64))) = true ∧ ∀ j, m ≤ j → j < m + Lib.ctz 64 (x / 2 ^ (m % 64)) → bit ws j = false := by
  have hxw : Wd x := hw.lt x (List.mem_of_getElem? h)
  obtain ⟨c1, c2, c3⟩ := ctz_bits (shr_wd hxw (m % 64)) h0
  generalize Lib.ctz 64 (x / 2 ^ (m % 64)) = c at c1 c2 c3
  rw [testBit_shr] at c2
  have hc : m % 64 + c < 64 := by
    rcases Nat.lt_or_ge (m % 64 + c) 64 with h1 | h1
    · exact h1
    · rw [Nat.testBit_lt_two_pow (Nat.lt_of_lt_of_le (wd_pow hxw) (Nat.pow_le_pow_right (by omega) h1))] at c2
      cases c2
  have hb : bit ws (m + c) = true := by
    rw [show m + c = m / 64 * 64 + (m % 64 + c) by omega, bit_word h hc, c2]
  refine ⟨?_, hb, fun j h1 h2 => ?_⟩
  · rcases Nat.lt_or_ge (m + c) n with h1 | h1
    · exact h1
    · rw [hw.top _ h1] at hb; cases hb
  · rw [show j = m / 64 * 64 + (m % 64 + (j - m)) by omega, bit_word h (by omega), ← testBit_shr]
    exact c3 (j - m) (by omega)

/-- next. -/
theorem next_any (w : World) (B n : Nat) (ws : List Nat) (h : SetAt w B n ws) (hT : Tab w) (k : Nat) (hk : k ≤ 70000) :
    Calls Tryd.prog 47 #[.pointer (some ⟨B + 1, 0, none⟩), .int .i64 k] w fun en w' => w = w' ∧
      ((∃ j, k ≤ j ∧ j < n ∧ bit ws j = true ∧ (∀ i, k ≤ i → i < j → bit ws i = false) ∧ en = .returned (.tuple #[.int .i64 j, .bool true])) ∨ ((∀ i, k ≤ i → bit ws i = false) ∧ en = .returned (.tuple #[.int .i64 0, .bool false]))) := by
  have HC := hide (cap_set w B n ws h)
  have HT := hide hT
  have HW := hide h.2.2.1
  have c1 := h.2.1.cell 1
  have HX := hide (fun q => h.1.cell q)
  have h65 := h.2.2.2
  clear h hT
  go_enter Tryd.func47, Tryd.ntmps47
  go_wp2_with fail
  go_loop [1] (fun i => ∃ m : Nat, k ≤ m ∧ m ≤ 70064 ∧ (m ≤ k ∨ m ≤ n + 63) ∧ i = .int .i64 m ∧ ∀ j, k ≤ j → j < m → bit ws j = false) (fun i => 70064 + 64 - (intOf i).toNat)
  case atStart => exact ⟨k, Nat.le_refl _, by omega, .inl (Nat.le_refl _), rfl, fun j h1 h2 => by omega⟩
  case round =>
    obtain ⟨m, hkm, hm7, hmn, rfl, hno⟩ := hrel
    have HNO := hide hno
    clear hno
    by_cases hlt : m < n
    · have hq := HW.out.idx hlt
      obtain ⟨x, hx⟩ : ∃ x, ws[m / 64]? = some x := ⟨_, List.getElem?_eq_getElem hq⟩
      have hxw : Wd x := HW.out.lt x (List.mem_of_getElem? hx)
      have cx : w.cell? ⟨B, m / 64, none⟩ = some (.int .u64 (x : Int)) := by rw [HX.out, wcells_get, hx]; rfl
      have i2 : (m : Int) < n := by omega
      have b1 : ((m / 64 : Nat) : Int) < ws.length := by omega
      have b2 : (m : Int) / 64 < ws.length := by omega
      have HXX := hide hx
      clear hx
      have ez : ((x / 2 ^ (m % 64) : Nat) : Int) = (x : Int) / 2 ^ (m % 64) := by rw [Int.natCast_ediv, Int.natCast_pow]; rfl
      by_cases h0 : x / 2 ^ (m % 64) = 0
      · have t : ((x : Int) / 2 ^ (m % 64) != 0) = false := by rw [← ez, h0]; rfl
        have HZ := hide (word_zero HXX.out h0)
        clear h0 ez
        go_wp2_with (go_at_call 32; refine HC.out.mono ?_; rintro en w' ⟨rfl, rfl⟩)
        go_round
        case rel =>
          refine ⟨m + (64 - m % 64), by omega, by omega, .inr (by omega), by congr 1; omega, fun j h1 h2 => ?_⟩
          rcases Nat.lt_or_ge j m with h3 | h3
          · exact HNO.out j h1 h3
          · exact HZ.out j h3 h2
        case measure => simp [intOf]; omega
      · have t : ((x : Int) / 2 ^ (m % 64) != 0) = true := by
          rw [← ez, bne_iff_ne]; omega
        have HZ := hide (tz_any _ (shr_wd hxw (m % 64)) h0 w HT.out)
        obtain ⟨z1, z2, z3⟩ := word_some HW.out HXX.out h0
        rw [ez] at HZ
        generalize Lib.ctz 64 (x / 2 ^ (m % 64)) = c at HZ z1 z2 z3
        have HS := hide (And.intro z1 (And.intro z2 z3))
        have hc9 : (m : Int) + c < n := by omega
        have hc8 : (n : Int) ≤ 65536 := by omega
        clear h0 ez z1 z2 z3
        go_wp2_with (first | (go_at_call 32; refine HC.out.mono ?_; rintro en w' ⟨rfl, rfl⟩) | (go_at_call 48; refine HZ.out.mono ?_; rintro en w' ⟨rfl, rfl⟩))
        go_ret2
        refine ⟨rfl, .inl ⟨m + c, by omega, HS.out.1, HS.out.2.1, fun i h1 h2 => ?_, rfl⟩⟩
        rcases Nat.lt_or_ge i m with h3 | h3
        · exact HNO.out i h1 h3
        · exact HS.out.2.2 i h3 h2
    · have i2 : ¬ ((m : Int) < n) := by omega
      go_wp2_with (go_at_call 32; refine HC.out.mono ?_; rintro en w' ⟨rfl, rfl⟩)
      go_ret2
      refine ⟨rfl, .inr ⟨fun j hj => ?_, rfl⟩⟩
      rcases Nat.lt_or_ge j m with h1 | h1
      · exact HNO.out j hj h1
      · exact HW.out.top j (by omega)
end Go.Proofs.YtbnikoomgeaboaaDoor

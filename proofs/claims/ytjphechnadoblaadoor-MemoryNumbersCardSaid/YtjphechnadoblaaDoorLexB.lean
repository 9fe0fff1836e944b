/-
  Layer 13 (lexer): how long the identifier, and the digits, at a text's front are.
-/
import Derived.Test.YtjphechnadoblaaDoorLexA
namespace Go.Proofs.YtjphechnadoblaaDoor
open Go.RowKit

theorem nxt_high (w : World) (l : List UInt8) (pos : Nat) (c : UInt8) (h : l[pos]? = some c) :
    ∃ (r : Int) (k : Nat), (∀ ty, (Instr.next (.pointer (some ⟨w.heap.size, 0, none⟩)) true ty).run Tryd.prog (w.iter (Bs l) pos) = .ok (.tuple #[.bool true, .int .i64 pos, .int .i32 r]) (w.iter (Bs l) (pos + k))) ∧ 1 ≤ k ∧
      ((c.toNat < 128 ∧ r = c.toNat ∧ k = 1) ∨ (128 ≤ c.toNat ∧ 128 ≤ r)) := by
  obtain ⟨hlt, hc⟩ := List.getElem?_eq_some_iff.1 h
  have hs : pos < (Bs l).size := by rw [Bs_size]; exact hlt
  have hg : (Bs l)[pos]'hs = c := by rw [Bs_get, hc]
  refine ⟨_, _, fun ty => run_next_any w (Bs l) pos ty hs, ?_, ?_⟩
  · by_cases ha : ((Bs l)[pos]'hs).toNat < 128
    · rw [decode_ascii _ pos hs ha]; omega
    · exact (decode_high _ pos hs (by omega)).2
  · by_cases ha : ((Bs l)[pos]'hs).toNat < 128
    · rw [decode_ascii _ pos hs ha, hg]
      rw [hg] at ha
      exact .inl ⟨ha, rfl, rfl⟩
    · have := (decode_high _ pos hs (by omega)).1
      rw [hg] at ha
      exact .inr ⟨by omega, by omega⟩
theorem nxt_end (w : World) (l : List UInt8) (pos : Nat) (h : l.length ≤ pos) (ty : TypeId) :
    (Instr.next (.pointer (some ⟨w.heap.size, 0, none⟩)) true ty).run Tryd.prog (w.iter (Bs l) pos) = .ok (.tuple #[.bool false]) (w.iter (Bs l) pos) :=
  run_next_end w (Bs l) pos ty (by rw [Bs_size]; omega)
theorem below_iter (w : World) (s : ByteArray) (p : Nat) : Below w.heap.size w (w.iter s p) := (Below.refl _ _).alloc (Nat.le_refl _) _

set_option maxRecDepth 100000 in
theorem identLength_any (l : List UInt8) (hm : l.length ≤ 1000000) (w : World) : Calls Tryd.prog 95 #[.string (Bs l)] w fun e w' => e = .returned (.int .i64 (identLen l : Int)) ∧ Below w.heap.size w w' := by
  have hlen := lenS l (by unfold maxLen; omega)
  go_enter Tryd.func95, Tryd.ntmps95
  go_wp2
  go_loopw [] (fun wr => ∃ pos, wr = w.iter (Bs l) pos ∧ IdTo l pos) (fun wr => l.length - wr.iterPos w.heap.size)
  case atStart => exact ⟨0, rfl, IdTo.zero _⟩
  case round =>
    obtain ⟨pos, rfl, hI⟩ := hrel
    rcases Nat.lt_or_ge pos l.length with hp | hp
    · obtain ⟨c, hc⟩ : ∃ c, l[pos]? = some c := ⟨_, List.getElem?_eq_getElem hp⟩
      obtain ⟨r, k, hnx, hk, hr⟩ := nxt_high w l pos c hc
      have hrl : isLet c = letZ r := by
        rcases hr with h1 | h1
        · rw [h1.2.1]; rfl
        · rw [high_let h1.2]; exact high_let (by omega)
      have hrd : isDig c = digZ r := by
        rcases hr with h1 | h1
        · rw [h1.2.1]; rfl
        · rw [high_dig h1.2]; exact high_dig (by omega)
      have go : letZ r = true ∨ (pos ≠ 0 ∧ digZ r = true) → k = 1 ∧ IdTo l (pos + 1) := fun h => by
        refine ⟨?_, hI.next hc (by rw [hrl, hrd]; exact h)⟩
        rcases hr with h1 | h1
        · exact h1.2.2
        · rw [high_let h1.2, high_dig h1.2] at h
          simp at h
      have stop : letZ r = false → (pos = 0 ∨ digZ r = false) → identLen l = pos := fun h1 h2 => hI.stop hc (by rw [hrl]; exact h1) (by rw [hrd]; exact h2)
      have hgo := hide go
      have hstop := hide stop
      clear hI hr hrl hrd go stop
      by_cases h1 : letZ r = true
      · obtain ⟨rfl, hi⟩ := hgo.out (.inl h1)
        have hN := hide hi
        clear hi hgo hstop
        go_wp2_with (first | (go_at_call 112; refine (startsIdent_any _ _).mono ?_; rintro en w' ⟨rfl, rfl⟩) | (go_at_call 113; refine (isDigit_any _ _).mono ?_; rintro en w' ⟨rfl, rfl⟩))
        go_roundw
        case rel => exact ⟨pos + 1, rfl, hN.out⟩
        case measure => simp; omega
      · have h1' : letZ r = false := by simpa using h1
        clear h1
        by_cases h0 : pos = 0
        · have hN : Hid (identLen l = 0) := by rw [← h0]; exact hstop.out h1' (.inl h0)
          clear hgo hstop
          subst h0
          go_wp2_with (first | (go_at_call 112; refine (startsIdent_any _ _).mono ?_; rintro en w' ⟨rfl, rfl⟩) | (go_at_call 113; refine (isDigit_any _ _).mono ?_; rintro en w' ⟨rfl, rfl⟩))
          go_ret
          exact ⟨by rw [hN.out]; rfl, below_iter _ _ _⟩
        · by_cases h2 : digZ r = true
          · obtain ⟨rfl, hi⟩ := hgo.out (.inr ⟨h0, h2⟩)
            have hN := hide hi
            clear hi hgo hstop
            go_wp2_with (first | (go_at_call 112; refine (startsIdent_any _ _).mono ?_; rintro en w' ⟨rfl, rfl⟩) | (go_at_call 113; refine (isDigit_any _ _).mono ?_; rintro en w' ⟨rfl, rfl⟩))
            go_roundw
            case rel => exact ⟨pos + 1, rfl, hN.out⟩
            case measure => simp; omega
          · have h2' : digZ r = false := by simpa using h2
            clear h2
            have hN : Hid (identLen l = pos) := hstop.out h1' (.inr h2')
            clear hgo hstop
            go_wp2_with (first | (go_at_call 112; refine (startsIdent_any _ _).mono ?_; rintro en w' ⟨rfl, rfl⟩) | (go_at_call 113; refine (isDigit_any _ _).mono ?_; rintro en w' ⟨rfl, rfl⟩))
            go_ret
            exact ⟨by rw [hN.out]; rfl, below_iter _ _ _⟩
    · have hpl : pos = l.length := by have := hI.1.1; omega
      have hN : Hid (identLen l = l.length) := by subst hpl; exact hI.all
      have hnx := nxt_end w l pos hp
      clear hI hpl
      go_wp2
      go_ret
      exact ⟨by rw [hN.out]; rfl, below_iter _ _ _⟩
end Go.Proofs.YtjphechnadoblaaDoor

/-
  Layer 12 (opcode): sets of types; all.
-/
import Derived.Test.YtnhaanjpcnnifaaDoorOpC
namespace Go.Proofs.YtnhaanjpcnnifaaDoor
open Go.RowKit

theorem Rd.at {w : World} {A : Option Addr} {c : Nat} {l : List Int} (h : Rd w .i64 (.slice A l.length c) l) (hn : 0 < l.length) : ∃ b off, A = some ⟨b, off, none⟩ ∧ ∀ (j : Nat) (z : Int), l[j]? = some z → w.cell? ⟨b, off + j, none⟩ = some (.int .i64 z) := by
  obtain ⟨A', c', e, _, _, hr⟩ := h
  simp only [Value.slice.injEq, true_and] at e
  obtain ⟨rfl, rfl⟩ := e
  obtain ⟨b, off, e, _, hc⟩ := hr hn
  exact ⟨b, off, e, hc⟩
theorem bit0 : ∀ s : Nat, s < 256 → (bits BinOp.and IntKind.u8 (s : Int) 1 == 1) = hasB s 0 := by decide +kernel
theorem bit1 : ∀ s : Nat, s < 256 → (bits BinOp.and IntKind.u8 ((s : Int) / 2) 1 == 1) = hasB s 1 := by decide +kernel
theorem bit2 : ∀ s : Nat, s < 256 → (bits BinOp.and IntKind.u8 ((s : Int) / 4) 1 == 1) = hasB s 2 := by decide +kernel
theorem bit3 : ∀ s : Nat, s < 256 → (bits BinOp.and IntKind.u8 ((s : Int) / 8) 1 == 1) = hasB s 3 := by decide +kernel
theorem bit4 : ∀ s : Nat, s < 256 → (bits BinOp.and IntKind.u8 ((s : Int) / 16) 1 == 1) = hasB s 4 := by decide +kernel
theorem bit5 : ∀ s : Nat, s < 256 → (bits BinOp.and IntKind.u8 ((s : Int) / 32) 1 == 1) = hasB s 5 := by decide +kernel
theorem bit6 : ∀ s : Nat, s < 256 → (bits BinOp.and IntKind.u8 ((s : Int) / 64) 1 == 1) = hasB s 6 := by decide +kernel
theorem bit7 : ∀ s : Nat, s < 256 → (bits BinOp.and IntKind.u8 ((s : Int) / 128) 1 == 1) = hasB s 7 := by decide +kernel
theorem has_any (s : Nat) (hs : s < 256) (t : Int) (w : World) : Calls Tryd.prog 64 #[.int .u8 (s : Int), .int .i64 t] w fun e w' => e = .returned (.bool (hasB s t)) ∧ w = w' := by
  rcases types8 t with rfl | rfl | rfl | rfl | rfl | rfl | rfl | rfl | h
  · go_enter Tryd.func64, Tryd.ntmps64
    go_wp2_with fail
    go_ret
    exact ⟨by rw [bit0 s hs]; rfl, rfl⟩
  · go_enter Tryd.func64, Tryd.ntmps64
    go_wp2_with fail
    go_ret
    exact ⟨by rw [bit1 s hs]; rfl, rfl⟩
  · go_enter Tryd.func64, Tryd.ntmps64
    go_wp2_with fail
    go_ret
    exact ⟨by rw [bit2 s hs]; rfl, rfl⟩
  · go_enter Tryd.func64, Tryd.ntmps64
    go_wp2_with fail
    go_ret
    exact ⟨by rw [bit3 s hs]; rfl, rfl⟩
  · go_enter Tryd.func64, Tryd.ntmps64
    go_wp2_with fail
    go_ret
    exact ⟨by rw [bit4 s hs]; rfl, rfl⟩
  · go_enter Tryd.func64, Tryd.ntmps64
    go_wp2_with fail
    go_ret
    exact ⟨by rw [bit5 s hs]; rfl, rfl⟩
  · go_enter Tryd.func64, Tryd.ntmps64
    go_wp2_with fail
    go_ret
    exact ⟨by rw [bit6 s hs]; rfl, rfl⟩
  · go_enter Tryd.func64, Tryd.ntmps64
    go_wp2_with fail
    go_ret
    exact ⟨by rw [bit7 s hs]; rfl, rfl⟩
  · rw [has_out h]
    by_cases h0 : 0 ≤ t
    · have g0 : decide ((0 : Int) ≤ t) = true := by simpa using h0
      have g7 : decide (t ≤ 7) = false := by simp; omega
      clear h h0
      go_enter Tryd.func64, Tryd.ntmps64
      go_wp2_with fail
      go_ret
      exact ⟨rfl, rfl⟩
    · have g0 : decide ((0 : Int) ≤ t) = false := by simpa using h0
      clear h h0
      go_enter Tryd.func64, Tryd.ntmps64
      go_wp2_with fail
      go_ret
      exact ⟨rfl, rfl⟩
set_option maxRecDepth 100000 in
theorem all_any (A : Option Addr) (c : Nat) (l : List Int) (t : Int) (w : World) (hm : l.length ≤ 1000000) (hl : Rd w .i64 (.slice A l.length c) l) : Calls Tryd.prog 114 #[.slice A l.length c, .int .i64 t] w fun e w' => e = .returned (.bool (allB l t)) ∧ w = w' := by
  obtain ⟨R, hR⟩ : ∃ R, allB l t = R := ⟨_, rfl⟩
  rw [hR]
  have HR := hide hR
  clear hR
  go_enter Tryd.func114, Tryd.ntmps114
  go_wp2_with fail
  go_loop [9] (fun v => ∃ k : Nat, v = .int .i64 (k : Int) ∧ k ≤ l.length ∧ ∀ z ∈ l.take k, z = t) (fun v => l.length - (intOf v).toNat)
  case atStart => exact ⟨0, rfl, by omega, by simp⟩
  case round =>
    obtain ⟨k, rfl, hk, hI⟩ := hrel
    rcases Nat.lt_or_ge k l.length with hlt | hge
    · obtain ⟨z, hz⟩ : ∃ z, l[k]? = some z := ⟨_, List.getElem?_eq_getElem hlt⟩
      obtain ⟨b, off, rfl, hc⟩ := Rd.at hl (by omega)
      have hcell := hc k z hz
      have htake : l.take (k + 1) = l.take k ++ [z] := by rw [List.take_add_one, hz]; rfl
      clear hl hc
      by_cases he : z = t
      · have g : (z != t) = false := by simp [he]
        have hnext : ∀ y ∈ l.take (k + 1), y = t := fun y hy => by
          rw [htake] at hy
          rcases List.mem_append.1 hy with h | h
          · exact hI y h
          · simp at h; exact h.trans he
        clear hI htake he hz
        go_wp2_with fail
        all_goals first | rfl | exact ⟨⟨k + 1, by go_num, by omega, hnext⟩, by simp [intOf]; omega⟩
      · have g : (z != t) = true := by simp [he]
        have hres : allB l t = false := by
          simp only [allB, List.all_eq_false]
          exact ⟨z, List.mem_of_getElem? hz, by simpa using he⟩
        obtain rfl := hres.symm.trans HR.out
        clear hI htake he hz hres
        go_wp2_with fail
        go_ret
        exact ⟨rfl, rfl⟩
    · have hres : allB l t = true := by
        rw [List.take_of_length_le (by omega)] at hI
        simp only [allB, List.all_eq_true]
        exact fun y hy => by simpa using hI y hy
      obtain rfl := hres.symm.trans HR.out
      clear hI hl hres
      go_wp2_with fail
      go_ret
      exact ⟨rfl, rfl⟩
end Go.Proofs.YtnhaanjpcnnifaaDoor

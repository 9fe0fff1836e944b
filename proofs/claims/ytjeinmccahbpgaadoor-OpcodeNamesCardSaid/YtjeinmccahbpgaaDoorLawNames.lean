/-
  OpcodeNames, layer 12 (opcode).
-/
import Derived.Test.YtjeinmccahbpgaaDoorOpN
namespace Go.Proofs.YtjeinmccahbpgaaDoor
open Go.RowKit

theorem names_back : ∀ k : Nat, k < 34 → 1 ≤ k → lookM (nameM (k : Int)) = some k ∧ nameM (k : Int) ≠ [] := by decide
theorem types_back : ∀ k : Nat, k < 8 → tlookM (tnameM (k : Int)) = some k ∧ tnameM (k : Int) ≠ [] := by decide
set_option maxRecDepth 100000 in
set_option maxHeartbeats 4000000 in
theorem names_law (w : World) (hT : Tab w) (hO : OpTab w) : Calls Tryd.prog 11 #[] w fun e w' => e = .returned (.bool true) ∧ Below w.heap.size w w' := by
  go_enter Tryd.func11, Tryd.ntmps11
  go_wp2_with fail
  refine (awake_any w hT hO).mono ?_
  rintro en w1 ⟨rfl, hb⟩
  have HB := hide hb
  have HO := hide (hO.below hb)
  clear hT hO hb
  go_wp2_with fail
  go_loop [1] (fun v => ∃ k : Nat, v = .int .i64 (k : Int) ∧ 1 ≤ k ∧ k ≤ 34) (fun v => 34 - (intOf v).toNat)
  case atStart => exact ⟨1, rfl, by omega, by omega⟩
  case round =>
    obtain ⟨k, rfl, h1, h2⟩ := hrel
    rcases Nat.lt_or_ge k 34 with hlt | hge
    · obtain ⟨e1, e2⟩ := names_back k hlt h1
      have g1 : decide ((k : Int) ≤ 33) = true := by simp; omega
      obtain ⟨nm, hnm⟩ : ∃ nm, nameM (k : Int) = nm := ⟨_, rfl⟩
      rw [hnm] at e1 e2
      have hq : nm.isEmpty = false := by cases nm with | nil => exact absurd rfl e2 | cons _ _ => rfl
      have HN := hide (fun W h => xn (k : Int) nm hnm W h)
      have HL : Hid (∀ W, OpTab W → Calls Tryd.prog 32 #[.string ⟨nm.toArray⟩] W fun e w' => e = .returned (.tuple #[.int .i64 (k : Int), .bool true]) ∧ W = w') := hide (fun W h => by
        have := look_s nm W h
        rw [e1] at this; exact this)
      have hkk : ((k : Int) != (k : Int)) = false := by simp
      clear e1 e2 hnm
      go_wp2_with fail
      refine (HN.out _ HO.out).mono ?_
      rintro en wn ⟨rfl, rfl⟩
      go_wp2_with fail
      refine (HL.out _ HO.out).mono ?_
      rintro en wn ⟨rfl, rfl⟩
      go_wp2_with fail
      refine (HN.out _ HO.out).mono ?_
      rintro en wn ⟨rfl, rfl⟩
      go_wp2_with fail
      go_round
      case rel => exact ⟨k + 1, by go_num, by omega, by omega⟩
      case measure => simp [intOf]; omega
    · obtain rfl : k = 34 := by omega
      go_wp2_with fail
      go_loop [4] (fun v => ∃ k : Nat, v = .int .i64 (k : Int) ∧ k ≤ 8) (fun v => 8 - (intOf v).toNat)
      case atStart => exact ⟨0, rfl, by omega⟩
      case round =>
        obtain ⟨k, rfl, h2⟩ := hrel
        rcases Nat.lt_or_ge k 8 with hlt | hge
        · obtain ⟨e1, e2⟩ := types_back k hlt
          have g1 : decide ((k : Int) ≤ 7) = true := by simp; omega
          obtain ⟨nm, hnm⟩ : ∃ nm, tnameM (k : Int) = nm := ⟨_, rfl⟩
          rw [hnm] at e1 e2
          have hq : nm.isEmpty = false := by cases nm with | nil => exact absurd rfl e2 | cons _ _ => rfl
          have HN := hide (fun W h => xtn (k : Int) nm hnm W h)
          have HL : Hid (∀ W, OpTab W → Calls Tryd.prog 34 #[.string ⟨nm.toArray⟩] W fun e w' => e = .returned (.tuple #[.int .i64 (k : Int), .bool true]) ∧ W = w') := hide (fun W h => by
            have := tlook_s nm W h
            rw [e1] at this; exact this)
          have hkk : ((k : Int) != (k : Int)) = false := by simp
          clear e1 e2 hnm
          go_wp2_with fail
          refine (HN.out _ HO.out).mono ?_
          rintro en wn ⟨rfl, rfl⟩
          go_wp2_with fail
          refine (HL.out _ HO.out).mono ?_
          rintro en wn ⟨rfl, rfl⟩
          go_wp2_with fail
          refine (HN.out _ HO.out).mono ?_
          rintro en wn ⟨rfl, rfl⟩
          go_wp2_with fail
          go_round
          case rel => exact ⟨k + 1, by go_num, by omega⟩
          case measure => simp [intOf]; omega
        · obtain rfl : k = 8 := by omega
          go_wp2_with fail
          go_ret
          exact ⟨rfl, HB.out⟩
end Go.Proofs.YtjeinmccahbpgaaDoor

/-
  Hash of layer 4 (intern), and the document's.
-/
import Derived.Test.YtcenbpjkndhlgaaTable
import Derived.Test.YtcenbpjkndhlgaaFnv
namespace Go.Proofs.Ytcenbpjkndhlgaa
open Go.RowKit

theorem hash_any (v : Value) (l : List Int) (w : World) (h : Rd w .u8 v l) (hb : Byt l) :
    Calls Try.prog 17 #[v] w fun en w' => en = .returned (.int .u64 (fnv l)) ∧ w = w' := by
  obtain ⟨A, c, rfl, hc, hm, hr⟩ := h
  have hc9 : c ≤ 9223372036854775807 := by unfold maxLen at hm; omega
  go_enter Try.func17, Try.ntmps17
  go_wp2_with fail
  go_loop [3, 7] (fun h i => ∃ (k : Nat), k ≤ l.length ∧ i = .int .i64 k ∧ h = .int .u64 (fnv (l.take k))) (fun _ i => l.length - (intOf i).toNat)
  case atStart => exact ⟨0, Nat.zero_le _, rfl, rfl⟩
  case round =>
    obtain ⟨k, hk, rfl, rfl⟩ := hrel
    by_cases hlt : k < l.length
    · obtain ⟨b, off, rfl, hbl, hcell⟩ := hr (by omega)
      obtain ⟨x, hx⟩ : ∃ x, l[k]? = some x := ⟨_, List.getElem?_eq_getElem hlt⟩
      have hcx := hcell k x hx
      have HX := hide hx
      have HB := hide hb
      clear hx hcell hr hb
      have hlt' : (k : Int) < l.length := by omega
      go_wp2_with fail
      go_round
      case rel =>
        have hx' := HB.out x (List.mem_of_getElem? HX.out)
        refine ⟨k + 1, by omega, by go_num, ?_⟩
        rw [List.take_add_one, HX.out, fstep_model _ (fnv_lt _) _ hx', ← fnv_snoc]
        rfl
      case measure => simp [intOf]; omega
    · obtain rfl : k = l.length := by omega
      go_wp2_with fail
      go_ret
      exact ⟨rfl, rfl⟩
end Go.Proofs.Ytcenbpjkndhlgaa

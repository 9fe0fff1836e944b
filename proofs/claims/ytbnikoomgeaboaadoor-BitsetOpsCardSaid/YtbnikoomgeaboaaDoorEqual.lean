/-
  Equal of two sets, layer 3 (bitset).
-/
import Derived.Test.YtbnikoomgeaboaaDoorClone
namespace Go.Proofs.YtbnikoomgeaboaaDoor
open Go.RowKit

theorem frm_below {w w' : World} (h : Below w.heap.size w w') : Frm w w' [] := Frm.below h

set_option maxHeartbeats 1000000 in
theorem equal_set (w : World) (B C n m : Nat) (ws vs : List Nat) (h : SetAt w B n ws) (k : SetAt w C m vs) :
    Calls Tryd.prog 27 #[.pointer (some ⟨B + 1, 0, none⟩), .pointer (some ⟨C + 1, 0, none⟩)] w fun en w' => en = .returned (.bool (decide (n = m ∧ ws = vs))) ∧ Frm w w' [] := by
  have HV := hide (valid_set w B n ws h)
  have KV := hide (valid_set w C m vs k)
  have c0 := h.2.1.cell 0
  have c1 := h.2.1.cell 1
  have d0 := k.2.1.cell 0
  have d1 := k.2.1.cell 1
  have hn := h.2.2.2
  have hm := k.2.2.2
  have HQ := hide (eqWords _ _ _ _ w.drew (show Rd w.drew .u64 _ _ from h.rd) (show Rd w.drew .u64 _ _ from k.rd))
  clear h k
  by_cases e : n = m
  · subst e
    have t : ((n : Int) == (n : Int)) = true := by simp
    go_enter Tryd.func27, Tryd.ntmps27
    go_wp2_with fail
    refine HV.out.mono ?_
    rintro en w' ⟨rfl, rfl⟩
    go_wp2_with fail
    refine KV.out.mono ?_
    rintro en w' ⟨rfl, rfl⟩
    go_wp2_with fail
    go_still_tail 18, (by kernel_rfl)
    change wpList _ _ _ _ _ w.drew
    go_wp2_with fail
    refine HQ.out.mono ?_
    rintro en w1 ⟨rfl, hb⟩
    go_wp2_with fail
    go_ret
    refine ⟨?_, (Frm.drew w []).trans (Frm.below hb)⟩
    have e2 : (ws.map fun (x : Nat) => (x : Int)) = (vs.map fun (x : Nat) => (x : Int)) ↔ ws = vs := by
      refine ⟨fun h => ?_, fun h => by rw [h]⟩
      have := congrArg (List.map Int.toNat) h
      simpa [List.map_map, Function.comp_def] using this
    simp [e2]
  · have t : ((n : Int) == (m : Int)) = false := by rw [beq_eq_false_iff_ne]; omega
    go_enter Tryd.func27, Tryd.ntmps27
    go_wp2_with fail
    refine HV.out.mono ?_
    rintro en w' ⟨rfl, rfl⟩
    go_wp2_with fail
    refine KV.out.mono ?_
    rintro en w' ⟨rfl, rfl⟩
    go_wp2_with fail
    go_quiet (fail)
    go_wp2_with fail
    go_ret
    refine ⟨?_, (Frm.refl w []).drewN _⟩
    simp [e]
end Go.Proofs.YtbnikoomgeaboaaDoor

/-
  Clone and Equal, layer 3 (bitset).
-/
import Derived.Test.YtbnikoomgeaboaaDoorNew
import Derived.Test.YtbnikoomgeaboaaDoorEq
import Derived.Laws.CopyOwn
namespace Go.Proofs.YtbnikoomgeaboaaDoor
open Go.RowKit

theorem SetAt.rd {w : World} {B n : Nat} {ws : List Nat} (h : SetAt w B n ws) : Rd w .u64 (.slice (some ⟨B, 0, none⟩) ws.length ws.length) (ws.map fun (x : Nat) => (x : Int)) := by
  have hl : ws.length ≤ maxLen := by have := h.2.2.1.len; have := h.2.2.2; unfold maxLen; omega
  refine ⟨_, ws.length, by rw [List.length_map], by rw [List.length_map]; exact Nat.le_refl _, hl, fun _ => ⟨B, 0, rfl, h.1.lt, fun j z hz => ?_⟩⟩
  rw [List.getElem?_map] at hz
  obtain ⟨x, hx, rfl⟩ := Option.map_eq_some_iff.1 hz
  rw [Nat.zero_add, h.1.cell, wcells_get, hx]; rfl

theorem clone_set (w : World) (B n : Nat) (ws : List Nat) (h : SetAt w B n ws) :
    Calls Tryd.prog 24 #[.pointer (some ⟨B + 1, 0, none⟩)] w fun en w' => en = .returned (.pointer (some ⟨w.heap.size + 1, 0, none⟩)) ∧ SetAt w' w.heap.size n ws ∧ Frm w w' [] := by
  have HV := hide (valid_set w B n ws h)
  have c0 := h.2.1.cell 0
  have HH := hide h
  have hlen := h.2.2.1.len
  have h65 := h.2.2.2
  have hlt := h.lt
  clear h
  go_enter Tryd.func24, Tryd.ntmps24
  go_wp2_with (go_at_call 41; refine HV.out.mono ?_; rintro en w' ⟨rfl, rfl⟩)
  refine (new_set n w h65).mono ?_
  rintro en w1 ⟨rfl, hS1, hf1⟩
  have d1 := hS1.2.1.cell 1
  have hH1 := HH.out.frm hf1 (by simp) (by simp)
  have e1 := hH1.2.1.cell 1
  have HX := hide (And.intro hS1 (And.intro hH1 hf1))
  clear hS1 hH1 hf1 HV HH c0
  go_wp2_with fail
  go_still_tail 8, (by kernel_rfl)
  change wpList _ _ _ _ _ w1.drew
  obtain ⟨hS1, hH1, hf1⟩ := HX.out
  have hsz : (Tryd.prog.info? 58).map (·.size) = some 1 := by kernel_rfl
  rcases Nat.eq_zero_or_pos ws.length with h0 | h0
  · have hw0 : ws = [] := List.eq_nil_of_length_eq_zero h0
    refine wpList_copy_nothing rfl (.tmp 15) (.tmp 19) 46 46 rfl 58 Tryd.underlying46 hsz (some ⟨w.heap.size, 0, none⟩) (some ⟨B, 0, none⟩) _ _ _ _ rfl rfl (by rw [show (n + 63) / 64 = 0 by omega]; rfl) ?_
    have hz : (n + 63) / 64 = 0 := by omega
    go_wp2_with fail
    go_ret
    refine ⟨rfl, ?_, hf1.trans (Frm.drew _ _)⟩
    rw [hz] at hS1
    rw [hw0]
    exact hS1
  · refine wpList_copy_own rfl (.tmp 15) (.tmp 19) 46 46 rfl 58 Tryd.underlying46 hsz w.heap.size 0 _ _ ⟨B, 0, none⟩ _ _ rfl rfl _ 58 hS1.1 (ws.map fun (x : Nat) => Value.int .u64 (x : Int)) ?_ ?_ ?_ ?_ ?_
    · simp [hlen]
    · intro j v hj
      rw [List.getElem?_map] at hj
      obtain ⟨x, hx, rfl⟩ := Option.map_eq_some_iff.1 hj
      have := hH1.1.cell j
      rw [wcells_get, hx] at this
      rw [Go.WideShapes.add_plain, Nat.zero_add]
      exact this
    · rw [wcells_size]; simp [hlen]
    · intro v hv
      simp only [List.mem_map] at hv
      obtain ⟨x, _, rfl⟩ := hv
      rfl
    · have hrow : ((wcells (List.replicate ((n + 63) / 64) 0)).toList.take 0 ++ ((ws.map fun (x : Nat) => Value.int .u64 (x : Int)) ++ (wcells (List.replicate ((n + 63) / 64) 0)).toList.drop (0 + (ws.map fun (x : Nat) => Value.int .u64 (x : Int)).length))).toArray = wcells ws := by
        rw [List.take_zero, List.nil_append, List.drop_eq_nil_of_le (by simp [wcells, hlen]), List.append_nil]
        rfl
      rw [hrow]
      have k1 : Whole (w1.drew.setRow w.heap.size (wcells ws)) w.heap.size 58 (wcells ws) := setRow_heap w1.drew w.heap.size _ _ 58 _ hS1.1
      have k2 : Whole (w1.drew.setRow w.heap.size (wcells ws)) (w.heap.size + 1) 48 _ := (setRow_other w1.drew w.heap.size (w.heap.size + 1) (wcells ws) (by omega)).trans hS1.2.1
      have k3 : Frm w (w1.drew.setRow w.heap.size (wcells ws)) [] := (hf1.trans (Frm.drew _ _)).trans' (T := [w.heap.size]) ⟨rfl, rfl, rfl, by simp [World.setRow], fun i _ hi => setRow_other w1.drew w.heap.size i (wcells ws) (by simpa using hi)⟩ (fun g hg => .inr (by simp at hg; omega))
      rw [List.length_replicate, ← hlen] at k2
      have HK := hide (And.intro k1 (And.intro k2 k3))
      have HW := hide hH1.2.2.1
      clear k1 k2 k3 hS1 hH1 hf1 HX
      go_wp2_with fail
      go_ret
      exact ⟨rfl, ⟨HK.out.1, HK.out.2.1, HW.out, h65⟩, HK.out.2.2⟩
end Go.Proofs.YtbnikoomgeaboaaDoor

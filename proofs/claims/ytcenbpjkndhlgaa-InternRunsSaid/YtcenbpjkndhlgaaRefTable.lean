/-
  The document's table of layer 4 (intern): a list that is searched from the front.
-/
import Derived.Test.YtcenbpjkndhlgaaState
import Derived.Deep.RegionWith
namespace Go.Proofs.Ytcenbpjkndhlgaa
open Go.RowKit Go.Maps

/-- THE DOCUMENT's TABLE behind a pointer: itself in block g, its keys in a row of its own; F: the blocks that it uses. -/
def RefAt (w : World) (g : Nat) (F : List Nat) (n : Int) (ks : List (List Int)) : Prop :=
  ∃ kv, Whole w g 49 #[.int .i64 n, kv, .bool true] ∧ OwnV w (g + 1) 9 kv (strs ks) ∧ F = g :: kv.ownBlock.toList
theorem RefAt.frm {w w' : World} {g : Nat} {F S : List Nat} {n : Int} {ks : List (List Int)} (h : RefAt w g F n ks) (hf : Frm w w' S) (hs : ∀ g' ∈ F, g' ∉ S) : RefAt w' g F n ks := by
  obtain ⟨kv, h1, h2, rfl⟩ := h
  exact ⟨kv, h1.frm hf (hs _ (by simp)), h2.frm hf (fun g' hg => hs g' (by simp [hg])), rfl⟩
theorem RefAt.lt {w : World} {g : Nat} {F : List Nat} {n : Int} {ks : List (List Int)} (h : RefAt w g F n ks) : ∀ g' ∈ F, g ≤ g' ∧ g' < w.heap.size := by
  obtain ⟨kv, h1, h2, rfl⟩ := h
  have := h1.lt
  intro g' hg
  simp only [List.mem_cons, Option.mem_toList] at hg
  rcases hg with rfl | hg
  · omega
  · have := h2.size g' hg; omega

theorem rnew_any (n : Int) (w : World) :
    Calls Try.prog 8 #[.int .i64 n] w fun en w' => en = .returned (.pointer (some ⟨w.heap.size, 0, none⟩)) ∧ RefAt w' w.heap.size [w.heap.size] (clamp n) [] ∧ Frm w w' [] := by
  have fin : ∀ m, RefAt (w.alloc (.cells #[.int .i64 m, .slice none 0 0, .bool true] 49)) w.heap.size [w.heap.size] m [] := fun m => ⟨_, Whole.new w _ _, OwnV.nil, rfl⟩
  go_enter Try.func8, Try.ntmps8
  go_wp2_with fail
  · go_ret
    refine ⟨rfl, ?_, (Frm.refl w []).alloc _⟩
    have e : clamp n = 0 := by unfold clamp; rw [if_pos (by assumption)]
    rw [e]; exact fin 0
  · go_ret
    refine ⟨rfl, ?_, (Frm.refl w []).alloc _⟩
    have e : clamp n = 65536 := by unfold clamp; rw [if_neg (by omega), if_pos (by omega)]
    rw [e]; exact fin 65536
  · go_ret
    refine ⟨rfl, ?_, (Frm.refl w []).alloc _⟩
    have e : clamp n = n := by unfold clamp; rw [if_neg (by omega), if_neg (by omega)]
    rw [e]; exact fin n

theorem rlen_any (w : World) (g : Nat) (F : List Nat) (n : Int) (ks : List (List Int)) (h : RefAt w g F n ks) :
    Calls Try.prog 10 #[.pointer (some ⟨g, 0, none⟩)] w fun en w' => en = .returned (.int .i64 ks.length) ∧ w = w' := by
  obtain ⟨kv, h1, h2, _⟩ := h
  obtain ⟨A, c, rfl, hc, hm, _⟩ := h2.rd
  have hc9 : c ≤ 9223372036854775807 := by unfold maxLen at hm; omega
  have hlen : (strs ks).length = ks.length := by simp [strs]
  rw [hlen] at h1 hc
  have c1 := h1.cell 1
  clear h2
  go_enter Try.func10, Try.ntmps10
  go_wp2_with fail
  go_ret
  exact ⟨rfl, rfl⟩

theorem rfind_any (w : World) (g : Nat) (F : List Nat) (n : Int) (ks : List (List Int)) (h : RefAt w g F n ks) (hk : Keys ks) (kv : Value) (l : List Int) (hl : Rd w .u8 kv l) (hb : Byt l) :
    Calls Try.prog 14 #[.pointer (some ⟨g, 0, none⟩), kv] w fun en w' => en = .returned (.tuple #[.int .i64 (pos ks l), .bool (decide (l ∈ ks))]) ∧ Frm w w' [] := by
  have HT := hide h
  have HL := hide hl
  have HK := hide hk
  have HB := hide hb
  have hk9 := hk.len
  clear h hl hk hb
  go_enter Try.func14, Try.ntmps14
  go_wp2_with fail
  go_loopw [6] (fun i wr => ∃ j : Nat, j ≤ ks.length ∧ i = .int .i64 j ∧ Frm w wr [] ∧ l ∉ ks.take j) (fun i _ => ks.length - (intOf i).toNat)
  case atStart => exact ⟨0, Nat.zero_le _, rfl, Frm.refl _ _, by simp⟩
  case round =>
    obtain ⟨wq, rfl⟩ : ∃ x, x = wr := ⟨_, rfl⟩
    obtain ⟨j, hj, rfl, hf, hno⟩ := hrel
    obtain ⟨rv, h1, h2, _⟩ := HT.out.frm hf (fun _ _ => by simp)
    obtain ⟨A, c, rfl, hc, hm, hr⟩ := h2.rd
    have hc9 : c ≤ 9223372036854775807 := by unfold maxLen at hm; omega
    have hlen : (strs ks).length = ks.length := by simp [strs]
    rw [hlen] at h1 hc hr
    have c1 := h1.cell 1
    have HF := hide hf
    have HNO := hide hno
    have hll := HL.out.below' (hf.toBelow (fun _ h => (by cases h)) (Nat.le_refl _))
    clear h2 hf hno
    by_cases hjl : j < ks.length
    · obtain ⟨b, off, rfl, hbl, hcell⟩ := hr (by omega)
      obtain ⟨k, hkj⟩ : ∃ k, ks[j]? = some k := ⟨_, List.getElem?_eq_getElem hjl⟩
      have hck := hcell j (.string (strOfNums k)) (by unfold strs; rw [List.getElem?_map, hkj]; rfl)
      have hjl' : (j : Int) < ks.length := by omega
      have hconv := run_convert_rd (P := Try.prog) wq.drew 29 9 5 Try.underlying29 Try.underlying5 Try.underlying9 (show Rd wq.drew .u8 kv l from hll)
      have HKJ := hide hkj
      clear hcell hr hkj hll
      by_cases e : k = l
      · subst e
        go_wp2_with fail
        go_region
        all_goals go_wp2_with fail
        all_goals go_ret2
        all_goals
          have hkm := List.mem_of_getElem? HKJ.out
          have hp : pos ks k = j := by
            unfold pos
            rw [if_pos hkm]
            have h1 := HK.out.nodup.idxOf_getElem j hjl
            have h2 := HKJ.out
            rw [List.getElem?_eq_getElem hjl] at h2
            injection h2 with h2
            rw [h2] at h1
            rw [h1]
          rw [hp, decide_eq_true hkm]
          exact ⟨rfl, HF.out.drewN _⟩
      · have t1 := str_ne (HK.out.byt k (List.mem_of_getElem? HKJ.out)) HB.out e
        go_wp2_with fail
        go_region
        all_goals go_wp2_with fail
        all_goals
          go_roundw
          · exact ⟨j + 1, by omega, by go_num, HF.out.drewN _, by rw [List.take_add_one, HKJ.out]; simp [HNO.out, Ne.symm e]⟩
          · simp [intOf]; omega
    · obtain rfl : j = ks.length := by omega
      go_wp2_with fail
      go_ret2
      have hno : l ∉ ks := by have := HNO.out; rwa [List.take_length] at this
      have hp : pos ks l = 0 := by unfold pos; rw [if_neg hno]
      rw [hp, decide_eq_false hno]
      exact ⟨rfl, HF.out⟩
end Go.Proofs.Ytcenbpjkndhlgaa

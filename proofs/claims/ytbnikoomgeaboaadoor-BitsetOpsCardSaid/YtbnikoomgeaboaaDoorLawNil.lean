/-
  BitsetNil, layer 3 (bitset).
-/
import Derived.Test.YtbnikoomgeaboaaDoorAwake
import Derived.Test.YtbnikoomgeaboaaDoorNoneIter
namespace Go.Proofs.YtbnikoomgeaboaaDoor
open Go.RowKit

/-- A zero Set in block Z, the two pointers in block K, and whatever else holds and stays. -/
structure NilInv (P : World → Prop) (w W : World) (Z K : Nat) : Prop where
  z : NoSet W (.pointer (some ⟨Z, 0, none⟩))
  k0 : W.cell? ⟨K, 0, none⟩ = some (.pointer none)
  k1 : W.cell? ⟨K, 1, none⟩ = some (.pointer (some ⟨Z, 0, none⟩))
  k : K < W.heap.size
  tab : Tab W
  below : Below w.heap.size w W
  rest : P W
  keep : ∀ A B, Frm A B [] → P A → P B
theorem NilInv.frm {P : World → Prop} {w W W' : World} {Z K : Nat} (h : NilInv P w W Z K) (hf : Frm W W' []) : NilInv P w W' Z K :=
  ⟨h.z.frm hf, (hf.cell (p := ⟨K, 0, none⟩) h.k (by simp)).trans h.k0, (hf.cell (p := ⟨K, 1, none⟩) h.k (by simp)).trans h.k1, Nat.lt_of_lt_of_le h.k hf.size, h.tab.frm hf (by simp), h.below.trans (hf.toBelow (by simp) h.below.size), h.keep _ _ hf h.rest, h.keep⟩
theorem NilInv.bel {P : World → Prop} {w W W' : World} {Z K : Nat} (h : NilInv P w W Z K) (hb : Below W.heap.size W W') : NilInv P w W' Z K := h.frm (Frm.below hb)
theorem noNil (W : World) : NoSet W (.pointer none) := .inl rfl
/-- What the loop looks at. -/
theorem NilInv.at {P : World → Prop} {w W : World} {Z K : Nat} (h : NilInv P w W Z K) (k : Nat) (hk : k < 2) : ∃ px, W.cell? ⟨K, k, none⟩ = some (.pointer px) ∧ NoSet W (.pointer px) := by
  rcases k with _ | _ | k
  · exact ⟨_, h.k0, noNil W⟩
  · exact ⟨_, h.k1, h.z⟩
  · omega

set_option maxRecDepth 100000 in
set_option maxHeartbeats 1000000 in
theorem nil_big (n i : Int) (u : Value) (a : List Int) (w : World) (hT : Tab w) (ha : Rd w .i64 u a) (h : ¬ (n ≤ 2000 ∧ a.length ≤ 200)) :
    Calls Tryd.prog 6 #[.int .i64 n, .int .i64 i, u] w (LawDone w) := by
  obtain ⟨A, c, rfl, hc, -, -⟩ := ha
  have HA := hide (awake_any w hT)
  clear hT
  by_cases h2 : n > 2000
  · have h2' : 2000 < n := h2
    go_enter Tryd.func6, Tryd.ntmps6
    go_wp2_with fail
    refine HA.out.mono ?_
    rintro en w1 ⟨rfl, hB⟩
    go_wp2_with fail
    go_ret
    exact ⟨rfl, hB⟩
  · have h2' : ¬ (2000 < n) := h2
    have h3 : (200 : Int) < a.length := by omega
    go_enter Tryd.func6, Tryd.ntmps6
    go_wp2_with fail
    refine HA.out.mono ?_
    rintro en w1 ⟨rfl, hB⟩
    go_wp2_with fail
    go_ret
    exact ⟨rfl, hB⟩

theorem of_nil (n : Int) (hn : n < 0) (v : Value) (l : List Int) (w : World) (hl : Rd w .i64 v l) :
    Calls Tryd.prog 10 #[.int .i64 n, v] w fun en w' => en = .returned (.pointer none) ∧ Frm w w' [] := by
  obtain ⟨A, c, rfl, hc, hm, hr⟩ := hl
  have hc9 : c ≤ 9223372036854775807 := by unfold maxLen at hm; omega
  have HN := hide (new_nil n w (.inl hn))
  have HR := hide hr
  clear hr hm
  go_enter Tryd.func10, Tryd.ntmps10
  go_wp2_with (go_at_call 7; refine HN.out.mono ?_; rintro en w' ⟨rfl, rfl⟩)
  go_loopw [12] (fun i wr => ∃ k : Nat, k ≤ l.length ∧ i = .int .i64 k ∧ Frm w wr []) (fun i _ => l.length - (intOf i).toNat)
  case atStart => exact ⟨0, Nat.zero_le _, rfl, Frm.refl _ _⟩
  case round =>
    obtain ⟨wq, rfl⟩ : ∃ x, x = wr := ⟨_, rfl⟩
    obtain ⟨k, hk, rfl, hf⟩ := hrel
    have HF := hide hf
    clear hf
    by_cases hlt : k < l.length
    · obtain ⟨b, off, rfl, hbl, hcell⟩ := HR.out (by omega)
      obtain ⟨x, hx⟩ : ∃ x, l[k]? = some x := ⟨_, List.getElem?_eq_getElem hlt⟩
      have cx := (HF.out.cell (p := ⟨b, off + k, none⟩) hbl (by simp)).trans (hcell k x hx)
      have hlt' : (k : Int) < l.length := by omega
      clear hcell hx
      go_wp2_with (go_at_call 12; refine (add_no _ _ (noNil _) x).mono ?_; rintro en w' ⟨rfl, rfl⟩)
      go_roundw
      case rel => exact ⟨k + 1, by omega, by go_num, HF.out⟩
      case measure => simp [intOf]; omega
    · obtain rfl : k = l.length := by omega
      clear HR
      go_wp2_with fail
      go_ret
      exact ⟨rfl, HF.out⟩

theorem Rd.below2 {w w' : World} {k : IntKind} {v : Value} {l : List Int} (h : Rd w k v l) (hf : Frm w w' []) : Rd w' k v l := h.below' (hf.toBelow (by simp) (Nat.le_refl _))

set_option maxRecDepth 100000 in
set_option maxHeartbeats 4000000 in
theorem nil_none (n : Int) (hn : n < 0) (i : Int) (u : Value) (a : List Int) (w : World) (hT : Tab w) (ha : Rd w .i64 u a) (hla : a.length ≤ 200) :
    Calls Tryd.prog 6 #[.int .i64 n, .int .i64 i, u] w (LawDone w) := by
  have HR := hide ha
  obtain ⟨A, c, rfl, hc, -, -⟩ := ha
  have HA := hide (And.intro (awake_any w hT) hT)
  clear hT
  have h2 : ¬ ((n : Int) > 2000) := by omega
  have h2' : ¬ ((2000 : Int) < n) := by omega
  have h3 : ¬ ((200 : Int) < a.length) := by omega
  go_enter Tryd.func6, Tryd.ntmps6
  go_wp2_with fail
  refine HA.out.1.mono ?_
  rintro en w1 ⟨rfl, hB⟩
  have HR1 := hide (HR.out.below' hB)
  have H1 := hide (And.intro hB (HA.out.2.below hB))
  clear HA HR hB
  go_wp2_with fail
  refine (of_nil n hn _ a _ (HR1.out.alloc _)).mono ?_
  rintro en w2 ⟨rfl, hf⟩
  have hf2 : Frm w1 w2 [] := ((Frm.refl w1 []).alloc (.cells #[.int .i64 0, .slice none 0 0, .pointer none] 48)).trans hf
  have hW := (Whole.new w1 48 #[.int .i64 0, .slice none 0 0, .pointer none]).frm hf (by simp)
  have hz : NoSet w2 (.pointer (some ⟨w1.heap.size, 0, none⟩)) := .inr ⟨_, rfl, hW.lt, hW.cell 2⟩
  have hI : NilInv (fun _ => True) w (w2.alloc (.cells #[.pointer none, .pointer (some ⟨w1.heap.size, 0, none⟩)] 23)) w1.heap.size w2.heap.size := by
    have hfa : Frm w2 (w2.alloc (.cells #[.pointer none, .pointer (some ⟨w1.heap.size, 0, none⟩)] 23)) [] := (Frm.refl w2 []).alloc _
    have hn := Whole.new w2 23 #[.pointer none, .pointer (some ⟨w1.heap.size, 0, none⟩)]
    exact ⟨hz.frm hfa, hn.cell 0, hn.cell 1, by rw [World.size_alloc]; omega, (H1.out.2.frm hf2 (by simp)).frm hfa (by simp), (H1.out.1.trans (hf2.toBelow (by simp) H1.out.1.size)).trans (hfa.toBelow (by simp) (Nat.le_trans H1.out.1.size hf2.size)), trivial, fun _ _ _ h => h⟩
  have HI := hide hI
  have HR2 := hide (HR1.out.below' (hf2.toBelow (by simp) (Nat.le_refl _)))
  have hRF := hide (Nat.le_of_lt_succ (Nat.lt_succ_of_le (hf2.size)))
  clear hI hz hW hf2 hf H1
  go_wp2_with fail
  go_loopw [29] (fun z wr => ∃ k : Nat, k ≤ 2 ∧ z = .int .i64 k ∧ NilInv (fun _ => True) w wr w1.heap.size w2.heap.size ∧ Rd wr .i64 (.slice A a.length c) a) (fun z _ => 2 - (intOf z).toNat)
  case atStart => exact ⟨0, by omega, rfl, HI.out, HR2.out.alloc _⟩
  case round =>
    clear HI
    obtain ⟨wq, rfl⟩ : ∃ x, x = wr := ⟨_, rfl⟩
    obtain ⟨k, hk, rfl, hI, hR⟩ := hrel
    have HI := hide hI
    have HRQ := hide hR
    clear hI hR
    by_cases hlt : k < 2
    · have hlt' : (k : Int) < 2 := by omega
      obtain ⟨px, cpx, hpx⟩ := HI.out.at k hlt
      have HX := hide hpx
      clear hpx
      go_wp2_with fail
      refine (callsIn_wide.1 (elems_no 3 (Nat.le_refl _) _ _ HX.out)).mono ?_
      rintro en wn ⟨rfl, hf⟩
      have hI := HI.out.bel hf
      have hX := HX.out.below hf
      have hR := HRQ.out.below' hf
      clear HI HX HRQ hf
      have HI := hide hI
      have HX := hide hX
      have HRQ := hide hR
      clear hI hX hR
      obtain ⟨wq, rfl⟩ : ∃ z, z = wn := ⟨_, rfl⟩
      go_wp2_with fail
      refine (cap_no _ _ HX.out).mono ?_
      rintro en wn ⟨rfl, rfl⟩
      go_wp2_with fail
      refine (callsIn_wide.1 (count_no 3 (Nat.le_refl _) _ _ HX.out)).mono ?_
      rintro en wn ⟨rfl, hf⟩
      have hI := HI.out.bel hf
      have hX := HX.out.below hf
      have hR := HRQ.out.below' hf
      clear HI HX HRQ hf
      have HI := hide hI
      have HX := hide hX
      have HRQ := hide hR
      clear hI hX hR
      obtain ⟨wq, rfl⟩ : ∃ z, z = wn := ⟨_, rfl⟩
      go_wp2_with fail
      refine (has_no _ _ HX.out i).mono ?_
      rintro en wn ⟨rfl, rfl⟩
      go_wp2_with fail
      refine (add_no _ _ HX.out i).mono ?_
      rintro en wn ⟨rfl, rfl⟩
      go_wp2_with fail
      refine (remove_no _ _ HX.out i).mono ?_
      rintro en wn ⟨rfl, rfl⟩
      go_wp2_with fail
      refine (union_miss _ _ _ (.inl HX.out)).mono ?_
      rintro en wn ⟨rfl, hf⟩
      have hI := HI.out.frm hf
      have hX := HX.out.frm hf
      have hR := HRQ.out.below2 hf
      clear HI HX HRQ hf
      have HI := hide hI
      have HX := hide hX
      have HRQ := hide hR
      clear hI hX hR
      obtain ⟨wq, rfl⟩ : ∃ z, z = wn := ⟨_, rfl⟩
      go_wp2_with fail
      refine (sub_miss _ _ _ (.inl HX.out)).mono ?_
      rintro en wn ⟨rfl, hf⟩
      have hI := HI.out.frm hf
      have hX := HX.out.frm hf
      have hR := HRQ.out.below2 hf
      clear HI HX HRQ hf
      have HI := hide hI
      have HX := hide hX
      have HRQ := hide hR
      clear hI hX hR
      obtain ⟨wq, rfl⟩ : ∃ z, z = wn := ⟨_, rfl⟩
      go_wp2_with fail
      refine (and_miss _ _ _ (.inl HX.out)).mono ?_
      rintro en wn ⟨rfl, hf⟩
      have hI := HI.out.frm hf
      have hX := HX.out.frm hf
      have hR := HRQ.out.below2 hf
      clear HI HX HRQ hf
      have HI := hide hI
      have HX := hide hX
      have HRQ := hide hR
      clear hI hX hR
      obtain ⟨wq, rfl⟩ : ∃ z, z = wn := ⟨_, rfl⟩
      go_wp2_with fail
      refine (clone_no _ _ HX.out).mono ?_
      rintro en wn ⟨rfl, rfl⟩
      go_wp2_with fail
      refine (equal_no _ _ _ HX.out (noNil _)).mono ?_
      rintro en wn ⟨rfl, hf⟩
      have hI := HI.out.frm hf
      have hX := HX.out.frm hf
      have hR := HRQ.out.below2 hf
      clear HI HX HRQ hf
      have HI := hide hI
      have HX := hide hX
      have HRQ := hide hR
      clear hI hX hR
      obtain ⟨wq, rfl⟩ : ∃ z, z = wn := ⟨_, rfl⟩
      go_wp2_with fail
      refine (equal_no _ _ _ HX.out HI.out.z).mono ?_
      rintro en wn ⟨rfl, hf⟩
      have hI := HI.out.frm hf
      have hX := HX.out.frm hf
      have hR := HRQ.out.below2 hf
      clear HI HX HRQ hf
      have HI := hide hI
      have HX := hide hX
      have HRQ := hide hR
      clear hI hX hR
      obtain ⟨wq, rfl⟩ : ∃ z, z = wn := ⟨_, rfl⟩
      go_wp2_with fail
      refine (equal_no _ _ _ (noNil _) HX.out).mono ?_
      rintro en wn ⟨rfl, hf⟩
      have hI := HI.out.frm hf
      have hX := HX.out.frm hf
      have hR := HRQ.out.below2 hf
      clear HI HX HRQ hf
      have HI := hide hI
      have HX := hide hX
      have HRQ := hide hR
      clear hI hX hR
      obtain ⟨wq, rfl⟩ : ∃ z, z = wn := ⟨_, rfl⟩
      go_wp2_with fail
      go_roundw
      case rel => exact ⟨k + 1, by omega, by go_num, HI.out, HRQ.out⟩
      case measure => simp [intOf]; omega
    · obtain rfl : k = 2 := by omega
      go_wp2_with fail
      go_ret
      exact ⟨rfl, HI.out.below⟩

set_option maxRecDepth 100000 in
set_option maxHeartbeats 4000000 in
theorem nil_set (n : Nat) (hn : n ≤ 2000) (i : Int) (u : Value) (a : List Int) (w : World) (hT : Tab w) (ha : Rd w .i64 u a) (hla : a.length ≤ 200) :
    Calls Tryd.prog 6 #[.int .i64 n, .int .i64 i, u] w (LawDone w) := by
  have HR := hide ha
  obtain ⟨A, c, rfl, hc, -, -⟩ := ha
  have HA := hide (And.intro (awake_any w hT) hT)
  clear hT
  have h2 : ¬ ((n : Int) > 2000) := by omega
  have h2' : ¬ ((2000 : Int) < n) := by omega
  have h3 : ¬ ((200 : Int) < a.length) := by omega
  have h2'' : ¬ (2000 < n) := by omega
  go_enter Tryd.func6, Tryd.ntmps6
  go_wp2_with fail
  refine HA.out.1.mono ?_
  rintro en w1 ⟨rfl, hB⟩
  have HR1 := hide (HR.out.below' hB)
  have H1 := hide (And.intro hB (HA.out.2.below hB))
  clear HA HR hB
  go_wp2_with fail
  refine (of_any n _ a _ (by omega) (HR1.out.alloc _)).mono ?_
  rintro en w2 ⟨rfl, ws, hS, hbits, hf⟩
  obtain ⟨B0, hB0⟩ : ∃ B0, B0 = (w1.alloc (.cells #[.int .i64 0, .slice none 0 0, .pointer none] 48)).heap.size := ⟨_, rfl⟩
  rw [← hB0] at hS ⊢
  have HBT := hide hbits
  have hf2 : Frm w1 w2 [] := ((Frm.refl w1 []).alloc (.cells #[.int .i64 0, .slice none 0 0, .pointer none] 48)).trans hf
  have hW := (Whole.new w1 48 #[.int .i64 0, .slice none 0 0, .pointer none]).frm hf (by simp)
  have hz : NoSet w2 (.pointer (some ⟨w1.heap.size, 0, none⟩)) := .inr ⟨_, rfl, hW.lt, hW.cell 2⟩
  have hI : NilInv (fun W => SetAt W B0 n ws) w (w2.alloc (.cells #[.pointer none, .pointer (some ⟨w1.heap.size, 0, none⟩)] 23)) w1.heap.size w2.heap.size := by
    have hfa : Frm w2 (w2.alloc (.cells #[.pointer none, .pointer (some ⟨w1.heap.size, 0, none⟩)] 23)) [] := (Frm.refl w2 []).alloc _
    have hn := Whole.new w2 23 #[.pointer none, .pointer (some ⟨w1.heap.size, 0, none⟩)]
    exact ⟨hz.frm hfa, hn.cell 0, hn.cell 1, by rw [World.size_alloc]; omega, (H1.out.2.frm hf2 (by simp)).frm hfa (by simp), (H1.out.1.trans (hf2.toBelow (by simp) H1.out.1.size)).trans (hfa.toBelow (by simp) (Nat.le_trans H1.out.1.size hf2.size)), hS.frm hfa (by simp) (by simp), fun A B hf h => h.frm hf (by simp) (by simp)⟩
  have HI := hide hI
  have HR2 := hide (HR1.out.below' (hf2.toBelow (by simp) (Nat.le_refl _)))
  have hRF := hide (Nat.le_of_lt_succ (Nat.lt_succ_of_le (hf2.size)))
  clear hI hz hW hf2 hf hS hbits hB0 H1
  go_wp2_with fail
  go_loopw [29] (fun z wr => ∃ k : Nat, k ≤ 2 ∧ z = .int .i64 k ∧ NilInv (fun W => SetAt W B0 n ws) w wr w1.heap.size w2.heap.size ∧ Rd wr .i64 (.slice A a.length c) a) (fun z _ => 2 - (intOf z).toNat)
  case atStart => exact ⟨0, by omega, rfl, HI.out, HR2.out.alloc _⟩
  case round =>
    clear HI
    obtain ⟨wq, rfl⟩ : ∃ x, x = wr := ⟨_, rfl⟩
    obtain ⟨k, hk, rfl, hI, hR⟩ := hrel
    have HI := hide hI
    have HRQ := hide hR
    clear hI hR
    by_cases hlt : k < 2
    · have hlt' : (k : Int) < 2 := by omega
      obtain ⟨px, cpx, hpx⟩ := HI.out.at k hlt
      have HX := hide hpx
      clear hpx
      go_wp2_with fail
      refine (callsIn_wide.1 (elems_no 3 (Nat.le_refl _) _ _ HX.out)).mono ?_
      rintro en wn ⟨rfl, hf⟩
      have hI := HI.out.bel hf
      have hX := HX.out.below hf
      have hR := HRQ.out.below' hf
      clear HI HX HRQ hf
      have HI := hide hI
      have HX := hide hX
      have HRQ := hide hR
      clear hI hX hR
      obtain ⟨wq, rfl⟩ : ∃ z, z = wn := ⟨_, rfl⟩
      go_wp2_with fail
      refine (cap_no _ _ HX.out).mono ?_
      rintro en wn ⟨rfl, rfl⟩
      go_wp2_with fail
      refine (callsIn_wide.1 (count_no 3 (Nat.le_refl _) _ _ HX.out)).mono ?_
      rintro en wn ⟨rfl, hf⟩
      have hI := HI.out.bel hf
      have hX := HX.out.below hf
      have hR := HRQ.out.below' hf
      clear HI HX HRQ hf
      have HI := hide hI
      have HX := hide hX
      have HRQ := hide hR
      clear hI hX hR
      obtain ⟨wq, rfl⟩ : ∃ z, z = wn := ⟨_, rfl⟩
      go_wp2_with fail
      refine (has_no _ _ HX.out i).mono ?_
      rintro en wn ⟨rfl, rfl⟩
      go_wp2_with fail
      refine (add_no _ _ HX.out i).mono ?_
      rintro en wn ⟨rfl, rfl⟩
      go_wp2_with fail
      refine (remove_no _ _ HX.out i).mono ?_
      rintro en wn ⟨rfl, rfl⟩
      go_wp2_with fail
      refine (union_miss _ _ _ (.inl HX.out)).mono ?_
      rintro en wn ⟨rfl, hf⟩
      have hI := HI.out.frm hf
      have hX := HX.out.frm hf
      have hR := HRQ.out.below2 hf
      clear HI HX HRQ hf
      have HI := hide hI
      have HX := hide hX
      have HRQ := hide hR
      clear hI hX hR
      obtain ⟨wq, rfl⟩ : ∃ z, z = wn := ⟨_, rfl⟩
      go_wp2_with fail
      refine (sub_miss _ _ _ (.inl HX.out)).mono ?_
      rintro en wn ⟨rfl, hf⟩
      have hI := HI.out.frm hf
      have hX := HX.out.frm hf
      have hR := HRQ.out.below2 hf
      clear HI HX HRQ hf
      have HI := hide hI
      have HX := hide hX
      have HRQ := hide hR
      clear hI hX hR
      obtain ⟨wq, rfl⟩ : ∃ z, z = wn := ⟨_, rfl⟩
      go_wp2_with fail
      refine (and_miss _ _ _ (.inl HX.out)).mono ?_
      rintro en wn ⟨rfl, hf⟩
      have hI := HI.out.frm hf
      have hX := HX.out.frm hf
      have hR := HRQ.out.below2 hf
      clear HI HX HRQ hf
      have HI := hide hI
      have HX := hide hX
      have HRQ := hide hR
      clear hI hX hR
      obtain ⟨wq, rfl⟩ : ∃ z, z = wn := ⟨_, rfl⟩
      go_wp2_with fail
      refine (clone_no _ _ HX.out).mono ?_
      rintro en wn ⟨rfl, rfl⟩
      go_wp2_with fail
      refine (equal_no _ _ _ HX.out (noNil _)).mono ?_
      rintro en wn ⟨rfl, hf⟩
      have hI := HI.out.frm hf
      have hX := HX.out.frm hf
      have hR := HRQ.out.below2 hf
      clear HI HX HRQ hf
      have HI := hide hI
      have HX := hide hX
      have HRQ := hide hR
      clear hI hX hR
      obtain ⟨wq, rfl⟩ : ∃ z, z = wn := ⟨_, rfl⟩
      go_wp2_with fail
      refine (equal_no _ _ _ HX.out HI.out.z).mono ?_
      rintro en wn ⟨rfl, hf⟩
      have hI := HI.out.frm hf
      have hX := HX.out.frm hf
      have hR := HRQ.out.below2 hf
      clear HI HX HRQ hf
      have HI := hide hI
      have HX := hide hX
      have HRQ := hide hR
      clear hI hX hR
      obtain ⟨wq, rfl⟩ : ∃ z, z = wn := ⟨_, rfl⟩
      go_wp2_with fail
      refine (equal_no _ _ _ (noNil _) HX.out).mono ?_
      rintro en wn ⟨rfl, hf⟩
      have hI := HI.out.frm hf
      have hX := HX.out.frm hf
      have hR := HRQ.out.below2 hf
      clear HI HX HRQ hf
      have HI := hide hI
      have HX := hide hX
      have HRQ := hide hR
      clear hI hX hR
      obtain ⟨wq, rfl⟩ : ∃ z, z = wn := ⟨_, rfl⟩
      go_wp2_with fail
      refine (union_miss _ _ _ (.inr (.inl ⟨n, ⟨_, ws, rfl, HI.out.rest⟩, HX.out⟩))).mono ?_
      rintro en wn ⟨rfl, hf⟩
      have hI := HI.out.frm hf
      have hX := HX.out.frm hf
      have hR := HRQ.out.below2 hf
      clear HI HX HRQ hf
      have HI := hide hI
      have HX := hide hX
      have HRQ := hide hR
      clear hI hX hR
      obtain ⟨wq, rfl⟩ : ∃ z, z = wn := ⟨_, rfl⟩
      go_wp2_with fail
      refine (sub_miss _ _ _ (.inr (.inl ⟨n, ⟨_, ws, rfl, HI.out.rest⟩, HX.out⟩))).mono ?_
      rintro en wn ⟨rfl, hf⟩
      have hI := HI.out.frm hf
      have hX := HX.out.frm hf
      have hR := HRQ.out.below2 hf
      clear HI HX HRQ hf
      have HI := hide hI
      have HX := hide hX
      have HRQ := hide hR
      clear hI hX hR
      obtain ⟨wq, rfl⟩ : ∃ z, z = wn := ⟨_, rfl⟩
      go_wp2_with fail
      refine (and_miss _ _ _ (.inr (.inl ⟨n, ⟨_, ws, rfl, HI.out.rest⟩, HX.out⟩))).mono ?_
      rintro en wn ⟨rfl, hf⟩
      have hI := HI.out.frm hf
      have hX := HX.out.frm hf
      have hR := HRQ.out.below2 hf
      clear HI HX HRQ hf
      have HI := hide hI
      have HX := hide hX
      have HRQ := hide hR
      clear hI hX hR
      obtain ⟨wq, rfl⟩ : ∃ z, z = wn := ⟨_, rfl⟩
      go_wp2_with fail
      refine (equal_no2 _ _ _ n ⟨_, ws, rfl, HI.out.rest⟩ HX.out).mono ?_
      rintro en wn ⟨rfl, hf⟩
      have hI := HI.out.frm hf
      have hX := HX.out.frm hf
      have hR := HRQ.out.below2 hf
      clear HI HX HRQ hf
      have HI := hide hI
      have HX := hide hX
      have HRQ := hide hR
      clear hI hX hR
      obtain ⟨wq, rfl⟩ : ∃ z, z = wn := ⟨_, rfl⟩
      go_wp2_with fail
      refine (equal_no1 _ _ _ n HX.out ⟨_, ws, rfl, HI.out.rest⟩).mono ?_
      rintro en wn ⟨rfl, hf⟩
      have hI := HI.out.frm hf
      have hX := HX.out.frm hf
      have hR := HRQ.out.below2 hf
      clear HI HX HRQ hf
      have HI := hide hI
      have HX := hide hX
      have HRQ := hide hR
      clear hI hX hR
      obtain ⟨wq, rfl⟩ : ∃ z, z = wn := ⟨_, rfl⟩
      go_wp2_with fail
      go_roundw
      case rel => exact ⟨k + 1, by omega, by go_num, HI.out, HRQ.out⟩
      case measure => simp [intOf]; omega
    · obtain rfl : k = 2 := by omega
      go_wp2_with fail
      refine (of_any n _ a _ (by omega) HRQ.out).mono ?_
      rintro en w4 ⟨rfl, vs, hS4, hb4, hf⟩
      have hI := HI.out.frm hf
      have hws : ws = vs := hI.rest.2.2.1.ext hS4.2.2.1 (fun j _ => by rw [HBT.out, hb4])
      subst hws
      have H4 := hide (And.intro hI hS4)
      clear hI hS4 hb4 hf HI
      go_wp2_with fail
      refine (equal_set _ _ _ n n ws ws H4.out.1.rest H4.out.2).mono ?_
      rintro en w5 ⟨rfl, hf⟩
      have HZ := hide (H4.out.1.frm hf).below
      clear hf H4
      go_wp2_with fail
      go_ret
      exact ⟨by simp, HZ.out⟩
end Go.Proofs.YtbnikoomgeaboaaDoor

/-
  The reference's set of layer 3 (bitset): New, Of, All, Count, Clone; and a nil one.
-/
import Derived.Test.YtbnikoomgeaboaaDoorRef
namespace Go.Proofs.YtbnikoomgeaboaaDoor
open Go.RowKit

theorem infoBool : (Tryd.prog.info? 4).map (fun i => (i.zero, i.size, i.bytes)) = some (some (.bool false), 1, 1) := by kernel_rfl
theorem boolE : ElemV Tryd.prog 53 4 (.bool false) 1 := ⟨Tryd.underlying53, rfl, info_parts infoBool⟩
theorem intV : ElemV Tryd.prog 28 3 (.int .i64 0) 8 := ⟨Tryd.underlying28, rfl, info_parts infoInt⟩
theorem bl_false (n : Nat) : bl n (fun _ => false) = List.replicate n (.bool false) := by
  apply List.ext_getElem <;> simp [bl]
theorem run_bools (w : World) (n : Nat) (hn : n ≤ 65536) : (Instr.makeSlice 53 (.int .i64 n) (.int .i64 n)).run Tryd.prog w = .ok (.slice (some ⟨w.heap.size, 0, none⟩) n n) (w.alloc (.cells (bl n (fun _ => false)).toArray 4)) := by
  obtain ⟨i, hi, hz, hs1, hby⟩ := info_parts infoBool
  have h := run_make (P := Tryd.prog) (w := w) 53 4 i (.bool false) Tryd.underlying53 hi hz .i64 .i64 n n (by omega) (Int.le_refl _) (by rw [hby]; omega) (by omega)
  rw [hs1, Nat.mul_one, Int.toNat_natCast] at h
  rw [h]
  congr 3
  apply Array.toList_inj.1
  show (madeCells #[.bool false] n).toList = _
  rw [toList_madeCells_one, bl_false]
theorem own_row (w : World) (n : Nat) (f : Nat → Bool) (hn : n ≤ 65536) : OwnV (w.alloc (.cells (bl n f).toArray 4)) w.heap.size 4 (.slice (some ⟨w.heap.size, 0, none⟩) n n) (bl n f) := by
  refine ⟨by simp, .inr ⟨w.heap.size, n, _, by rw [bl_len], Nat.le_refl _, heap_alloc_new w _, by rw [bl_len]; exact Nat.le_refl _, by unfold maxLen; omega, by simp [bl_len], ?_⟩⟩
  rw [List.take_of_length_le (by simp)]

theorem rnew_nil (n : Int) (w : World) (hn : n < 0 ∨ 65536 < n) :
    Calls Tryd.prog 8 #[.int .i64 n] w fun en w' => en = .returned (.pointer none) ∧ w = w' := by
  by_cases h0 : n < 0
  · go_enter Tryd.func8, Tryd.ntmps8
    go_wp2_with fail
    go_ret
    exact ⟨rfl, rfl⟩
  · have h1 : 65536 < n := by omega
    go_enter Tryd.func8, Tryd.ntmps8
    go_wp2_with fail
    go_ret
    exact ⟨rfl, rfl⟩
theorem rnew_set (n : Nat) (w : World) (hn : n ≤ 65536) :
    Calls Tryd.prog 8 #[.int .i64 n] w fun en w' => en = .returned (.pointer (some ⟨w.heap.size + 1, 0, none⟩)) ∧ RAt w' w.heap.size (w.heap.size + 1) n (fun _ => false) [w.heap.size + 1, w.heap.size] ∧ Frm w w' [] := by
  have h0 : ¬ ((n : Int) < 0) := by omega
  have h1 : ¬ ((n : Int) > 65536) := by omega
  have h1' : ¬ (65536 < n) := by omega
  have hmk := run_bools w n hn
  go_enter Tryd.func8, Tryd.ntmps8
  go_wp2_with fail
  go_ret
  have k2 := Whole.new (w.alloc (.cells (bl n (fun _ => false)).toArray 4)) 55 #[.bool true, .slice (some ⟨w.heap.size, 0, none⟩) n n]
  rw [World.size_alloc] at k2
  refine ⟨rfl, ⟨_, k2, (own_row w n _ hn).alloc _, rfl, fun g hg => ?_, Nat.le_succ _, hn⟩, ((Frm.refl w []).alloc _).alloc _⟩
  have e : w.heap.size = g := by simpa [Value.ownBlock] using hg
  omega

/-- A nil set: whatever is asked of it. -/
theorem rok_nil (w : World) : Calls Tryd.prog 35 #[.pointer none] w fun en w' => en = .returned (.bool false) ∧ w = w' := by
  go_enter Tryd.func35, Tryd.ntmps35
  go_wp2_with fail
  exact ⟨rfl, _, results_tmp rfl _ _ _, rfl, rfl⟩
theorem rcap_nil (w : World) : Calls Tryd.prog 42 #[.pointer none] w fun en w' => en = .returned (.int .i64 0) ∧ w = w' := by
  go_enter Tryd.func42, Tryd.ntmps42
  go_wp2_with (go_at_call 35; refine (rok_nil _).mono ?_; rintro en w' ⟨rfl, rfl⟩)
  go_ret
  exact ⟨rfl, rfl⟩
theorem rhas_nil (w : World) (i : Int) : Calls Tryd.prog 17 #[.pointer none, .int .i64 i] w fun en w' => en = .returned (.bool false) ∧ w = w' := by
  go_enter Tryd.func17, Tryd.ntmps17
  go_wp2_with (go_at_call 35; refine (rok_nil _).mono ?_; rintro en w' ⟨rfl, rfl⟩)
  go_ret
  exact ⟨rfl, rfl⟩
theorem radd_nil (w : World) (i : Int) : Calls Tryd.prog 13 #[.pointer none, .int .i64 i] w fun en w' => en = .returned (.bool false) ∧ w = w' := by
  go_enter Tryd.func13, Tryd.ntmps13
  go_wp2_with (go_at_call 35; refine (rok_nil _).mono ?_; rintro en w' ⟨rfl, rfl⟩)
  go_ret
  exact ⟨rfl, rfl⟩
theorem rremove_nil (w : World) (i : Int) : Calls Tryd.prog 15 #[.pointer none, .int .i64 i] w fun en w' => en = .returned (.bool false) ∧ w = w' := by
  go_enter Tryd.func15, Tryd.ntmps15
  go_wp2_with (go_at_call 17; refine (rhas_nil _ _).mono ?_; rintro en w' ⟨rfl, rfl⟩)
  go_ret
  exact ⟨rfl, rfl⟩
theorem rclone_nil (w : World) : Calls Tryd.prog 25 #[.pointer none] w fun en w' => en = .returned (.pointer none) ∧ w = w' := by
  go_enter Tryd.func25, Tryd.ntmps25
  go_wp2_with (go_at_call 35; refine (rok_nil _).mono ?_; rintro en w' ⟨rfl, rfl⟩)
  go_ret
  exact ⟨rfl, rfl⟩

theorem rclone_set (w : World) (L R n : Nat) (f : Nat → Bool) (F : List Nat) (h : RAt w L R n f F) :
    Calls Tryd.prog 25 #[.pointer (some ⟨R, 0, none⟩)] w fun en w' => ∃ R' F', en = .returned (.pointer (some ⟨R', 0, none⟩)) ∧ RAt w' w.heap.size R' n f F' ∧ Frm w w' [] := by
  have HV := hide (rok_set w L R n f F h)
  obtain ⟨hv, h1, h2, -, -, -, h65⟩ := h
  have HR := hide (h2.rd)
  obtain ⟨A, c, rfl, hc, hm, -⟩ := h2.rd
  rw [bl_len] at h1 hc HR
  have c1 := h1.cell 1
  have d1 := (h1.alloc (.cells #[] 4)).cell 1
  have hbn : (bl n f).length = n := bl_len n f
  have ho0 : OwnV (w.alloc (.cells #[] 4)) w.heap.size 4 (.slice (some ⟨w.heap.size, 0, none⟩) 0 0) [] :=
    ⟨rfl, .inr ⟨w.heap.size, 0, #[], rfl, Nat.le_refl _, heap_alloc_new w _, Nat.le_refl _, by unfold maxLen; omega, rfl, rfl⟩⟩
  clear h1 h2 hm
  go_enter Tryd.func25, Tryd.ntmps25
  go_wp2_with (first | (go_at_call 35; refine HV.out.mono ?_; rintro en w' ⟨rfl, rfl⟩) | (refine wpList_append_v _ rfl _ _ 53 rfl w.heap.size 4 (.bool false) 1 boolE _ [] rfl ho0 _ (bl n f) rfl (HR.out.alloc _) ?b0 ?b1 ?b2 ?b3 ?_))
  case b0 =>
    intro x hx
    simp only [bl, List.mem_map] at hx
    obtain ⟨_, _, rfl⟩ := hx
    rfl
  case b1 => simp only [List.length_nil, hbn]; omega
  case b2 => simp only [List.length_nil, hbn]; unfold maxLen; omega
  case b3 => rw [World.size_alloc]; omega
  intro v' w2 ho hf hblk
  have ho : OwnV w2 w.heap.size 4 v' (bl n f) := ho
  have hw : Frm w w2 [] := ((Frm.refl w []).alloc _).trans' hf (fun g hg => .inr (by simp [Value.ownBlock] at hg; omega))
  obtain ⟨A2, c2, rfl, -, -, -⟩ := ho.rd
  rw [bl_len] at ho ⊢
  have HZ := hide (And.intro ho hw)
  clear ho hf hblk hw d1 c1
  go_wp2_with fail
  go_ret
  obtain ⟨ho, hw⟩ := HZ.out
  refine ⟨_, _, rfl, ⟨_, Whole.new w2 _ _, ho.alloc _, rfl, fun g hg => ?_, hw.size, h65⟩, hw.alloc _⟩
  have := (ho.size g hg).2
  omega

/-- Of the reference. -/
theorem rof_nil (n : Int) (hn : n < 0 ∨ 65536 < n) (v : Value) (l : List Int) (w : World) (hl : Rd w .i64 v l) :
    Calls Tryd.prog 11 #[.int .i64 n, v] w fun en w' => en = .returned (.pointer none) ∧ Frm w w' [] := by
  obtain ⟨A, c, rfl, hc, hm, hr⟩ := hl
  have hc9 : c ≤ 9223372036854775807 := by unfold maxLen at hm; omega
  have HN := hide (rnew_nil n w hn)
  have HR := hide hr
  clear hr hm hn
  go_enter Tryd.func11, Tryd.ntmps11
  go_wp2_with (go_at_call 8; refine HN.out.mono ?_; rintro en w' ⟨rfl, rfl⟩)
  go_loopw [12] (fun i wr => ∃ k : Nat, k ≤ l.length ∧ i = .int .i64 k ∧ Frm w wr []) (fun i _ => l.length - (intOf i).toNat)
  case atStart => exact ⟨0, Nat.zero_le _, rfl, Frm.refl _ _⟩
  case round =>
    obtain ⟨wq, rfl⟩ : ∃ x, x = wr := ⟨_, rfl⟩
    obtain ⟨k, hk, rfl, hf⟩ := hrel
    have HF := hide hf
    clear hf
    by_cases hlt : k < l.length
    · obtain ⟨b, off, rfl, hbl, hcell⟩ := HR.out (by omega)
      obtain ⟨x, hx⟩ : ∃ x, l[k]? = some x := ⟨_, List.getElem?_eq_getElem hlt⟩
      have cx := (HF.out.cell (p := ⟨b, off + k, none⟩) hbl (by simp)).trans (hcell k x hx)
      have hlt' : (k : Int) < l.length := by omega
      clear hcell hx
      go_wp2_with (go_at_call 13; refine (radd_nil _ x).mono ?_; rintro en w' ⟨rfl, rfl⟩)
      go_roundw
      case rel => exact ⟨k + 1, by omega, by go_num, HF.out⟩
      case measure => simp [intOf]; omega
    · obtain rfl : k = l.length := by omega
      clear HR
      go_wp2_with fail
      go_ret
      exact ⟨rfl, HF.out⟩
theorem rof_set (n : Nat) (v : Value) (l : List Int) (w : World) (hn : n ≤ 65536) (hl : Rd w .i64 v l) :
    Calls Tryd.prog 11 #[.int .i64 n, v] w fun en w' => en = .returned (.pointer (some ⟨w.heap.size + 1, 0, none⟩)) ∧ RAt w' w.heap.size (w.heap.size + 1) n (fun i => decide ((i : Int) ∈ l)) [w.heap.size + 1, w.heap.size] ∧ Frm w w' [] := by
  obtain ⟨A, c, rfl, hc, hm, hr⟩ := hl
  have hc9 : c ≤ 9223372036854775807 := by unfold maxLen at hm; omega
  have HR := hide hr
  clear hr hm
  go_enter Tryd.func11, Tryd.ntmps11
  go_wp2_with fail
  refine (rnew_set n w hn).mono ?_
  rintro en w0 ⟨rfl, hS0, hf0⟩
  have HS0 := hide (And.intro hS0 hf0)
  clear hS0 hf0
  go_wp2_with fail
  go_loopw [12] (fun i wr => ∃ k : Nat, k ≤ l.length ∧ i = .int .i64 k ∧ RAt wr w.heap.size (w.heap.size + 1) n (fun i => decide ((i : Int) ∈ l.take k)) [w.heap.size + 1, w.heap.size] ∧ Frm w wr []) (fun i _ => l.length - (intOf i).toNat)
  case atStart => exact ⟨0, Nat.zero_le _, rfl, HS0.out.1.congr (fun j _ => by simp), HS0.out.2⟩
  case round =>
    clear HS0
    obtain ⟨wq, rfl⟩ : ∃ x, x = wr := ⟨_, rfl⟩
    obtain ⟨k, hk, rfl, hS, hf⟩ := hrel
    have HQ := hide (And.intro hS hf)
    clear hS hf
    by_cases hlt : k < l.length
    · obtain ⟨b, off, rfl, hbl, hcell⟩ := HR.out (by omega)
      obtain ⟨x, hx⟩ : ∃ x, l[k]? = some x := ⟨_, List.getElem?_eq_getElem hlt⟩
      have cx := (HQ.out.2.cell (p := ⟨b, off + k, none⟩) hbl (by simp)).trans (hcell k x hx)
      have hlt' : (k : Int) < l.length := by omega
      have hmem : Hid (∀ j : Nat, decide ((j : Int) ∈ l.take (k + 1)) = (decide ((j : Int) = x) || decide ((j : Int) ∈ l.take k))) := hide (fun j => by
        rw [List.take_add_one, hx]
        by_cases e : (j : Int) = x
        · simp [e]
        · simp [e])
      clear hcell hx
      by_cases hold : x < 0 ∨ n ≤ x ∨ decide (((x.toNat : Nat) : Int) ∈ l.take k) = true
      · have HA := hide (radd_same wq _ _ n _ _ HQ.out.1 x hold)
        have HO := hide hold
        clear hold
        go_wp2_with (go_at_call 13; refine HA.out.mono ?_; rintro en w' ⟨rfl, rfl⟩)
        go_roundw
        case rel =>
          refine ⟨k + 1, by omega, by go_num, HQ.out.1.congr (fun j hj => ?_), HQ.out.2⟩
          rw [hmem.out]
          by_cases e : (j : Int) = x
          · rcases HO.out with h1 | h1 | h1
            · omega
            · omega
            · rw [← e, Int.toNat_natCast] at h1
              rw [h1]; simp
          · simp [e]
        case measure => simp [intOf]; omega
      · obtain ⟨q, rfl⟩ : ∃ q : Nat, x = q := ⟨x.toNat, by omega⟩
        have hq : q < n := by omega
        have hqf : decide ((q : Int) ∈ l.take k) = false := by
          cases hb : decide ((q : Int) ∈ l.take k) with
          | false => rfl
          | true => exact absurd (.inr (.inr (by rw [Int.toNat_natCast]; exact hb))) hold
        have HA := hide (radd_new wq _ _ n _ (fun i => decide ((i : Int) ∈ l.take (k + 1))) _ HQ.out.1 q hq hqf (fun j => by rw [hmem.out]; congr 1; exact decide_eq_decide.2 (by omega)))
        clear hold hqf
        go_wp2_with fail
        refine HA.out.mono ?_
        rintro en w1 ⟨rfl, hS1, hf1⟩
        have HZ := hide (And.intro hS1 (HQ.out.2.trans' hf1 (fun g hg => .inr (by simp at hg; omega))))
        clear hf1 hS1 HA
        go_wp2_with fail
        go_roundw
        case rel => exact ⟨k + 1, by omega, by go_num, HZ.out.1, HZ.out.2⟩
        case measure => simp [intOf]; omega
    · obtain rfl : k = l.length := by omega
      have HZ := HQ
      rw [List.take_length] at HZ
      clear HR HQ
      go_wp2_with fail
      go_ret
      exact ⟨rfl, HZ.out.1, HZ.out.2⟩
end Go.Proofs.YtbnikoomgeaboaaDoor

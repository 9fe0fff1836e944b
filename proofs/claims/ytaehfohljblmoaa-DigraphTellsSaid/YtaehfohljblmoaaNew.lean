/-
  New and Of, layer 3 (bitset).
-/
import Derived.Test.YtaehfohljblmoaaSet
import Derived.Laws.OwnMore
namespace Go.Proofs.Ytaehfohljblmoaa
open Go.RowKit

theorem infoU64 : (Try.prog.info? 54).map (fun i => (i.zero, i.size, i.bytes)) = some (some (.int .u64 0), 1, 8) := by kernel_rfl
theorem made_zeros (m : Nat) : madeCells #[.int .u64 0] m = wcells (List.replicate m 0) := by
  apply Array.toList_inj.1
  rw [toList_madeCells_one, wcells_zeros, Array.toList_replicate]
theorem run_words (w : World) (m : Nat) (hm : m ≤ 2000) : (Instr.makeSlice 57 (.int .i64 m) (.int .i64 m)).run Try.prog w = .ok (.slice (some ⟨w.heap.size, 0, none⟩) m m) (w.alloc (.cells (wcells (List.replicate m 0)) 54)) := by
  obtain ⟨i, hi, hz, hs1, hby⟩ := info_parts infoU64
  have h := run_make (P := Try.prog) (w := w) 57 54 i (.int .u64 0) Try.underlying57 hi hz .i64 .i64 m m (by omega) (Int.le_refl _) (by rw [hby]; omega) (by omega)
  rw [hs1, Nat.mul_one, Int.toNat_natCast] at h
  rw [← made_zeros]
  exact h

theorem new_nil (n : Int) (w : World) (hn : n < 0 ∨ 65536 < n) :
    Calls Try.prog 42 #[.int .i64 n] w fun en w' => en = .returned (.pointer none) ∧ w = w' := by
  by_cases h0 : n < 0
  · go_enter Try.func42, Try.ntmps42
    go_wp2_with fail
    go_ret
    exact ⟨rfl, rfl⟩
  · have h1 : 65536 < n := by omega
    go_enter Try.func42, Try.ntmps42
    go_wp2_with fail
    go_ret
    exact ⟨rfl, rfl⟩
theorem new_set (n : Nat) (w : World) (hn : n ≤ 65536) :
    Calls Try.prog 42 #[.int .i64 n] w fun en w' => en = .returned (.pointer (some ⟨w.heap.size + 1, 0, none⟩)) ∧ SetAt w' w.heap.size n (List.replicate ((n + 63) / 64) 0) ∧ Frm w w' [] := by
  have h0 : ¬ ((n : Int) < 0) := by omega
  have h1 : ¬ ((n : Int) > 65536) := by omega
  have h1' : ¬ (65536 < n) := by omega
  have hmk := run_words w ((n + 63) / 64) (by omega)
  have e1 : (((n + 63) / 64 : Nat) : Int) = ((n : Int) + 63) / 64 := by omega
  have e2 : (((n + 63) / 64 : Nat) : Int) = ((n : Int) + 64 - 1) / 64 := by omega
  rw [e2] at hmk
  clear e1 e2
  go_enter Try.func42, Try.ntmps42
  go_wp2_with fail
  go_ret
  have k1 := (Whole.new w 54 (wcells (List.replicate ((n + 63) / 64) 0))).alloc (.cells #[.int .i64 n, .slice (some ⟨w.heap.size, 0, none⟩) ((n + 63) / 64) ((n + 63) / 64), .pointer (some ⟨w.heap.size + 1, 0, none⟩)] 59)
  have k2 := Whole.new (w.alloc (.cells (wcells (List.replicate ((n + 63) / 64) 0)) 54)) 59 #[.int .i64 n, .slice (some ⟨w.heap.size, 0, none⟩) ((n + 63) / 64) ((n + 63) / 64), .pointer (some ⟨w.heap.size + 1, 0, none⟩)]
  rw [World.size_alloc] at k2
  exact ⟨rfl, ⟨k1, by rw [List.length_replicate]; exact k2, Words.zeros n, hn⟩, ((Frm.refl w []).alloc _).alloc _⟩

/-- The numbers that Of is handed, added one by one: whether i is among the first. -/
theorem of_any (n : Nat) (v : Value) (l : List Int) (w : World) (hn : n ≤ 65536) (hl : Rd w .i64 v l) :
    Calls Try.prog 40 #[.int .i64 n, v] w fun en w' => en = .returned (.pointer (some ⟨w.heap.size + 1, 0, none⟩)) ∧ ∃ ws, SetAt w' w.heap.size n ws ∧ (∀ i, bit ws i = (decide (i < n) && decide ((i : Int) ∈ l))) ∧ Frm w w' [] := by
  obtain ⟨A, c, rfl, hc, hm, hr⟩ := hl
  have hc9 : c ≤ 9223372036854775807 := by unfold maxLen at hm; omega
  go_enter Try.func40, Try.ntmps40
  go_wp2_with fail
  refine (new_set n w hn).mono ?_
  rintro en w0 ⟨rfl, hS0, hf0⟩
  have HS0 := hide (And.intro hS0 hf0)
  have HR := hide hr
  clear hS0 hf0 hr
  go_wp2_with fail
  go_loopw [12] (fun i wr => ∃ (k : Nat) (ws : List Nat), k ≤ l.length ∧ i = .int .i64 k ∧ SetAt wr w.heap.size n ws ∧ (∀ i, bit ws i = (decide (i < n) && decide ((i : Int) ∈ l.take k))) ∧ Frm w wr []) (fun i _ => l.length - (intOf i).toNat)
  case atStart => exact ⟨0, _, Nat.zero_le _, rfl, HS0.out.1, fun i => by rw [bit_zeros]; simp, HS0.out.2⟩
  case round =>
    clear HS0
    obtain ⟨wq, rfl⟩ : ∃ x, x = wr := ⟨_, rfl⟩
    obtain ⟨k, ws, hk, rfl, hS, hbit, hf⟩ := hrel
    by_cases hlt : k < l.length
    · obtain ⟨b, off, rfl, hbl, hcell⟩ := HR.out (by omega)
      obtain ⟨x, hx⟩ : ∃ x, l[k]? = some x := ⟨_, List.getElem?_eq_getElem hlt⟩
      have cx := (hf.cell (p := ⟨b, off + k, none⟩) hbl (by simp)).trans (hcell k x hx)
      have hlt' : (k : Int) < l.length := by omega
      have HX := hide hx
      have HB := hide hbit
      have HF := hide hf
      have HS := hide hS
      clear hcell hx hbit hf hS
      by_cases hold : x < 0 ∨ n ≤ x ∨ bit ws x.toNat = true
      · have HA := hide (add_same wq _ n ws HS.out x hold)
        have HO := hide hold
        clear hold
        go_wp2_with fail
        refine HA.out.mono ?_
        rintro en w1 ⟨rfl, hf1⟩
        have HZ := hide (And.intro (HS.out.frm hf1 (by simp) (by simp)) (HF.out.trans hf1))
        clear hf1 HA
        go_wp2_with fail
        go_roundw
        case rel =>
          refine ⟨k + 1, ws, by omega, by go_num, HZ.out.1, fun i => ?_, HZ.out.2⟩
          rw [HB.out, List.take_add_one, HX.out]
          by_cases hin : i < n
          · rw [decide_eq_true hin, Bool.true_and, Bool.true_and]
            refine decide_eq_decide.2 ⟨fun h => List.mem_append_left _ h, fun h => ?_⟩
            rcases List.mem_append.1 h with h | h
            · exact h
            · obtain rfl : (i : Int) = x := by simpa using h
              rcases HO.out with h1 | h1 | h1
              · omega
              · omega
              · rw [Int.toNat_natCast, HB.out] at h1
                simpa [hin] using h1
          · rw [decide_eq_false hin]; rfl
        case measure => simp [intOf]; omega
      · obtain ⟨q, rfl⟩ : ∃ q : Nat, x = q := ⟨x.toNat, by omega⟩
        have hq : q < n := by omega
        have hqb : bit ws q = false := by
          cases hb : bit ws q with
          | false => rfl
          | true => exact absurd (.inr (.inr hb)) hold
        have HA := hide (add_new wq _ n ws HS.out q hq hqb)
        clear hold hqb
        go_wp2_with fail
        refine HA.out.mono ?_
        rintro en w1 ⟨rfl, vs, hS1, hv1, hf1⟩
        have HZ := hide (And.intro hS1 (And.intro hv1 (HF.out.trans' hf1 (T := [w.heap.size]) (fun g hg => .inr (by simp at hg; omega)))))
        clear hf1 hS1 hv1 HA
        go_wp2_with fail
        go_roundw
        case rel =>
          refine ⟨k + 1, vs, by omega, by go_num, HZ.out.1, fun i => ?_, HZ.out.2.2⟩
          rw [HZ.out.2.1, HB.out, List.take_add_one, HX.out]
          by_cases hin : i < n
          · rw [decide_eq_true hin, Bool.true_and, Bool.true_and]
            by_cases e : i = q
            · subst e; simp
            · have e' : ¬ (i : Int) = q := by omega
              simp [e, e']
          · rw [decide_eq_false hin, decide_eq_false (by omega : ¬ i = q)]; rfl
        case measure => simp [intOf]; omega
    · obtain rfl : k = l.length := by omega
      have HZ := hide (And.intro hS (And.intro hbit hf))
      clear hS hbit hf HR
      go_wp2_with fail
      go_ret
      refine ⟨rfl, ws, HZ.out.1, fun i => ?_, HZ.out.2.2⟩
      rw [HZ.out.2.1, List.take_length]
end Go.Proofs.Ytaehfohljblmoaa

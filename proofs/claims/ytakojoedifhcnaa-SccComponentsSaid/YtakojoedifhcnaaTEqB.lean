/-
  slices.Equal over two slices of bools that hold the same, and slices.Contains.
-/
import Derived.Test.YtakojoedifhcnaaTEqI
import Derived.Test.YtakojoedifhcnaaTMat
namespace Go.Proofs.Ytakojoedifhcnaa
open Go.RowKit

set_option maxRecDepth 100000 in
/-- slices.Equal at bools: the same lists are equal. -/
theorem eqb_any (u v : Value) (n : Nat) (f : Nat → Bool) (w : World) (hu : RdV w u (bl n f)) (hv : RdV w v (bl n f)) :
    Calls Try.prog 14 #[u, v] w fun e w' => e = .returned (.bool true) ∧ Below w.heap.size w w' := by
  have hl1 := hu.len
  rw [bl_len] at hl1
  unfold maxLen at hl1
  obtain ⟨A, c, rfl, hc, hcm, hr⟩ := hu
  obtain ⟨B, d, rfl, hd, hdm, hs⟩ := hv
  have HR : Hid (RdV w (.slice A (bl n f).length c) (bl n f)) := hide ⟨A, c, rfl, hc, hcm, hr⟩
  have HS : Hid (RdV w (.slice B (bl n f).length d) (bl n f)) := hide ⟨B, d, rfl, hd, hdm, hs⟩
  clear hr hs
  rw [bl_len] at hc hd HR HS
  rw [bl_len]
  have hn : ((n : Int) != (n : Int)) = false := by rw [bne_eq_false_iff_eq]
  go_enter Try.func14, Try.ntmps14
  go_wp2_with fail
  go_loopw [13] (fun i wr => ∃ k : Nat, k ≤ n ∧ i = .int .i64 k ∧ Below w.heap.size w wr) (fun i _ => n - (intOf i).toNat)
  case atStart => exact ⟨0, Nat.zero_le _, rfl, Below.refl _ _⟩
  case round =>
    obtain ⟨k, hk, rfl, hB⟩ := hrel
    by_cases hlt : k < n
    · obtain ⟨b, off, rfl, hb, hcell⟩ := HR.out.at k _ (bl_get f hlt)
      obtain ⟨b', off', rfl, hb', hcell'⟩ := HS.out.at k _ (bl_get f hlt)
      have c1 := (hB.cell (p := ⟨b, off + k, none⟩) hb).trans hcell
      have c2 := (hB.cell (p := ⟨b', off' + k, none⟩) hb').trans hcell'
      have b1 : (k : Int) < (n : Int) := by omega
      have b0 : 0 ≤ (k : Int) := by omega
      generalize f k = q at c1 c2
      clear hcell hcell'
      cases q
      all_goals
        go_wp2_with fail
        go_quiet (fail)
        go_wp2_with fail
        go_roundw
        case rel => exact ⟨k + 1, by omega, by go_num, Below.drewN' hB _⟩
        case measure => simp [intOf]; omega
    · obtain rfl : k = n := by omega
      go_wp2_with fail
      go_ret
      exact ⟨rfl, hB⟩

set_option maxRecDepth 100000 in
theorem indexi_any (u : Value) (l : List Int) (x : Int) (w : World) (hu : Rd w .i64 u l) :
    Calls Try.prog 32 #[u, .int .i64 x] w fun e w' => (∃ z : Int, e = .returned (.int .i64 z) ∧ (0 ≤ z ↔ x ∈ l)) ∧ Below w.heap.size w w' := by
  have hl1 := hu.len
  unfold maxLen at hl1
  have HU := hide hu
  obtain ⟨A, c, rfl, hc, hcm, hr⟩ := hu
  clear hr
  go_enter Try.func32, Try.ntmps32
  go_wp2_with fail
  go_loopw [8] (fun i wr => ∃ k : Nat, k ≤ l.length ∧ i = .int .i64 k ∧ Hid (x ∉ l.take k) ∧ Below w.heap.size w wr) (fun i _ => l.length - (intOf i).toNat)
  case atStart => exact ⟨0, Nat.zero_le _, rfl, hide (by simp), Below.refl _ _⟩
  case round =>
    obtain ⟨k, hk, rfl, HN, hB⟩ := hrel
    by_cases hlt : k < l.length
    · obtain ⟨y, hy⟩ : ∃ y, l[k]? = some y := ⟨_, List.getElem?_eq_getElem hlt⟩
      obtain ⟨b, off, rfl, hb, hcell⟩ := rd_at HU.out hy
      have c1 := (hB.cell (p := ⟨b, off + k, none⟩) hb).trans hcell
      have b1 : (k : Int) < (l.length : Int) := by omega
      have HY := hide hy
      clear hcell hy
      by_cases e : x = y
      · have HE : Hid (x ∈ l) := hide (by rw [e]; exact List.mem_of_getElem? HY.out)
        have t1 : (x == y) = true := by simpa using e
        clear e
        go_wp2_with fail
        go_ret
        exact ⟨⟨k, rfl, by constructor; intro _; exact HE.out; intro _; omega⟩, hB⟩
      · have HE : Hid (x ∉ l.take (k + 1)) := hide (by
          rw [List.take_add_one, HY.out]
          simp only [Option.toList_some, List.mem_append, List.mem_singleton, not_or]
          exact ⟨HN.out, e⟩)
        have t1 : (x == y) = false := by simpa using e
        clear e
        go_wp2_with fail
        go_roundw
        case rel => exact ⟨k + 1, by omega, by go_num, HE, hB⟩
        case measure => simp [intOf]; omega
    · obtain rfl : k = l.length := by omega
      have HE : Hid (x ∉ l) := hide (by have := HN.out; rwa [List.take_length] at this)
      go_wp2_with fail
      go_ret
      exact ⟨⟨-1, rfl, by constructor; intro h; omega; intro h; exact absurd h HE.out⟩, hB⟩
set_option maxRecDepth 100000 in
/-- slices.Contains at integers. -/
theorem conti_any (u : Value) (l : List Int) (x : Int) (w : World) (hu : Rd w .i64 u l) :
    Calls Try.prog 25 #[u, .int .i64 x] w fun e w' => e = .returned (.bool (decide (x ∈ l))) ∧ Below w.heap.size w w' := by
  have HK := hide (indexi_any u l x w hu)
  clear hu
  go_enter Try.func25, Try.ntmps25
  go_wp2_with fail
  refine HK.out.mono ?_
  rintro en w2 ⟨⟨z, rfl, hz⟩, hb⟩
  have HB := hide hb
  by_cases h : x ∈ l
  · have h0 := hz.2 h
    have h1 : decide (z ≥ 0) = true := decide_eq_true h0
    have HD := hide (decide_eq_true h)
    clear hz hb h
    go_wp2_with fail
    go_ret
    rw [HD.out]
    exact ⟨by simp, HB.out⟩
  · have h0 : ¬ 0 ≤ z := fun c => h (hz.1 c)
    have h1 : decide (z ≥ 0) = false := decide_eq_false h0
    have HD := hide (decide_eq_false h)
    clear hz hb h
    go_wp2_with fail
    go_ret
    rw [HD.out]
    exact ⟨by simp, HB.out⟩
end Go.Proofs.Ytakojoedifhcnaa

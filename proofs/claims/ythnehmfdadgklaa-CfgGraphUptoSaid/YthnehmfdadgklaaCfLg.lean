/-
  Layer 20 (cfg): what the law calls large.
-/
import Derived.Test.YthnehmfdadgklaaCfG
import Derived.Test.YthnehmfdadgklaaCfFbk
namespace Go.Proofs.Ythnehmfdadgklaa
open Go.RowKit Go.Deep

def bigB (b : BkD) : Bool := decide (200 < b.ins.length) || decide (50 < b.params.length) || decide (50 < b.term.succs.length)
def insSum (l : List BkD) : Nat := (l.map fun b => b.ins.length).sum
def largeB (d : FnD) : Bool := decide (100 < d.blocks.length) || decide (500 < d.regs.length) || decide (50 < d.params.length) || d.blocks.any bigB || decide (500 < insSum d.blocks)
theorem insSum_next {l : List BkD} {k : Nat} {b : BkD} (h : l[k]? = some b) : insSum (l.take (k + 1)) = insSum (l.take k) + b.ins.length := by
  have hk := (List.getElem?_eq_some_iff.1 h).1
  have e1 : l[k] = b := (List.getElem?_eq_some_iff.1 h).2
  unfold insSum
  rw [List.take_succ_eq_append_getElem hk, e1]
  simp
theorem insSum_le {l : List BkD} : ∀ k, (∀ b ∈ l.take k, bigB b = false) → insSum (l.take k) ≤ 200 * k
  | 0, _ => by simp [insSum]
  | k + 1, h => by
    cases hb : l[k]? with
    | none =>
      have h1 : l.take (k + 1) = l.take k := by
        have := List.getElem?_eq_none_iff.1 hb
        rw [List.take_of_length_le (by omega), List.take_of_length_le (by omega)]
      rw [h1]
      have := insSum_le k (fun b hb => h b (by rw [h1]; exact hb))
      omega
    | some b =>
      rw [insSum_next hb]
      have hk := (List.getElem?_eq_some_iff.1 hb).1
      have e1 : l[k] = b := (List.getElem?_eq_some_iff.1 hb).2
      have h2 : l.take (k + 1) = l.take k ++ [b] := by rw [List.take_succ_eq_append_getElem hk, e1]
      have h3 := insSum_le k (fun x hx => h x (by rw [h2]; exact List.mem_append.2 (.inl hx)))
      have h4 := h b (by rw [h2]; simp)
      simp only [bigB, Bool.or_eq_false_iff, decide_eq_false_iff_not] at h4
      omega
set_option maxRecDepth 100000 in
set_option maxHeartbeats 4000000 in
theorem large_any (d : FnD) (w : World) (hd : d.ok w) : Calls Try.prog 9 #[.agg d.cells.toArray] w fun e w' => e = .returned (.bool (largeB d)) ∧ Below w.heap.size w w' := by
  have hl1 := hd.blocksB
  have hl2 := hd.regsB
  have hl3 := hd.paramsB
  unfold Fits at hl1 hl2 hl3
  obtain ⟨A, hA⟩ : ∃ A, d.blocksA = A := ⟨_, rfl⟩
  have HBl : Hid (RdN w 7 (.slice A d.blocks.length d.blocksc) (d.blocks.map BkD.cells)) := hide (by rw [← hA]; exact hd.blocks)
  have hcap : d.blocksc ≤ 9223372036854775807 := by have h := hd.blocks.room.2; unfold maxLen at h; omega
  have HX := hide hd
  obtain ⟨q, hq⟩ : ∃ q, w.heap.size = q := ⟨_, rfl⟩
  obtain ⟨w1, hw1⟩ : ∃ z, w.alloc (.cells d.cells.toArray 27) = z := ⟨_, rfl⟩
  have HB : Hid (Below w.heap.size w w1) := hide (by rw [← hw1]; exact (Below.refl _ _).alloc (Nat.le_refl _) _)
  have HA : Hid (Whole w1 q 27 d.cells.toArray) := hide (by rw [← hw1, ← hq]; exact Whole.new w _ _)
  have hi7 : (Try.prog.info? 54).map (·.size) = some 7 := by kernel_rfl
  have HU7 := hide Try.underlying54
  have HI7 := hide hi7
  have c1 : w1.cell? ⟨q, 1, none⟩ = some (.slice d.paramsA d.params.length d.paramsc) := HA.out.cell 1
  have c3 : w1.cell? ⟨q, 3, none⟩ = some (.slice d.regsA d.regs.length d.regsc) := HA.out.cell 3
  have c4 : w1.cell? ⟨q, 4, none⟩ = some (.slice A d.blocks.length d.blocksc) := by rw [← hA]; exact HA.out.cell 4
  clear hd hi7 hA
  by_cases h1 : 100 < d.blocks.length
  · have g1 : (d.blocks.length : Int) > 100 := by omega
    have hres : largeB d = true := by simp [largeB, h1]
    rw [hres]
    go_enter Try.func9, Try.ntmps9
    go_wp2_with fail
    go_ret
    exact ⟨rfl, by have := HB.out; rwa [hq] at this⟩
  have g1 : ¬ (d.blocks.length : Int) > 100 := by omega
  by_cases h2 : 500 < d.regs.length
  · have g2 : (d.regs.length : Int) > 500 := by omega
    have hres : largeB d = true := by simp [largeB, h2]
    rw [hres]
    go_enter Try.func9, Try.ntmps9
    go_wp2_with fail
    go_ret
    exact ⟨rfl, by have := HB.out; rwa [hq] at this⟩
  have g2 : ¬ (d.regs.length : Int) > 500 := by omega
  by_cases h3 : 50 < d.params.length
  · have g3 : (d.params.length : Int) > 50 := by omega
    have hres : largeB d = true := by simp [largeB, h3]
    rw [hres]
    go_enter Try.func9, Try.ntmps9
    go_wp2_with fail
    go_ret
    exact ⟨rfl, by have := HB.out; rwa [hq] at this⟩
  have g3 : ¬ (d.params.length : Int) > 50 := by omega
  go_enter Try.func9, Try.ntmps9
  go_wp2_with fail
  clear c1 c3 c4 hw1 hq
  go_loopw [3, 25] (fun n z wr => ∃ k : Nat, k ≤ d.blocks.length ∧ n = .int .i64 (insSum (d.blocks.take k) : Nat) ∧ z = .int .i64 k ∧ Hid (∀ b ∈ d.blocks.take k, bigB b = false) ∧ Hid (Below w.heap.size w wr)) (fun _ z _ => d.blocks.length - (intOf z).toNat)
  case atStart => exact ⟨0, Nat.zero_le _, by simp [insSum], rfl, hide (by simp), HB⟩
  case round =>
    obtain ⟨wq, rfl⟩ : ∃ x, x = wr := ⟨_, rfl⟩
    obtain ⟨k, hk, rfl, rfl, hbg, hb⟩ := hrel
    have hsum : insSum (d.blocks.take k) ≤ 20000 := by have := insSum_le k hbg.out; omega
    by_cases hlt : k < d.blocks.length
    · obtain ⟨b, hb0⟩ : ∃ b, d.blocks[k]? = some b := ⟨_, List.getElem?_eq_getElem hlt⟩
      have hbok := (HX.out.blocksO b (List.mem_of_getElem? hb0))
      have m1 := hbok.insB
      have m2 := hbok.paramsB
      have m3 := hbok.term.succsB
      unfold Fits at m1 m2 m3
      obtain ⟨bb, off, rfl, hlb, hrow⟩ := (HBl.out.below' hb.out).row (i := k) (r := b.cells) (by rw [List.getElem?_map, hb0]; rfl)
      have HRow : Hid (wq.rangeAt bb (off + k * 7) b.cells) := hide hrow
      have hnx := insSum_next hb0
      have HNX := hide hnx
      have HB0 := hide hb0
      clear hbok hlb hrow hb0 hnx
      go_upto_region 6 with fail
      refine wp_region_lit ?_
      go_step; go_step; go_step
      refine wpList_load_mid (by rfl) _ _ rfl bb (off + k * 7) (by rfl) b.cells _ HRow.out HU7.out rfl HI7.out ?_
      go_step; go_step; go_step
      refine wpList_store_new (by rfl) _ _ _ rfl _ _ b.cells (by rfl) (by rfl) (by rfl) HI7.out BkD.all1' ?_
      obtain ⟨bv, hbv⟩ : ∃ bv, wq.heap.size = bv := ⟨_, rfl⟩
      rw [hbv]
      obtain ⟨w3, hw3⟩ : ∃ z, wq.alloc (.cells b.cells.toArray 54) = z := ⟨_, rfl⟩
      have b13 : Below wq.heap.size wq w3 := by rw [← hw3]; exact (Below.refl _ _).alloc (Nat.le_refl _) _
      have A3 : Whole w3 bv 54 b.cells.toArray := by rw [← hw3, ← hbv]; exact Whole.new wq _ _
      have v0 : w3.cell? ⟨bv, 0, none⟩ = some (.slice b.paramsA b.params.length b.paramsc) := A3.cell 0
      have v1 : w3.cell? ⟨bv, 1, none⟩ = some (.slice b.insA b.ins.length b.insc) := A3.cell 1
      have v5 : w3.cell? ⟨bv, 5, none⟩ = some (.slice b.term.succsA b.term.succs.length b.term.succsc) := A3.cell 5
      replace hb := hide (Below.all hb.out b13)
      rw [hw3]
      clear hw3 b13 A3 HRow hbv
      by_cases k1 : 200 < b.ins.length
      · have e1 : (b.ins.length : Int) > 200 := by omega
        have hres : largeB d = true := by
          have : d.blocks.any bigB = true := List.any_eq_true.2 ⟨b, List.mem_of_getElem? HB0.out, by simp [bigB, k1]⟩
          simp [largeB, this]
        have HRS := hide hres
        clear hres
        go_wp2_with fail
        go_ret
        exact ⟨by rw [HRS.out]; rfl, hb.out⟩
      have e1 : ¬ (b.ins.length : Int) > 200 := by omega
      by_cases k2 : 50 < b.params.length
      · have e2 : (b.params.length : Int) > 50 := by omega
        have hres : largeB d = true := by
          have : d.blocks.any bigB = true := List.any_eq_true.2 ⟨b, List.mem_of_getElem? HB0.out, by simp [bigB, k2]⟩
          simp [largeB, this]
        have HRS := hide hres
        clear hres
        go_wp2_with fail
        go_ret
        exact ⟨by rw [HRS.out]; rfl, hb.out⟩
      have e2 : ¬ (b.params.length : Int) > 50 := by omega
      by_cases k3 : 50 < b.term.succs.length
      · have e3 : (b.term.succs.length : Int) > 50 := by omega
        have hres : largeB d = true := by
          have : d.blocks.any bigB = true := List.any_eq_true.2 ⟨b, List.mem_of_getElem? HB0.out, by simp [bigB, k3]⟩
          simp [largeB, this]
        have HRS := hide hres
        clear hres
        go_wp2_with fail
        go_ret
        exact ⟨by rw [HRS.out]; rfl, hb.out⟩
      have e3 : ¬ (b.term.succs.length : Int) > 50 := by omega
      have hbn : bigB b = false := by simp [bigB]; omega
      have HBn : Hid (∀ x ∈ d.blocks.take (k + 1), bigB x = false) := hide (by
        rw [List.take_succ_eq_append_getElem hlt, show d.blocks[k] = b from (List.getElem?_eq_some_iff.1 HB0.out).2]
        intro x hx
        rcases List.mem_append.1 hx with hx | hx
        · exact hbg.out x hx
        · rw [List.mem_singleton.1 hx]; exact hbn)
      clear hbn
      go_wp2_with fail
      go_roundw
      case rel => exact ⟨k + 1, by omega, by rw [HNX.out]; go_num, by go_num, HBn, hb⟩
      case measure => simp [intOf]; omega
    · have hkl : k = d.blocks.length := by omega
      have hsm : d.blocks.take k = d.blocks := by rw [hkl, List.take_length]
      have HSM := hide hsm
      have hany : d.blocks.any bigB = false := by
        rw [List.any_eq_false]
        intro x hx
        rw [hbg.out x (by rw [hsm]; exact hx)]
        simp
      have HAN := hide hany
      clear hkl hsm hany
      by_cases k9 : 500 < insSum (d.blocks.take k)
      · have e9 : ((insSum (d.blocks.take k) : Nat) : Int) > 500 := by omega
        have hres : largeB d = true := by rw [HSM.out] at k9; simp [largeB, k9]
        have HRS := hide hres
        clear hres
        go_wp2_with fail
        go_ret
        exact ⟨by rw [HRS.out]; rfl, hb.out⟩
      · have e9 : ¬ ((insSum (d.blocks.take k) : Nat) : Int) > 500 := by omega
        have hres : largeB d = false := by rw [HSM.out] at k9; simp [largeB, HAN.out, h1, h2, h3, k9]
        have HRS := hide hres
        clear hres
        go_wp2_with fail
        go_ret
        exact ⟨by rw [HRS.out]; rfl, hb.out⟩
/-- What is not large. -/
theorem not_large {d : FnD} (h : largeB d = false) : d.blocks.length ≤ 100 ∧ d.regs.length ≤ 500 ∧ d.params.length ≤ 50 ∧ ∀ b ∈ d.blocks, b.ins.length ≤ 200 ∧ b.params.length ≤ 50 ∧ b.term.succs.length ≤ 50 := by
  simp only [largeB, Bool.or_eq_false_iff, decide_eq_false_iff_not, List.any_eq_false] at h
  obtain ⟨⟨⟨⟨h1, h2⟩, h3⟩, h4⟩, _⟩ := h
  refine ⟨by omega, by omega, by omega, fun b hb => ?_⟩
  have := h4 b hb
  simp only [bigB, Bool.or_eq_true, decide_eq_true_eq, not_or] at this
  omega
end Go.Proofs.Ythnehmfdadgklaa

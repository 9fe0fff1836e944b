/-
  Layer 20 (cfg): the reference's In.
-/
import Derived.Test.YthnehmfdadgklaaCfS
namespace Go.Proofs.Ythnehmfdadgklaa
open Go.RowKit Go.Deep

set_option maxRecDepth 100000 in
set_option maxHeartbeats 8000000 in
theorem rin_any (d : FnD) (bi ix : Int) (w : World) (hd : d.ok w) : Calls Try.prog 39 #[.agg d.cells.toArray, .agg #[.int .i64 bi, .int .i64 ix]] w fun e w' => e = .returned (.bool (d.has bi ix)) ∧ Below w.heap.size w w' := by
  obtain ⟨w1, hw1⟩ : ∃ z, ((w.alloc (.cells d.cells.toArray 27)).alloc (.cells #[.int .i64 bi, .int .i64 ix] 37)) = z := ⟨_, rfl⟩
  have HB : Hid (Below w.heap.size w w1) := hide (by rw [← hw1]; exact (((Below.refl _ _).alloc (Nat.le_refl _) _).alloc (by simp [go_sem]) _))
  have HF : Hid (Whole w1 w.heap.size 27 d.cells.toArray) := hide (by rw [← hw1]; exact ((Whole.new w _ _).alloc _))
  have HP : Hid (Whole w1 (w.heap.size + 1) 37 #[.int .i64 bi, .int .i64 ix]) := hide (by rw [← hw1]; have h0 := Whole.new (w.alloc (.cells d.cells.toArray 27)) 37 #[.int .i64 bi, .int .i64 ix]; simpa [go_sem] using h0)
  obtain ⟨R, hR⟩ : ∃ R, d.has bi ix = R := ⟨_, rfl⟩
  have p0 : w1.cell? ⟨w.heap.size + 1, 0, none⟩ = some (.int .i64 bi) := HP.out.cell 0
  have p1 : w1.cell? ⟨w.heap.size + 1, 1, none⟩ = some (.int .i64 ix) := HP.out.cell 1
  have f4 : w1.cell? ⟨w.heap.size, 4, none⟩ = some (.slice d.blocksA d.blocks.length d.blocksc) := HF.out.cell 4
  rw [hR]
  rcases (show bi < 0 ∨ (0 ≤ bi ∧ (d.blocks.length : Int) ≤ bi) ∨ (0 ≤ bi ∧ bi < (d.blocks.length : Int)) by omega) with h0 | h0 | h0
  · have hres : d.has bi ix = false := by simp [FnD.has]; omega
    obtain rfl := hres.symm.trans hR
    clear hR hd hres
    have g0 : decide (bi ≥ 0) = false := by simp; omega
    go_enter Try.func39, Try.ntmps39
    go_upto_region 1 with fail
    clear hw1
    go_quiet (fail)
    go_wp2_with fail
    go_ret
    exact ⟨rfl, Below.drewN' HB.out _⟩
  · have hres : d.has bi ix = false := by simp [FnD.has]; omega
    obtain rfl := hres.symm.trans hR
    clear hR hd hres
    have g0 : decide (bi ≥ 0) = true := by simp; omega
    have g1 : decide (bi < (d.blocks.length : Int)) = false := by simp; omega
    go_enter Try.func39, Try.ntmps39
    go_upto_region 1 with fail
    clear hw1
    go_quiet (fail)
    go_wp2_with fail
    go_ret
    exact ⟨rfl, Below.drewN' HB.out _⟩
  · obtain ⟨n, rfl⟩ : ∃ n : Nat, bi = n := ⟨bi.toNat, by omega⟩
    obtain ⟨b, hb⟩ : ∃ b, d.blocks[n]? = some b := ⟨_, List.getElem?_eq_getElem (by omega)⟩
    have hres : d.has n ix = (decide (-1 ≤ ix) && decide (ix ≤ b.ins.length)) := by
      unfold FnD.has
      rw [decide_eq_true h0, Int.toNat_natCast, hb]
      rfl
    obtain ⟨bb, off, hA, hlb, hrow⟩ := (hd.blocks.below' HB.out).row (i := n) (r := b.cells) (by rw [List.getElem?_map, hb]; rfl)
    rw [hA] at f4
    have b1 : w1.cell? ⟨bb, off + n * 7 + 1, none⟩ = some (.slice b.insA b.ins.length b.insc) := hrow 1 _ rfl
    have hcap : d.blocksc ≤ 9223372036854775807 := by have h := hd.blocks.room.2; unfold maxLen at h; omega
    have hcs : b.ins.length ≤ 9223372036854775807 := by have h := (hd.blocksO b (List.mem_of_getElem? hb)).insB; unfold Fits at h; omega
    have hres := hres.symm.trans hR
    subst hres
    clear hR hd hb hA hlb hrow
    rcases (show ix < -1 ∨ (-1 ≤ ix ∧ (b.ins.length : Int) < ix) ∨ (-1 ≤ ix ∧ ix ≤ (b.ins.length : Int)) by omega) with h1 | h1 | h1
    · rw [decide_eq_false (by omega : ¬ -1 ≤ ix), Bool.false_and]
      have g0 : decide ((n : Int) ≥ 0) = true := by simp
      have g1 : decide ((n : Int) < (d.blocks.length : Int)) = true := by simp; omega
      have g2 : decide (ix ≥ -1) = false := by simp; omega
      go_enter Try.func39, Try.ntmps39
      go_upto_region 1 with fail
      clear hw1
      go_quiet (fail)
      go_wp2_with fail
      go_ret
      exact ⟨rfl, Below.drewN' HB.out _⟩
    · rw [decide_eq_true h1.1, decide_eq_false (by omega : ¬ ix ≤ (b.ins.length : Int)), Bool.true_and]
      have g0 : decide ((n : Int) ≥ 0) = true := by simp
      have g1 : decide ((n : Int) < (d.blocks.length : Int)) = true := by simp; omega
      have g2 : decide (ix ≥ -1) = true := by simp; omega
      have g3 : decide (ix ≤ (b.ins.length : Int)) = false := by simp; omega
      go_enter Try.func39, Try.ntmps39
      go_upto_region 1 with fail
      clear hw1
      go_quiet (fail)
      go_wp2_with fail
      go_ret
      exact ⟨rfl, Below.drewN' HB.out _⟩
    · rw [decide_eq_true h1.1, decide_eq_true h1.2, Bool.true_and]
      have g0 : decide ((n : Int) ≥ 0) = true := by simp
      have g1 : decide ((n : Int) < (d.blocks.length : Int)) = true := by simp; omega
      have g2 : decide (ix ≥ -1) = true := by simp; omega
      have g3 : decide (ix ≤ (b.ins.length : Int)) = true := by simp; omega
      go_enter Try.func39, Try.ntmps39
      go_upto_region 1 with fail
      clear hw1
      go_quiet (fail)
      go_wp2_with fail
      go_ret
      exact ⟨rfl, Below.drewN' HB.out _⟩
end Go.Proofs.Ythnehmfdadgklaa

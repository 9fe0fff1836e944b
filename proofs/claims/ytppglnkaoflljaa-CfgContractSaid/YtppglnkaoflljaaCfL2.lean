/-
  Layer 20 (cfg): SplitEdge where there is no such edge.
-/
import Derived.Test.YtppglnkaoflljaaCfP
namespace Go.Proofs.Ytppglnkaoflljaa
open Go.RowKit Go.Deep

def zD : FnD := ⟨⟨#[]⟩, none, 0, [], 0, none, 0, [], none, 0, []⟩
set_option maxRecDepth 100000 in
set_option maxHeartbeats 4000000 in
theorem split_noA (d : FnD) (i j : Int) (w : World) (hd : d.ok w) (hn : ¬ (0 ≤ i ∧ i < (d.blocks.length : Int))) :
    Calls Try.prog 25 #[.agg d.cells.toArray, .int .i64 i, .int .i64 j] w fun en w' => en = .returned (.tuple #[.agg zFn.toArray, .bool false]) ∧ Below w.heap.size w w' := by
  have HX := hide hd
  obtain ⟨q, hq⟩ : ∃ q, w.heap.size = q := ⟨_, rfl⟩
  obtain ⟨w1, hw1⟩ : ∃ z, (w.alloc (.cells d.cells.toArray 27)).alloc (.cells #[.string ⟨#[]⟩, .slice none 0 0, .int .i64 0, .slice none 0 0, .slice none 0 0] 27) = z := ⟨_, rfl⟩
  have HB : Hid (Below w.heap.size w w1) := hide (by rw [← hw1]; exact ((Below.refl _ _).alloc (Nat.le_refl _) _).alloc (by simp) _)
  have HA : Hid (Whole w1 q 27 d.cells.toArray) := hide (by rw [← hw1, ← hq]; exact (Whole.new w _ _).alloc _)
  have HZ : Hid (Whole w1 (q + 1) 27 zFn.toArray) := hide (by
    rw [← hw1, ← hq, show w.heap.size + 1 = (w.alloc (.cells d.cells.toArray 27)).heap.size by simp]; exact Whole.new _ _ _)
  have hQ : Hid (w.heap.size = q) := hide hq
  have hi : (Try.prog.info? 27).map (·.size) = some 5 := by kernel_rfl
  have HU := hide Try.underlying27
  have HI := hide hi
  have c4 : w1.cell? ⟨q, 4, none⟩ = some (.slice d.blocksA d.blocks.length d.blocksc) := HA.out.cell 4
  have g1 : decide (0 ≤ i ∧ i < (d.blocks.length : Int)) = false := by simpa using hn
  have hcap : d.blocksc ≤ 9223372036854775807 := by have h := hd.blocks.room.2; unfold maxLen at h; omega
  have G1 := hide g1
  clear hd hi g1 hn
  go_enter Try.func25, Try.ntmps25
  go_upto_region 1 with fail
  clear hq hw1
  go_upto_region 2 with (go_at_call 40; refine (isindex_any _ _ _).mono ?_; rintro en wn ⟨rfl, hb⟩; rw [G1.out]; replace HA := hide (HA.out.below' hb); replace HZ := hide (HZ.out.below' hb); replace HB := hide (Below.all HB.out hb); replace c4 := cell_below hb c4; clear hb)
  obtain ⟨v0, hv0⟩ : ∃ z, wn = z := ⟨_, rfl⟩
  rw [hv0] at HA HZ HB ⊢
  clear hv0 c4
  refine wp_region_lit ?_
  refine wpList_build_g (by rfl) _ _ rfl zFn (by kernel_rfl) ?_
  refine wpList_store_mid (by rfl) _ _ _ rfl (q + 1) 0 zFn.toArray (by rfl) (by rfl) HZ.out.room HI.out (FnD.all1' (x := zD)) ?_
  rw [show zFn.toArray.toList = zFn from rfl]
  obtain ⟨w9, hw9⟩ : ∃ z, v0.setCells (q + 1) 0 zFn = z := ⟨_, rfl⟩
  have hl : (loadVar 27 ⟨q + 1, 0, none⟩).run Try.prog w9 = .ok (.agg zFn.toArray) w9 := by
    rw [← hw9]
    exact Whole.ret (cs := zFn) (Whole.put (old := zFn) HZ.out rfl) HU.out rfl HI.out
  have f9 := frm_setCells (g := q + 1) zFn 0 v0
  rw [hw9] at f9
  have HB9 : Hid (Below w.heap.size w w9) := hide (HB.out.trans (f9.toBelow (fun b hb => by rw [List.mem_singleton.1 hb]; have := hQ.out; omega) HB.out.size))
  rw [hw9]
  clear hw9 f9
  have HL := hide hl
  clear hl
  go_wp2_with fail
  refine bodyPost_ret (v := .tuple #[.agg zFn.toArray, .bool false]) ?_ rfl ⟨rfl, HB9.out⟩
  simp [results, Try.f25, asAddr, HL.out]
set_option maxRecDepth 100000 in
set_option maxHeartbeats 4000000 in
theorem split_noB (d : FnD) (i : Nat) (j : Int) (b : BkD) (w : World) (hd : d.ok w) (hb : d.blocks[i]? = some b) (hn : ¬ (0 ≤ j ∧ j < (b.term.succs.length : Int))) :
    Calls Try.prog 25 #[.agg d.cells.toArray, .int .i64 i, .int .i64 j] w fun en w' => en = .returned (.tuple #[.agg zFn.toArray, .bool false]) ∧ Below w.heap.size w w' := by
  have HX := hide hd
  obtain ⟨q, hq⟩ : ∃ q, w.heap.size = q := ⟨_, rfl⟩
  obtain ⟨w1, hw1⟩ : ∃ z, (w.alloc (.cells d.cells.toArray 27)).alloc (.cells #[.string ⟨#[]⟩, .slice none 0 0, .int .i64 0, .slice none 0 0, .slice none 0 0] 27) = z := ⟨_, rfl⟩
  have HB : Hid (Below w.heap.size w w1) := hide (by rw [← hw1]; exact ((Below.refl _ _).alloc (Nat.le_refl _) _).alloc (by simp) _)
  have HA : Hid (Whole w1 q 27 d.cells.toArray) := hide (by rw [← hw1, ← hq]; exact (Whole.new w _ _).alloc _)
  have HZ : Hid (Whole w1 (q + 1) 27 zFn.toArray) := hide (by
    rw [← hw1, ← hq, show w.heap.size + 1 = (w.alloc (.cells d.cells.toArray 27)).heap.size by simp]; exact Whole.new _ _ _)
  have hQ : Hid (w.heap.size = q) := hide hq
  have hi : (Try.prog.info? 27).map (·.size) = some 5 := by kernel_rfl
  have HU := hide Try.underlying27
  have HI := hide hi
  have hil : i < d.blocks.length := (List.getElem?_eq_some_iff.1 hb).1
  obtain ⟨bb, off, hA, hlb, hrow⟩ := (hd.blocks.below' HB.out).row (i := i) (r := b.cells) (by rw [List.getElem?_map, hb]; rfl)
  have c4 : w1.cell? ⟨q, 4, none⟩ = some (.slice (some ⟨bb, off, none⟩) d.blocks.length d.blocksc) := by rw [← hA]; exact HA.out.cell 4
  have c5 : w1.cell? ⟨bb, off + i * 7 + 5, none⟩ = some (.slice b.term.succsA b.term.succs.length b.term.succsc) := hrow 5 _ rfl
  have hbbl : bb < w1.heap.size := hlb
  have HL1 := hide hbbl
  have g1 : decide (0 ≤ (i : Int) ∧ (i : Int) < (d.blocks.length : Int)) = true := by simp; omega
  have g2 : decide (0 ≤ j ∧ j < (b.term.succs.length : Int)) = false := by simpa using hn
  have hcap : d.blocksc ≤ 9223372036854775807 := by have h := hd.blocks.room.2; unfold maxLen at h; omega
  have G1 := hide g1
  have G2 := hide g2
  clear hd hi g1 g2 hn hb hrow hlb hA hbbl
  go_enter Try.func25, Try.ntmps25
  go_upto_region 1 with fail
  clear hq hw1
  go_upto_region 2 with (go_at_call 40; refine (isindex_any _ _ _).mono ?_; rintro en wn ⟨rfl, hb⟩; (first | rw [G1.out] | rw [G2.out]); replace HA := hide (HA.out.below' hb); replace HZ := hide (HZ.out.below' hb); replace HB := hide (Below.all HB.out hb); replace c4 := cell_below hb c4; replace c5 := cell_below hb c5; clear hb)
  obtain ⟨v0, hv0⟩ : ∃ z, wn = z := ⟨_, rfl⟩
  rw [hv0] at HA HZ HB ⊢
  clear hv0 c4 c5
  refine wp_region_lit ?_
  refine wpList_build_g (by rfl) _ _ rfl zFn (by kernel_rfl) ?_
  refine wpList_store_mid (by rfl) _ _ _ rfl (q + 1) 0 zFn.toArray (by rfl) (by rfl) HZ.out.room HI.out (FnD.all1' (x := zD)) ?_
  rw [show zFn.toArray.toList = zFn from rfl]
  obtain ⟨w9, hw9⟩ : ∃ z, v0.setCells (q + 1) 0 zFn = z := ⟨_, rfl⟩
  have hl : (loadVar 27 ⟨q + 1, 0, none⟩).run Try.prog w9 = .ok (.agg zFn.toArray) w9 := by
    rw [← hw9]
    exact Whole.ret (cs := zFn) (Whole.put (old := zFn) HZ.out rfl) HU.out rfl HI.out
  have f9 := frm_setCells (g := q + 1) zFn 0 v0
  rw [hw9] at f9
  have HB9 : Hid (Below w.heap.size w w9) := hide (HB.out.trans (f9.toBelow (fun b hb => by rw [List.mem_singleton.1 hb]; have := hQ.out; omega) HB.out.size))
  rw [hw9]
  clear hw9 f9
  have HL := hide hl
  clear hl
  go_wp2_with fail
  refine bodyPost_ret (v := .tuple #[.agg zFn.toArray, .bool false]) ?_ rfl ⟨rfl, HB9.out⟩
  simp [results, Try.f25, asAddr, HL.out]
end Go.Proofs.Ytppglnkaoflljaa

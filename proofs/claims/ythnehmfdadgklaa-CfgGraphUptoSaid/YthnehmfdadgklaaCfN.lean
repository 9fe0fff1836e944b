/-
  Layer 20 (cfg): Graph.
-/
import Derived.Test.YthnehmfdadgklaaCfM
import Derived.Test.YthnehmfdadgklaaCfG
import Derived.Test.YthnehmfdadgklaaCfFbk
import Derived.Deep.RegionHeld3
namespace Go.Proofs.Ythnehmfdadgklaa
open Go.RowKit Go.Deep

/-- The successors of a block, the graph of a function. -/
def BkD.out (b : BkD) : List Int := b.term.succs.map EdD.blk
def FnD.graph (d : FnD) : List (List Int) := d.blocks.map BkD.out
/-- Its first a rows. -/
def grAt (d : FnD) (a : Nat) : List (List Int) := d.graph.take a ++ List.replicate (d.blocks.length - a) []
theorem take_rep {α : Type} {l : List α} {j : Nat} {z y : α} (h : l[j]? = some z) : (l.take j ++ List.replicate (l.length - j) y).set j z = l.take (j + 1) ++ List.replicate (l.length - (j + 1)) y := by
  have hj := (List.getElem?_eq_some_iff.1 h).1
  have e1 : (l.take j).length = j := by rw [List.length_take]; omega
  have e2 : l.length - j = (l.length - (j + 1)) + 1 := by omega
  have e3 : l[j] = z := (List.getElem?_eq_some_iff.1 h).2
  rw [List.set_append_right _ _ (by omega), e1, Nat.sub_self, e2, List.replicate_succ, List.set_cons_zero, List.take_succ_eq_append_getElem hj, e3]
  simp
theorem FnD.graph_len (d : FnD) : d.graph.length = d.blocks.length := by simp [FnD.graph]
theorem FnD.graph_at {d : FnD} {a : Nat} {b : BkD} (h : d.blocks[a]? = some b) : d.graph[a]? = some b.out := by simp [FnD.graph, h]
theorem grAt_next {d : FnD} {a : Nat} {b : BkD} (h : d.blocks[a]? = some b) : (grAt d a).set a b.out = grAt d (a + 1) := by
  unfold grAt
  rw [← d.graph_len]
  exact take_rep (FnD.graph_at h)
theorem grAt_at {d : FnD} {a : Nat} {b : BkD} (h : d.blocks[a]? = some b) : (grAt d a)[a]? = some [] := by
  have ha := (List.getElem?_eq_some_iff.1 h).1
  have e1 : (d.graph.take a).length = a := by rw [List.length_take, d.graph_len]; omega
  unfold grAt
  rw [List.getElem?_append_right (by omega), e1, Nat.sub_self, List.getElem?_replicate]
  rw [if_pos (by omega)]
theorem grAt_all (d : FnD) : grAt d d.blocks.length = d.graph := by
  unfold grAt
  rw [Nat.sub_self, ← d.graph_len]
  simp
/-- The row of block a being filled: its first j places. -/
def grIn (d : FnD) (a : Nat) (b : BkD) (j : Nat) : List (List Int) := (grAt d a).set a (b.out.take j ++ List.replicate (b.out.length - j) 0)
theorem grIn_next {d : FnD} {a : Nat} {b : BkD} {j : Nat} {z : Int} (h : d.blocks[a]? = some b) (hz : b.out[j]? = some z) : ∃ l, (grIn d a b j)[a]? = some l ∧ (grIn d a b j).set a (l.set j z) = grIn d a b (j + 1) := by
  have ha : a < (grAt d a).length := (List.getElem?_eq_some_iff.1 (grAt_at h)).1
  refine ⟨b.out.take j ++ List.replicate (b.out.length - j) 0, by unfold grIn; rw [List.getElem?_set_self ha], ?_⟩
  unfold grIn
  rw [List.set_set, take_rep hz]
theorem grIn_all {d : FnD} {a : Nat} {b : BkD} (h : d.blocks[a]? = some b) : grIn d a b b.out.length = grAt d (a + 1) := by
  unfold grIn
  rw [Nat.sub_self, List.take_of_length_le (Nat.le_refl _), List.replicate_zero, List.append_nil]
  exact grAt_next h
theorem BkD.out_len (b : BkD) : b.out.length = b.term.succs.length := by simp [BkD.out]
theorem BkD.out_at {b : BkD} {j : Nat} {e : EdD} (h : b.term.succs[j]? = some e) : b.out[j]? = some e.blk := by simp [BkD.out, h]
set_option maxRecDepth 100000 in
set_option maxHeartbeats 2000000 in
theorem graph_any (d : FnD) (w : World) (hd : d.ok w) (hn : d.blocks.length ≤ 131072) (hm : ∀ b ∈ d.blocks, b.term.succs.length ≤ 131072) :
    Calls Try.prog 12 #[.agg d.cells.toArray] w fun e w' => ∃ D R, e = .returned (.agg #[.slice (some ⟨D, 0, none⟩) d.blocks.length d.blocks.length]) ∧ OwnL w' w.heap.size D R d.graph ∧ Below w.heap.size w w' := by
  obtain ⟨A, hA⟩ : ∃ A, d.blocksA = A := ⟨_, rfl⟩
  have HBl : Hid (RdN w 7 (.slice A d.blocks.length d.blocksc) (d.blocks.map BkD.cells)) := hide (by rw [← hA]; exact hd.blocks)
  have HX := hide hd
  have HM := hide hm
  have HN := hide hn
  obtain ⟨q, hq⟩ : ∃ q, w.heap.size = q := ⟨_, rfl⟩
  obtain ⟨w1, hw1⟩ : ∃ z, (w.alloc (.cells d.cells.toArray 27)).alloc (.cells #[.slice none 0 0] 33) = z := ⟨_, rfl⟩
  have HB : Hid (Below w.heap.size w w1) := hide (by rw [← hw1]; exact ((Below.refl _ _).alloc (Nat.le_refl _) _).alloc (by simp) _)
  have HA : Hid (Whole w1 q 27 d.cells.toArray) := hide (by rw [← hw1, ← hq]; exact (Whole.new w _ _).alloc _)
  have HZ : Hid (Whole w1 (q + 1) 33 #[.slice none 0 0]) := hide (by
    rw [← hw1, ← hq, show w.heap.size + 1 = (w.alloc (.cells d.cells.toArray 27)).heap.size by simp]; exact Whole.new _ _ _)
  have hqs : Hid (q + 2 ≤ w1.heap.size) := hide (by rw [← hw1, ← hq]; simp)
  have hQ : Hid (w.heap.size = q) := hide hq
  have c4 : w1.cell? ⟨q, 4, none⟩ = some (.slice A d.blocks.length d.blocksc) := by rw [← hA]; exact HA.out.cell 4
  have hmk := run_made w1 31 22 (.slice none 0 0) 24 Try.underlying31 intsI rfl (by omega) d.blocks.length hn
  have hcap : d.blocksc ≤ 9223372036854775807 := by have h := hd.blocks.room.2; unfold maxLen at h; omega
  clear hd hm hn hA
  go_enter Try.func12, Try.ntmps12
  go_upto_region 1 with fail
  clear hw1 hq
  go_upto_region 2 with fail
  clear hmk
  obtain ⟨D, hD⟩ : ∃ D, w1.heap.size = D := ⟨_, rfl⟩
  rw [hD]
  obtain ⟨w2, hw2⟩ : ∃ z, ((w1.alloc (.cells (madeCells #[.slice none 0 0] d.blocks.length) 22)).alloc (.cells #[.slice (some ⟨D, 0, none⟩) d.blocks.length d.blocks.length] 33)) = z := ⟨_, rfl⟩
  have HL : Hid (OwnL w2 D D (List.replicate d.blocks.length (.slice none 0 0)) (grAt d 0)) := hide (by
    rw [← hw2, ← hD]
    have h1 := OwnL.made w1 w1.heap.size d.blocks.length (by have := HN.out; unfold maxLen; omega) (Nat.le_refl _)
    have h2 := h1.next ((Below.refl _ _).alloc (Nat.le_refl _) (.cells #[.slice (some ⟨w1.heap.size, 0, none⟩) d.blocks.length d.blocks.length] 33))
    simpa [grAt] using h2)
  have HG : Hid (Whole w2 (D + 1) 33 #[.slice (some ⟨D, 0, none⟩) d.blocks.length d.blocks.length]) := hide (by
    rw [← hw2, ← hD, show w1.heap.size + 1 = (w1.alloc (.cells (madeCells #[.slice none 0 0] d.blocks.length) 22)).heap.size by simp]; exact Whole.new _ _ _)
  have HB2 : Hid (Below D w1 w2) := hide (by rw [← hw2, ← hD]; exact ((Below.refl _ _).alloc (Nat.le_refl _) _).alloc (by simp) _)
  have HD := hide hD
  have c4' : w2.cell? ⟨q, 4, none⟩ = some (.slice A d.blocks.length d.blocksc) := (HB2.out.cell (p := ⟨q, 4, none⟩) (by show q < D; have := hqs.out; omega)).trans c4
  have hu := Try.underlying54
  have hi : (Try.prog.info? 54).map (·.size) = some 7 := by kernel_rfl
  have hu2 := Try.underlying56
  have hi2 : (Try.prog.info? 56).map (·.size) = some 2 := by kernel_rfl
  have HU := hide hu
  have HI := hide hi
  have HU2 := hide hu2
  have HI2 := hide hi2
  have hn1 : d.blocks.length ≤ 131072 := HN.out
  rw [hw2]
  clear hw2 hD c4 hu hi hu2 hi2
  go_wp2_with fail
  clear c4'
  go_loopw [16] (fun z wr => ∃ (a : Nat) (R : List Value), a ≤ d.blocks.length ∧ z = .int .i64 a ∧ Hid (R.length = d.blocks.length) ∧ Hid (OwnL wr D D R (grAt d a)) ∧ Hid (Whole wr (D + 1) 33 #[.slice (some ⟨D, 0, none⟩) d.blocks.length d.blocks.length]) ∧ Hid (Below D w1 wr)) (fun z _ => d.blocks.length - (intOf z).toNat)
  case atStart => exact ⟨0, _, Nat.zero_le _, rfl, hide (by simp), HL, HG, HB2⟩
  case round =>
    clear HL HG HB2
    obtain ⟨wq, rfl⟩ : ∃ x, x = wr := ⟨_, rfl⟩
    obtain ⟨a, R, ha, rfl, hR, hL, hG, hb⟩ := hrel
    by_cases hlt : a < d.blocks.length
    · obtain ⟨b, hb0⟩ : ∃ b, d.blocks[a]? = some b := ⟨_, List.getElem?_eq_getElem hlt⟩
      have hbw : Below w.heap.size w wq := HB.out.trans (hb.out.mono (by have := HD.out; have := HB.out.size; omega))
      obtain ⟨bb, off, rfl, hlb, hrow⟩ := (HBl.out.below' hbw).row (i := a) (r := b.cells) (by rw [List.getElem?_map, hb0]; rfl)
      have hbo := (HX.out.blocksO b (List.mem_of_getElem? hb0)).below hbw
      have HBO := hide hbo
      have HRow : Hid (wq.rangeAt bb (off + a * 7) b.cells) := hide hrow
      have HB0 := hide hb0
      clear hb0 hbw hbo hrow hlb
      go_upto_region 4 with fail
      refine wp_region_lit ?_
      go_step; go_step; go_step
      go_step; go_step; go_step
      refine wpList_load_mid (by rfl) _ _ rfl bb (off + a * 7) (by rfl) b.cells _ HRow.out HU.out rfl HI.out ?_
      go_step; go_step; go_step
      go_step; go_step; go_step
      refine wpList_store_new (by rfl) _ _ _ rfl _ _ b.cells (by rfl) (by rfl) (by rfl) HI.out BkD.all1' ?_
      obtain ⟨bv, hbv⟩ : ∃ bv, wq.heap.size = bv := ⟨_, rfl⟩
      have hbvl : Hid (D + 1 < bv) := hide (by rw [← hbv]; exact hG.out.lt)
      rw [hbv]
      obtain ⟨w3, hw3⟩ : ∃ z, wq.alloc (.cells b.cells.toArray 54) = z := ⟨_, rfl⟩
      have b13 : Below wq.heap.size wq w3 := by rw [← hw3]; exact (Below.refl _ _).alloc (Nat.le_refl _) _
      have A3 : Whole w3 bv 54 b.cells.toArray := by rw [← hw3, ← hbv]; exact Whole.new wq _ _
      rw [hw3]
      obtain ⟨SA, hSA⟩ : ∃ SA, b.term.succsA = SA := ⟨_, rfl⟩
      have c5 : w3.cell? ⟨bv, 5, none⟩ = some (.slice SA b.term.succs.length b.term.succsc) := by rw [← hSA]; exact A3.cell 5
      replace hG := hide (hG.out.below' b13)
      have cg : w3.cell? ⟨D + 1, 0, none⟩ = some (.slice (some ⟨D, 0, none⟩) d.blocks.length d.blocks.length) := hG.out.cell 0
      replace hL := hide (hL.out.next b13)
      replace hb := hide (hb.out.trans (b13.mono (by have := hb.out.size; have := HD.out; omega)))
      have HA3 := hide A3
      clear hw3 b13 A3 HRow
      have hml : b.term.succs.length ≤ 131072 := HM.out b (List.mem_of_getElem? HB0.out)
      have hmk : ∀ W, (Instr.makeSlice 22 (.int .i64 (b.term.succs.length : Nat)) (.int .i64 (b.term.succs.length : Nat))).run Try.prog W = .ok (.slice (some ⟨W.heap.size, 0, none⟩) b.term.succs.length b.term.succs.length) (W.alloc (.cells (madeCells #[.int .i64 0] b.term.succs.length) 3)) := fun W => run_made W 22 3 (.int .i64 0) 8 Try.underlying22 intI rfl (by omega) _ hml
      go_upto_region 5 with fail
      obtain ⟨v0, hv0⟩ : ∃ v, R[a]? = some v := ⟨_, List.getElem?_eq_getElem (by rw [hR.out]; exact hlt)⟩
      have cd : w3.cell? ⟨D, a, none⟩ = some v0 := hL.out.own.cellAt hv0
      have fd : w3.frozen? ⟨D, a, none⟩ = false := hL.out.own.freeAt a
      have hDl : D < w3.heap.size := hL.out.lt.2
      have cdA : ∀ o, (w3.alloc o).cell? ⟨D, a, none⟩ = some v0 := fun o => (((Below.refl w3.heap.size w3).alloc (Nat.le_refl _) o).cell (p := ⟨D, a, none⟩) hDl).trans cd
      have fdA : ∀ o, (w3.alloc o).frozen? ⟨D, a, none⟩ = false := fun o => (((Below.refl w3.heap.size w3).alloc (Nat.le_refl _) o).frozen (p := ⟨D, a, none⟩) hDl).trans fd
      have hDs : D + 1 < w3.heap.size := hG.out.lt
      have hbs : bv < w3.heap.size := HA3.out.lt
      have hDb : D ≠ bv := by have := hbvl.out; omega
      have cgA : ∀ o, (w3.alloc o).cell? ⟨D + 1, 0, none⟩ = some (.slice (some ⟨D, 0, none⟩) d.blocks.length d.blocks.length) := fun o => (((Below.refl w3.heap.size w3).alloc (Nat.le_refl _) o).cell (p := ⟨D + 1, 0, none⟩) hDs).trans cg
      have c5A : ∀ o, (w3.alloc o).cell? ⟨bv, 5, none⟩ = some (.slice SA b.term.succs.length b.term.succsc) := fun o => (((Below.refl w3.heap.size w3).alloc (Nat.le_refl _) o).cell (p := ⟨bv, 5, none⟩) hbs).trans c5
      have hfs : ∀ v o, Frm w3 ((w3.setCell ⟨D, a, none⟩ v).alloc o) [D] := fun v o => ((Frm.refl w3 [D]).setCell ⟨D, a, none⟩ v (.inl (by simp))).alloc o
      have cgS : ∀ v o, ((w3.setCell ⟨D, a, none⟩ v).alloc o).cell? ⟨D + 1, 0, none⟩ = some (.slice (some ⟨D, 0, none⟩) d.blocks.length d.blocks.length) := fun v o => ((hfs v o).cell (p := ⟨D + 1, 0, none⟩) hDs (by simp)).trans cg
      have c5S : ∀ v o, ((w3.setCell ⟨D, a, none⟩ v).alloc o).cell? ⟨bv, 5, none⟩ = some (.slice SA b.term.succs.length b.term.succsc) := fun v o => ((hfs v o).cell (p := ⟨bv, 5, none⟩) hbs (by simp; omega)).trans c5
      have HFS := hide hfs
      have HCG := hide (And.intro cg c5)
      have HCA := hide (And.intro cgA c5A)
      have HCS := hide (And.intro cgS c5S)
      have HV := hide hv0
      clear hfs cgA c5A cgS c5S hv0 hDs hbs hDb
      go_region_held3 (fun w' => w'.cell? ⟨D + 1, 0, none⟩ = some (.slice (some ⟨D, 0, none⟩) d.blocks.length d.blocks.length) ∧ w'.cell? ⟨bv, 5, none⟩ = some (.slice SA b.term.succs.length b.term.succsc)) (first | exact HCG.out | exact ⟨HCA.out.1 _, HCA.out.2 _⟩ | exact ⟨HCS.out.1 _ _, HCS.out.2 _ _⟩) (fail)
      obtain ⟨w4, hw4⟩ : ∃ z, ((w3.setCell ⟨D, a, none⟩ (.slice (some ⟨w3.heap.size, 0, none⟩) b.term.succs.length b.term.succs.length)).alloc (.cells (madeCells #[.int .i64 0] b.term.succs.length) 3)).drew = z := ⟨_, rfl⟩
      obtain ⟨rb, hrb⟩ : ∃ rb, w3.heap.size = rb := ⟨_, rfl⟩
      have HL4 : Hid (OwnL w4 D D (R.set a (.slice (some ⟨rb, 0, none⟩) b.term.succs.length b.term.succs.length)) (grIn d a b 0)) := hide (by
        have hal := (Below.refl w3.heap.size w3).alloc (Nat.le_refl _) (.cells (madeCells #[.int .i64 0] b.term.succs.length) 3)
        have hp := hL.out.push (w' := w3.alloc (.cells (madeCells #[.int .i64 0] b.term.succs.length) 3)) (v' := .slice (some ⟨w3.heap.size, 0, none⟩) b.term.succs.length b.term.succs.length) HV.out (grAt_at HB0.out) (Frm.below hal) (own_made_ints w3 D b.term.succs.length (by unfold maxLen; omega) (by have := hL.out.lt; omega)) (.inr (fun g hg => by injection hg with hg; exact Nat.le_of_eq hg))
        rw [World.setCell_alloc_past _ _ _ _ hL.out.lt.2] at hp
        rw [← hw4, ← hrb]
        have e0 : grIn d a b 0 = (grAt d a).set a (List.replicate b.term.succs.length 0) := by unfold grIn; rw [b.out_len]; simp
        rw [e0]
        exact hp.frm (Frm.drew _ _))
      have hrbs : Hid (bv < rb) := hide (by rw [← hrb]; exact HA3.out.lt)
      have f4 : Frm w3 w4 [D] := by rw [← hw4]; exact (HFS.out _ _).drewN 1
      replace hG := hide (hG.out.frm f4 (by simp))
      replace HA3 := hide (HA3.out.frm f4 (by have := hbvl.out; simp; omega))
      replace hb := hide (hb.out.trans (f4.toBelow (fun g hg => by rw [List.mem_singleton.1 hg]; exact Nat.le_refl _) (by have := hb.out.size; have := HD.out; omega)))
      rw [hrb] at hw4
      rw [hrb, hw4]
      have c5' : w4.cell? ⟨bv, 5, none⟩ = some (.slice SA b.term.succs.length b.term.succsc) := by rw [← hSA]; exact HA3.out.cell 5
      clear f4 hw4 hrb HFS HCG HCA HCS cg c5 cd fd cdA fdA hDl hL hmk
      have hRa : Hid ((R.set a (.slice (some ⟨rb, 0, none⟩) b.term.succs.length b.term.succs.length))[a]? = some (.slice (some ⟨rb, 0, none⟩) b.term.succs.length b.term.succs.length)) := hide (List.getElem?_set_self (by rw [hR.out]; exact hlt))
      have hRl : Hid ((R.set a (.slice (some ⟨rb, 0, none⟩) b.term.succs.length b.term.succs.length)).length = d.blocks.length) := hide (by rw [List.length_set]; exact hR.out)
      obtain ⟨R2, hR2⟩ : ∃ R2, R.set a (.slice (some ⟨rb, 0, none⟩) b.term.succs.length b.term.succs.length) = R2 := ⟨_, rfl⟩
      rw [hR2] at HL4 hRa hRl
      clear hR2 hR HV
      have HSu : Hid (RdN w 2 (.slice SA b.term.succs.length b.term.succsc) (b.term.succs.map EdD.cells)) := hide (by
        rw [← hSA]
        exact (HX.out.blocksO b (List.mem_of_getElem? HB0.out)).term.succs)
      have hsc : b.term.succsc ≤ 9223372036854775807 := by have h := HSu.out.room.2; unfold maxLen at h; omega
      clear hSA
      go_wp2_with fail
      clear c5'
      go_loopw [34] (fun z wr => ∃ j : Nat, j ≤ b.term.succs.length ∧ z = .int .i64 j ∧ Hid (OwnL wr D D R2 (grIn d a b j)) ∧ Hid (Whole wr (D + 1) 33 #[.slice (some ⟨D, 0, none⟩) d.blocks.length d.blocks.length]) ∧ Hid (Below D w1 wr) ∧ Hid (Below w4.heap.size w4 wr ∨ 0 < j)) (fun z _ => b.term.succs.length - (intOf z).toNat)
      case atStart => exact ⟨0, Nat.zero_le _, rfl, HL4, hG, hb, hide (.inl (Below.refl _ _))⟩
      case round =>
        clear HL4 hG hb
        obtain ⟨wp, rfl⟩ : ∃ x, x = wr := ⟨_, rfl⟩
        obtain ⟨j, hj, rfl, hL, hG, hb, hz⟩ := hrel
        clear hz
        by_cases hlt2 : j < b.term.succs.length
        · obtain ⟨e, he0⟩ : ∃ e, b.term.succs[j]? = some e := ⟨_, List.getElem?_eq_getElem hlt2⟩
          have hbw : Below w.heap.size w wp := HB.out.trans (hb.out.mono (by have := HD.out; have := HB.out.size; omega))
          have hsu : RdN wp 2 (.slice SA b.term.succs.length b.term.succsc) (b.term.succs.map EdD.cells) := HSu.out.below' hbw
          obtain ⟨b2, off2, rfl, hlb, hrow⟩ := hsu.row (i := j) (r := e.cells) (by rw [List.getElem?_map, he0]; rfl)
          have HRow : Hid (wp.rangeAt b2 (off2 + j * 2) e.cells) := hide hrow
          have HE0 := hide he0
          clear he0 hbw hsu hrow hlb
          go_upto_region 8 with fail
          refine wp_region_lit ?_
          go_step; go_step; go_step
          go_step; go_step; go_step
          refine wpList_load_mid (by rfl) _ _ rfl b2 (off2 + j * 2) (by rfl) e.cells _ HRow.out HU2.out rfl HI2.out ?_
          go_step; go_step; go_step
          go_step; go_step; go_step
          refine wpList_store_new (by rfl) _ _ _ rfl _ _ e.cells (by rfl) (by rfl) (by rfl) HI2.out EdD.all1' ?_
          obtain ⟨ev, hev⟩ : ∃ ev, wp.heap.size = ev := ⟨_, rfl⟩
          have hevl : Hid (D + 1 < ev) := hide (by rw [← hev]; exact hG.out.lt)
          rw [hev]
          obtain ⟨w5, hw5⟩ : ∃ z, wp.alloc (.cells e.cells.toArray 56) = z := ⟨_, rfl⟩
          have b15 : Below wp.heap.size wp w5 := by rw [← hw5]; exact (Below.refl _ _).alloc (Nat.le_refl _) _
          have A5 : Whole w5 ev 56 e.cells.toArray := by rw [← hw5, ← hev]; exact Whole.new wp _ _
          rw [hw5]
          have c0 : w5.cell? ⟨ev, 0, none⟩ = some (.int .i64 e.blk) := A5.cell 0
          replace hG := hide (hG.out.below' b15)
          have cg : w5.cell? ⟨D + 1, 0, none⟩ = some (.slice (some ⟨D, 0, none⟩) d.blocks.length d.blocks.length) := hG.out.cell 0
          replace hL := hide (hL.out.next b15)
          replace hb := hide (hb.out.trans (b15.mono (by have := hb.out.size; have := HD.out; omega)))
          have cd : w5.cell? ⟨D, a, none⟩ = some (.slice (some ⟨rb, 0, none⟩) b.term.succs.length b.term.succs.length) := hL.out.own.cellAt hRa.out
          obtain ⟨l, hl1, hl2⟩ := grIn_next HB0.out (BkD.out_at HE0.out)
          have hrow := hL.out.row a _ l hRa.out hl1
          have hll : l.length = b.term.succs.length := by
            obtain ⟨_, _, e1, _⟩ := hrow.rd
            injection e1 with _ e1 _
            exact e1.symm
          obtain ⟨z0, hz0⟩ : ∃ z, l[j]? = some z := ⟨_, List.getElem?_eq_getElem (by omega)⟩
          have cr : w5.cell? ⟨rb, j, none⟩ = some (.int .i64 z0) := hrow.cellAt hz0
          have fr : w5.frozen? ⟨rb, j, none⟩ = false := hrow.freeAt j
          have HL5 : Hid (OwnL (w5.setCell ⟨rb, j, none⟩ (.int .i64 e.blk)) D D R2 (grIn d a b (j + 1))) := hide (by rw [← hl2]; exact hL.out.poke hRa.out hl1)
          have f5 := (Frm.refl w5 [rb]).setCell ⟨rb, j, none⟩ (.int .i64 e.blk) (.inl (by simp))
          have hG5 := hide (hG.out.frm f5 (by have := hrbs.out; have := hbvl.out; simp; omega))
          have hb5 := hide (hb.out.trans (f5.toBelow (B := D) (fun g hg => by rw [List.mem_singleton.1 hg]; have := hrbs.out; have := hbvl.out; omega) (by have := hb.out.size; have := HD.out; omega)))
          clear hw5 b15 A5 HRow hL hl1 hl2 hrow hll hz0 f5 hG hb hev
          go_upto_region 9 with fail
          go_still_tail 9, (by kernel_rfl)
          change wpList _ _ _ _ _ w5.drew
          go_wp2_with fail
          go_roundw
          case rel => exact ⟨j + 1, by omega, by go_num, hide (HL5.out.frm (Frm.drew _ _)), hide (hG5.out.drewN 1), hide (Below.drewN' hb5.out 1), hide (.inr (by omega))⟩
          case measure => simp [intOf]; omega
        · have hjl : j = b.term.succs.length := by omega
          have HJ := hide hjl
          clear hjl
          go_wp2_with fail
          go_roundw
          case rel =>
            have e1 : grIn d a b j = grAt d (a + 1) := by rw [HJ.out, ← b.out_len]; exact grIn_all HB0.out
            exact ⟨a + 1, R2, by omega, by go_num, hRl, hide (by rw [← e1]; exact hL.out), hG, hb⟩
          case measure => simp [intOf]; omega
    · have hkl : a = d.blocks.length := by omega
      have HK := hide hkl
      have hRl := hR.out
      have cg : wq.cell? ⟨D + 1, 0, none⟩ = some (.slice (some ⟨D, 0, none⟩) d.blocks.length d.blocks.length) := hG.out.cell 0
      have hZq : Whole wq (q + 1) 33 #[.slice none 0 0] := HZ.out.below hb.out (by have := hqs.out; have := HD.out; omega)
      have cz : wq.cell? ⟨q + 1, 0, none⟩ = some (.slice none 0 0) := hZq.cell 0
      have fz : wq.frozen? ⟨q + 1, 0, none⟩ = false := hZq.free 0
      have HZq := hide hZq
      have HRl := hide hRl
      clear hkl hZq hRl
      go_wp2_with fail
      have e1 : grAt d a = d.graph := by rw [HK.out]; exact grAt_all d
      have hq1 : q + 1 < D := by have := hqs.out; have := HD.out; omega
      have hf := (Frm.refl wq [q + 1]).setCell ⟨q + 1, 0, none⟩ (.slice (some ⟨D, 0, none⟩) d.blocks.length d.blocks.length) (.inl (by simp))
      have hD1 : w.heap.size ≤ D := by have := HB.out.size; have := HD.out; omega
      refine bodyPost_ret (v := .agg #[.slice (some ⟨D, 0, none⟩) d.blocks.length d.blocks.length]) ?_ rfl ⟨D, R, rfl, ?_, ?_⟩
      · simp [results, Try.f12, asAddr, go_sem, cz]
      · rw [← e1]
        exact (hL.out.far hf (fun g hg => by rw [List.mem_singleton.1 hg]; exact hq1)).low hD1
      · exact (HB.out.trans (hb.out.mono hD1)).setCell (by show w.heap.size ≤ q + 1; rw [hQ.out]; omega) _
end Go.Proofs.Ythnehmfdadgklaa

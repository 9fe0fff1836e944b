/-
  Layer 8 (domtree): least and newForest.
-/
import Derived.Test.YtmopnceglnoncaaForestAt
import Derived.Deep.RegionHeld3
namespace Go.Proofs.Ytmopnceglnoncaa
open Go.RowKit

set_option maxRecDepth 100000 in
set_option maxHeartbeats 8000000 in
theorem least_any {E : Nat → Nat → Prop} {par : Nat → Nat} (ub bb fb sb m k : Nat) (D : Dft m E par) (semi : Nat → Nat) (hm : m ≤ 65536) (p : Nat) (up : Nat → Int) (best : Nat → Nat) (w : World) (hp : p < m) (F : Forest m k par semi up best) (H : FoAt w ub bb fb sb m semi up best) :
    Calls Try.prog 50 #[.pointer (some ⟨fb, 0, none⟩), .int .i64 (p : Nat)] w fun en w' => ∃ (up' : Nat → Int) (best' : Nat → Nat), en = .returned (.int .i64 (best' p : Nat)) ∧ Forest m k par semi up' best' ∧ Short up' p ∧ FoAt w' ub bb fb sb m semi up' best' ∧ Frm w w' [ub, bb] := by
  obtain ⟨w1, hw1⟩ : ∃ x, w.alloc (.cells #[.pointer (some ⟨fb, 0, none⟩)] 62) = x := ⟨_, rfl⟩
  have hs1 : w1.heap.size = w.heap.size + 1 := by rw [← hw1, World.size_alloc]
  have hB1 : Whole w1 w.heap.size 62 #[.pointer (some ⟨fb, 0, none⟩)] := by rw [← hw1]; exact Whole.new _ _ _
  obtain ⟨w2, hw2⟩ : ∃ x, w1.alloc (.cells #[.nilFunc] 69) = x := ⟨_, rfl⟩
  have hB2 : Whole w2 (w.heap.size + 1) 69 #[.nilFunc] := by rw [← hs1, ← hw2]; exact Whole.new _ _ _
  have c1 : w2.cell? ⟨w.heap.size + 1, 0, none⟩ = some .nilFunc := hB2.cell 0
  have c1f := hB2.free 0
  obtain ⟨w3, hw3⟩ : ∃ x, w2.setCell ⟨w.heap.size + 1, 0, none⟩ (.func (.func 55) #[] #[.pointer (some ⟨w.heap.size, 0, none⟩), .pointer (some ⟨w.heap.size + 1, 0, none⟩)]) = x := ⟨_, rfl⟩
  have hB3 := hB2.set 0 (.func (.func 55) #[] #[.pointer (some ⟨w.heap.size, 0, none⟩), .pointer (some ⟨w.heap.size + 1, 0, none⟩)])
  rw [hw3] at hB3
  have hst : Sem.run Try.prog (store ⟨w.heap.size + 1, 0, none⟩ (.func (.func 55) #[] #[.pointer (some ⟨w.heap.size, 0, none⟩), .pointer (some ⟨w.heap.size + 1, 0, none⟩)])) w2 = .ok () w3 := by
    rw [run_store _ _ _ _ _ rfl]
    simp [stored, c1, c1f, hw3]
  have c2 : w3.cell? ⟨w.heap.size + 1, 0, none⟩ = some (.func (.func 55) #[] #[.pointer (some ⟨w.heap.size, 0, none⟩), .pointer (some ⟨w.heap.size + 1, 0, none⟩)]) := hB3.cell 0
  have hf3 : Frm w w3 [] := by
    rw [← hw3, ← hw2, ← hw1]
    exact (((Frm.refl w []).alloc _).alloc _).setCell _ _ (.inr (Nat.le_succ _))
  have hf13 : Frm w1 w3 [] := by
    rw [← hw3, ← hw2]
    exact ((Frm.refl w1 []).alloc _).setCell _ _ (.inr (by show w1.heap.size ≤ w.heap.size + 1; omega))
  have c3 : w3.cell? ⟨w.heap.size, 0, none⟩ = some (.pointer (some ⟨fb, 0, none⟩)) := (hf13.cell (p := ⟨w.heap.size, 0, none⟩) (by show w.heap.size < _; omega) (by simp)).trans (hB1.cell 0)
  have HQ := H.size
  have HC := hide (shorten_any ub bb fb sb m k D semi hm w.heap.size (by omega) p up best w3 hp F (H.still hf3) c3 c2)
  have HF3 := hide hf3
  have hp' : (p : Int) < m := by omega
  clear F H hB1 hB2 hB3 hf3 hf13
  go_enter Try.func50, Try.ntmps50
  go_wp2_with fail
  refine HC.out.mono ?_
  rintro en w4 ⟨rfl, up', best', F', hS, hk, H', hf⟩
  have k0 : w4.cell? ⟨w.heap.size, 0, none⟩ = some (.pointer (some ⟨fb, 0, none⟩)) := (hf.cell (p := ⟨w.heap.size, 0, none⟩) (lt_of_cell c3) (by show w.heap.size ∉ [ub, bb]; simp; omega)).trans c3
  have k1 : w4.cell? ⟨fb, 2, none⟩ = some (.slice (some ⟨bb, 0, none⟩) m m) := H'.box.cell 2
  have k2 := H'.best.cellAt (fl_get best' hp)
  have HZ := hide (And.intro F' (And.intro hS (And.intro H' ((HF3.out.mono (by simp)).trans hf))))
  clear F' hS hk H' hf c1 c1f c2 c3 hst hw1 hw2 hw3 HC hs1
  go_wp2_with fail
  go_ret
  exact ⟨up', best', rfl, HZ.out⟩

set_option maxRecDepth 100000 in
set_option maxHeartbeats 8000000 in
theorem newForest_any (w : World) (sb m : Nat) (semi : Nat → Nat) (hm : m ≤ 65536) (hO : Own w sb 3 .i64 (.slice (some ⟨sb, 0, none⟩) m m) (fl m semi)) :
    Calls Try.prog 49 #[.slice (some ⟨sb, 0, none⟩) m m] w fun en w' => ∃ ub bb fb, en = .returned (.pointer (some ⟨fb, 0, none⟩)) ∧ w.heap.size ≤ ub ∧ w.heap.size ≤ bb ∧ w.heap.size ≤ fb ∧ FoAt w' ub bb fb sb m semi (fun _ => -1) (fun p => p) ∧ Below w.heap.size w w' := by
  obtain ⟨hl1, hl2⟩ := hO.size sb rfl
  have hmk := fun W => run_made W 28 3 (.int .i64 0) 8 Try.underlying28 infoInt rfl (by omega) m (by omega)
  obtain ⟨w1, hw1⟩ : ∃ x, w.alloc (.cells (madeCells #[.int .i64 0] m) 3) = x := ⟨_, rfl⟩
  obtain ⟨w2, hw2⟩ : ∃ x, w1.alloc (.cells (madeCells #[.int .i64 0] m) 3) = x := ⟨_, rfl⟩
  have hs1 : w1.heap.size = w.heap.size + 1 := by rw [← hw1, World.size_alloc]
  have hs2 : w2.heap.size = w.heap.size + 1 + 1 := by rw [← hw2, World.size_alloc, hs1]
  have hz : ∀ W : World, Own (W.alloc (.cells (madeCells #[.int .i64 0] m) 3)) W.heap.size 3 .i64 (.slice (some ⟨W.heap.size, 0, none⟩) m m) (fz m (fun _ => 0)) := fun W => by
    refine OwnV.toI ?_
    rw [fz_const, List.map_replicate]
    exact own_madeV W 3 (.int .i64 0) m W.heap.size (by unfold maxLen; omega) (Nat.le_refl _)
  have hb1 : Below w.heap.size w w1 := by rw [← hw1]; exact (Below.refl _ _).alloc (Nat.le_refl _) _
  have hb2 : Below w1.heap.size w1 w2 := by rw [← hw2]; exact (Below.refl _ _).alloc (Nat.le_refl _) _
  have z0 : Own w2 sb 3 .i64 (.slice (some ⟨w.heap.size, 0, none⟩) m m) (fz m (fun _ => 0)) := by
    have := hz w
    rw [hw1] at this
    exact (this.low (Nat.le_of_lt hl2)).below' hb2
  have z1 : Own w2 sb 3 .i64 (.slice (some ⟨w.heap.size + 1, 0, none⟩) m m) (fz m (fun _ => 0)) := by
    have := hz w1
    rw [hw2, hs1] at this
    exact this.low (by omega)
  have HZ0 := hide z0
  have HZ1 := hide z1
  have HO2 := hide ((hO.below' hb1).below' hb2)
  have HB2 : Hid (Below w.heap.size w w2) := hide (hb1.trans (hb2.mono hb1.size))
  have HS2 := hide hs2
  clear z0 z1 hz hb1 hb2 hO
  go_enter Try.func49, Try.ntmps49
  go_wp2_with fail
  go_region_with (fail)
  · clear hmk
    obtain ⟨w3, hw3⟩ : ∃ x, (w2.alloc (.cells #[.slice (some ⟨sb, 0, none⟩) m m, .slice (some ⟨w.heap.size, 0, none⟩) m m, .slice (some ⟨w.heap.size + 1, 0, none⟩) m m] 68)).drew = x := ⟨_, rfl⟩
    rw [hw3]
    have hf3 : Frm w2 w3 [] := by rw [← hw3]; exact ((Frm.refl w2 []).alloc _).trans (Frm.drew _ _)
    have hbx : Whole w3 (w.heap.size + 1 + 1) 68 #[.slice (some ⟨sb, 0, none⟩) m m, .slice (some ⟨w.heap.size, 0, none⟩) m m, .slice (some ⟨w.heap.size + 1, 0, none⟩) m m] := by
      rw [← hw3, ← HS2.out]; exact Whole.new _ _ _
    have HF3 : Hid (FoAt w3 (w.heap.size) (w.heap.size + 1) (w.heap.size + 1 + 1) sb m semi (fun x => if x < 0 then -1 else 0) (fun x => if x < 0 then x else 0)) := hide (by
      have h : FoAt w3 (w.heap.size) (w.heap.size + 1) (w.heap.size + 1 + 1) sb m semi (fun _ => 0) (fun _ => 0) := ⟨HO2.out.frmS hf3 (fun _ _ => by simp), HZ0.out.frmS hf3 (fun _ _ => by simp), HZ1.out.frmS hf3 (fun _ _ => by simp), hbx, by omega⟩
      exact h.ext (fun _ _ => rfl) (fun _ _ => by simp) (fun _ _ => by simp))
    have HB3 : Hid (Below w.heap.size w w3) := hide (HB2.out.trans (hf3.toBelow (by simp) HB2.out.size))
    clear hw1 hw2 hw3 hf3 hbx hs1 hs2 HZ0 HZ1 HO2 HB2
    go_wp2_with fail
    go_loopw [16] (fun z wr => ∃ i : Nat, i ≤ m ∧ z = .int .i64 (i : Nat) ∧ Hid (FoAt wr (w.heap.size) (w.heap.size + 1) (w.heap.size + 1 + 1) sb m semi (fun x => if x < i then -1 else 0) (fun x => if x < i then x else 0)) ∧ Hid (Below w.heap.size w wr)) (fun z _ => m - (intOf z).toNat)
    case atStart => exact ⟨0, Nat.zero_le _, rfl, HF3, HB3⟩
    case round =>
      clear HF3 HB3
      obtain ⟨wr, rfl⟩ : ∃ x, x = wr := ⟨_, rfl⟩
      obtain ⟨i, hi, rfl, HF, HB⟩ := hrel
      by_cases hlt : i < m
      · have hlt' : (i : Int) < m := by omega
        have c1 : wr.cell? ⟨w.heap.size + 1 + 1, 1, none⟩ = some (.slice (some ⟨w.heap.size, 0, none⟩) m m) := HF.out.box.cell 1
        have c2 : wr.cell? ⟨w.heap.size + 1 + 1, 2, none⟩ = some (.slice (some ⟨w.heap.size + 1, 0, none⟩) m m) := HF.out.box.cell 2
        have c3 := HF.out.up.cellAt (fz_get (fun x => if x < i then -1 else 0) hlt)
        have c3f := HF.out.up.freeAt i
        have h1 := HF.out.setUp (u := fun x => if x < i + 1 then -1 else 0) i (-1) (by simp) (fun x hx => by
          by_cases e : x < i
          · simp [e]; omega
          · simp [e]; omega)
        have c4 := h1.best.cellAt (fl_get (fun x => if x < i then x else 0) hlt)
        have c4f := h1.best.freeAt i
        have h2 := h1.setBest (b := fun x => if x < i + 1 then x else 0) i i (by simp) (fun x hx => by
          by_cases e : x < i
          · simp [e]; omega
          · simp [e]; omega)
        have hb2 := HB.out.trans ((((Frm.refl wr [w.heap.size, w.heap.size + 1]).setCell ⟨w.heap.size, i, none⟩ (.int .i64 (-1)) (.inl (by simp))).setCell ⟨w.heap.size + 1, i, none⟩ (.int .i64 (i : Nat)) (.inl (by simp))).toBelow (fun x hx => by simp at hx; omega) HB.out.size)
        have d1 : (wr.setCell ⟨w.heap.size, i, none⟩ (.int .i64 (-1))).cell? ⟨w.heap.size + 1 + 1, 1, none⟩ = some (.slice (some ⟨w.heap.size, 0, none⟩) m m) := h1.box.cell 1
        have d2 : (wr.setCell ⟨w.heap.size, i, none⟩ (.int .i64 (-1))).cell? ⟨w.heap.size + 1 + 1, 2, none⟩ = some (.slice (some ⟨w.heap.size + 1, 0, none⟩) m m) := h1.box.cell 2
        have e1 : ((wr.setCell ⟨w.heap.size, i, none⟩ (.int .i64 (-1))).setCell ⟨w.heap.size + 1, i, none⟩ (.int .i64 (i : Nat))).cell? ⟨w.heap.size + 1 + 1, 1, none⟩ = some (.slice (some ⟨w.heap.size, 0, none⟩) m m) := h2.box.cell 1
        have e2 : ((wr.setCell ⟨w.heap.size, i, none⟩ (.int .i64 (-1))).setCell ⟨w.heap.size + 1, i, none⟩ (.int .i64 (i : Nat))).cell? ⟨w.heap.size + 1 + 1, 2, none⟩ = some (.slice (some ⟨w.heap.size + 1, 0, none⟩) m m) := h2.box.cell 2
        have HN := hide (And.intro h2 hb2)
        clear h1 h2 hb2
        go_wp2_with fail
        go_region_held3 (fun w' => w'.cell? ⟨w.heap.size + 1 + 1, 1, none⟩ = some (.slice (some ⟨w.heap.size, 0, none⟩) m m) ∧ w'.cell? ⟨w.heap.size + 1 + 1, 2, none⟩ = some (.slice (some ⟨w.heap.size + 1, 0, none⟩) m m)) (first | exact ⟨c1, c2⟩ | exact ⟨d1, d2⟩ | exact ⟨e1, e2⟩) (first | fail)
        clear c1 c2 d1 d2 e1 e2 c3 c3f c4 c4f
        go_wp2_with fail
        go_roundw
        case rel => exact ⟨i + 1, by omega, by go_num, hide (HN.out.1.still (Frm.drew _ _)), hide (HN.out.2.trans ((Frm.drew _ []).toBelow (by simp) HN.out.2.size))⟩
        case measure => simp [intOf]; omega
      · obtain rfl : i = m := by omega
        go_wp2_with fail
        go_ret
        exact ⟨_, _, _, rfl, by omega, by omega, by omega, HF.out.ext (fun _ _ => rfl) (fun x hx => by simp [hx]) (fun x hx => by simp [hx]), HB.out⟩
  · clear hmk
    obtain ⟨w3, hw3⟩ : ∃ x, (w2.alloc (.cells #[.slice (some ⟨sb, 0, none⟩) m m, .slice (some ⟨w.heap.size + 1, 0, none⟩) m m, .slice (some ⟨w.heap.size, 0, none⟩) m m] 68)).drew = x := ⟨_, rfl⟩
    rw [hw3]
    have hf3 : Frm w2 w3 [] := by rw [← hw3]; exact ((Frm.refl w2 []).alloc _).trans (Frm.drew _ _)
    have hbx : Whole w3 (w.heap.size + 1 + 1) 68 #[.slice (some ⟨sb, 0, none⟩) m m, .slice (some ⟨w.heap.size + 1, 0, none⟩) m m, .slice (some ⟨w.heap.size, 0, none⟩) m m] := by
      rw [← hw3, ← HS2.out]; exact Whole.new _ _ _
    have HF3 : Hid (FoAt w3 (w.heap.size + 1) (w.heap.size) (w.heap.size + 1 + 1) sb m semi (fun x => if x < 0 then -1 else 0) (fun x => if x < 0 then x else 0)) := hide (by
      have h : FoAt w3 (w.heap.size + 1) (w.heap.size) (w.heap.size + 1 + 1) sb m semi (fun _ => 0) (fun _ => 0) := ⟨HO2.out.frmS hf3 (fun _ _ => by simp), HZ1.out.frmS hf3 (fun _ _ => by simp), HZ0.out.frmS hf3 (fun _ _ => by simp), hbx, by omega⟩
      exact h.ext (fun _ _ => rfl) (fun _ _ => by simp) (fun _ _ => by simp))
    have HB3 : Hid (Below w.heap.size w w3) := hide (HB2.out.trans (hf3.toBelow (by simp) HB2.out.size))
    clear hw1 hw2 hw3 hf3 hbx hs1 hs2 HZ0 HZ1 HO2 HB2
    go_wp2_with fail
    go_loopw [16] (fun z wr => ∃ i : Nat, i ≤ m ∧ z = .int .i64 (i : Nat) ∧ Hid (FoAt wr (w.heap.size + 1) (w.heap.size) (w.heap.size + 1 + 1) sb m semi (fun x => if x < i then -1 else 0) (fun x => if x < i then x else 0)) ∧ Hid (Below w.heap.size w wr)) (fun z _ => m - (intOf z).toNat)
    case atStart => exact ⟨0, Nat.zero_le _, rfl, HF3, HB3⟩
    case round =>
      clear HF3 HB3
      obtain ⟨wr, rfl⟩ : ∃ x, x = wr := ⟨_, rfl⟩
      obtain ⟨i, hi, rfl, HF, HB⟩ := hrel
      by_cases hlt : i < m
      · have hlt' : (i : Int) < m := by omega
        have c1 : wr.cell? ⟨w.heap.size + 1 + 1, 1, none⟩ = some (.slice (some ⟨w.heap.size + 1, 0, none⟩) m m) := HF.out.box.cell 1
        have c2 : wr.cell? ⟨w.heap.size + 1 + 1, 2, none⟩ = some (.slice (some ⟨w.heap.size, 0, none⟩) m m) := HF.out.box.cell 2
        have c3 := HF.out.up.cellAt (fz_get (fun x => if x < i then -1 else 0) hlt)
        have c3f := HF.out.up.freeAt i
        have h1 := HF.out.setUp (u := fun x => if x < i + 1 then -1 else 0) i (-1) (by simp) (fun x hx => by
          by_cases e : x < i
          · simp [e]; omega
          · simp [e]; omega)
        have c4 := h1.best.cellAt (fl_get (fun x => if x < i then x else 0) hlt)
        have c4f := h1.best.freeAt i
        have h2 := h1.setBest (b := fun x => if x < i + 1 then x else 0) i i (by simp) (fun x hx => by
          by_cases e : x < i
          · simp [e]; omega
          · simp [e]; omega)
        have hb2 := HB.out.trans ((((Frm.refl wr [w.heap.size + 1, w.heap.size]).setCell ⟨w.heap.size + 1, i, none⟩ (.int .i64 (-1)) (.inl (by simp))).setCell ⟨w.heap.size, i, none⟩ (.int .i64 (i : Nat)) (.inl (by simp))).toBelow (fun x hx => by simp at hx; omega) HB.out.size)
        have d1 : (wr.setCell ⟨w.heap.size + 1, i, none⟩ (.int .i64 (-1))).cell? ⟨w.heap.size + 1 + 1, 1, none⟩ = some (.slice (some ⟨w.heap.size + 1, 0, none⟩) m m) := h1.box.cell 1
        have d2 : (wr.setCell ⟨w.heap.size + 1, i, none⟩ (.int .i64 (-1))).cell? ⟨w.heap.size + 1 + 1, 2, none⟩ = some (.slice (some ⟨w.heap.size, 0, none⟩) m m) := h1.box.cell 2
        have e1 : ((wr.setCell ⟨w.heap.size + 1, i, none⟩ (.int .i64 (-1))).setCell ⟨w.heap.size, i, none⟩ (.int .i64 (i : Nat))).cell? ⟨w.heap.size + 1 + 1, 1, none⟩ = some (.slice (some ⟨w.heap.size + 1, 0, none⟩) m m) := h2.box.cell 1
        have e2 : ((wr.setCell ⟨w.heap.size + 1, i, none⟩ (.int .i64 (-1))).setCell ⟨w.heap.size, i, none⟩ (.int .i64 (i : Nat))).cell? ⟨w.heap.size + 1 + 1, 2, none⟩ = some (.slice (some ⟨w.heap.size, 0, none⟩) m m) := h2.box.cell 2
        have HN := hide (And.intro h2 hb2)
        clear h1 h2 hb2
        go_wp2_with fail
        go_region_held3 (fun w' => w'.cell? ⟨w.heap.size + 1 + 1, 1, none⟩ = some (.slice (some ⟨w.heap.size + 1, 0, none⟩) m m) ∧ w'.cell? ⟨w.heap.size + 1 + 1, 2, none⟩ = some (.slice (some ⟨w.heap.size, 0, none⟩) m m)) (first | exact ⟨c1, c2⟩ | exact ⟨d1, d2⟩ | exact ⟨e1, e2⟩) (first | fail)
        clear c1 c2 d1 d2 e1 e2 c3 c3f c4 c4f
        go_wp2_with fail
        go_roundw
        case rel => exact ⟨i + 1, by omega, by go_num, hide (HN.out.1.still (Frm.drew _ _)), hide (HN.out.2.trans ((Frm.drew _ []).toBelow (by simp) HN.out.2.size))⟩
        case measure => simp [intOf]; omega
      · obtain rfl : i = m := by omega
        go_wp2_with fail
        go_ret
        exact ⟨_, _, _, rfl, by omega, by omega, by omega, HF.out.ext (fun _ _ => rfl) (fun x hx => by simp [hx]) (fun x hx => by simp [hx]), HB.out⟩
end Go.Proofs.Ytmopnceglnoncaa

/-
  Layer 8 (domtree): the forest in memory: newForest, link, least.
-/
import Derived.Test.YtmopnceglnoncaaSpan
namespace Go.Proofs.Ytmopnceglnoncaa
open Go.RowKit

/-- The forest in memory: up in block ub, best in bb, its cell in fb; sb: semi's block. -/
structure FoAt (w : World) (ub bb fb sb m : Nat) (semi : Nat → Nat) (up : Nat → Int) (best : Nat → Nat) : Prop where
  semi : Own w sb 3 .i64 (.slice (some ⟨sb, 0, none⟩) m m) (fl m semi)
  up : Own w sb 3 .i64 (.slice (some ⟨ub, 0, none⟩) m m) (fz m up)
  best : Own w sb 3 .i64 (.slice (some ⟨bb, 0, none⟩) m m) (fl m best)
  box : Whole w fb 68 #[.slice (some ⟨sb, 0, none⟩) m m, .slice (some ⟨ub, 0, none⟩) m m, .slice (some ⟨bb, 0, none⟩) m m]
  ne : sb ≠ ub ∧ sb ≠ bb ∧ sb ≠ fb ∧ ub ≠ bb ∧ ub ≠ fb ∧ bb ≠ fb
section
variable {w w' : World} {ub bb fb sb m : Nat} {semi s : Nat → Nat} {up u : Nat → Int} {best b : Nat → Nat}
theorem own_off {x y n c : Nat} {l : List Int} {k : IntKind} {e : TypeId} {b : Nat} (_ : Own w b e k (.slice (some ⟨x, 0, none⟩) n c) l) (hx : y ≠ x) : ∀ g, (Value.slice (some ⟨x, 0, none⟩) n c).ownBlock = some g → g ∉ [y] := fun g hg hm => by
  have e : g = x := by simpa [Value.ownBlock] using hg.symm
  rw [e, List.mem_singleton] at hm
  exact hx hm.symm
theorem FoAt.size (h : FoAt w ub bb fb sb m semi up best) : ub < w.heap.size ∧ bb < w.heap.size ∧ fb < w.heap.size := ⟨(h.up.size ub rfl).2, (h.best.size bb rfl).2, h.box.lt⟩
theorem FoAt.frm (h : FoAt w ub bb fb sb m semi up best) {S : List Nat} (hf : Frm w w' S) (hs : ∀ x ∈ S, x ≠ sb ∧ x ≠ ub ∧ x ≠ bb ∧ x ≠ fb) : FoAt w' ub bb fb sb m semi up best := by
  have key : ∀ x, (x = sb ∨ x = ub ∨ x = bb ∨ x = fb) → x ∉ S := fun x hx hm => by have := hs x hm; omega
  refine ⟨h.semi.frmS hf (fun g hg => ?_), h.up.frmS hf (fun g hg => ?_), h.best.frmS hf (fun g hg => ?_), (hf.block _ h.box.lt (key _ (by simp))).trans h.box, h.ne⟩
  · have e : g = sb := by simpa [Value.ownBlock] using hg.symm
    rw [e]; exact key _ (by simp)
  · have e : g = ub := by simpa [Value.ownBlock] using hg.symm
    rw [e]; exact key _ (by simp)
  · have e : g = bb := by simpa [Value.ownBlock] using hg.symm
    rw [e]; exact key _ (by simp)
theorem FoAt.still (h : FoAt w ub bb fb sb m semi up best) (hf : Frm w w' []) : FoAt w' ub bb fb sb m semi up best := h.frm hf (by simp)
theorem FoAt.setUp (h : FoAt w ub bb fb sb m semi up best) (p : Nat) (z : Int) (hz : u p = z) (hn : ∀ x, x ≠ p → u x = up x) : FoAt (w.setCell ⟨ub, p, none⟩ (.int .i64 z)) ub bb fb sb m semi u best := by
  have hf : Frm w (w.setCell ⟨ub, p, none⟩ (.int .i64 z)) [ub] := (Frm.refl w [ub]).setCell _ _ (.inl (by simp))
  have h1 := h.up.set p z
  rw [fz_set (h := u) hz hn] at h1
  have hl := h.ne
  exact ⟨h.semi.frmS hf (own_off h.semi (by omega)), h1, h.best.frmS hf (own_off h.best (by omega)), (hf.block _ h.box.lt (by simp; omega)).trans h.box, hl⟩
theorem FoAt.setBest (h : FoAt w ub bb fb sb m semi up best) (p z : Nat) (hz : b p = z) (hn : ∀ x, x ≠ p → b x = best x) : FoAt (w.setCell ⟨bb, p, none⟩ (.int .i64 (z : Nat))) ub bb fb sb m semi up b := by
  have hf : Frm w (w.setCell ⟨bb, p, none⟩ (.int .i64 (z : Nat))) [bb] := (Frm.refl w [bb]).setCell _ _ (.inl (by simp))
  have h1 := h.best.set p (z : Int)
  rw [fl_set (h := b) hz hn] at h1
  have hl := h.ne
  exact ⟨h.semi.frmS hf (own_off h.semi (by omega)), h.up.frmS hf (own_off h.up (by omega)), h1, (hf.block _ h.box.lt (by simp; omega)).trans h.box, hl⟩
theorem FoAt.setSemi (h : FoAt w ub bb fb sb m semi up best) (p z : Nat) (hz : s p = z) (hn : ∀ x, x ≠ p → s x = semi x) : FoAt (w.setCell ⟨sb, p, none⟩ (.int .i64 (z : Nat))) ub bb fb sb m s up best := by
  have hf : Frm w (w.setCell ⟨sb, p, none⟩ (.int .i64 (z : Nat))) [sb] := (Frm.refl w [sb]).setCell _ _ (.inl (by simp))
  have h1 := h.semi.set p (z : Int)
  rw [fl_set (h := s) hz hn] at h1
  have hl := h.ne
  exact ⟨h1, h.up.frmS hf (own_off h.up (by omega)), h.best.frmS hf (own_off h.best (by omega)), (hf.block _ h.box.lt (by simp; omega)).trans h.box, hl⟩
theorem FoAt.ext (h : FoAt w ub bb fb sb m semi up best) (hs : ∀ i, i < m → semi i = s i) (hu : ∀ i, i < m → up i = u i) (hb : ∀ i, i < m → best i = b i) : FoAt w ub bb fb sb m s u b :=
  ⟨fl_ext hs ▸ h.semi, fz_ext hu ▸ h.up, fl_ext hb ▸ h.best, h.box, h.ne⟩
end

set_option maxRecDepth 100000 in
set_option maxHeartbeats 4000000 in
theorem link_any (w : World) (ub bb fb sb m : Nat) (semi : Nat → Nat) (up : Nat → Int) (best : Nat → Nat) (r p : Nat) (hr : r < m) (hm : m ≤ 65536) (h : FoAt w ub bb fb sb m semi up best) :
    Calls Try.prog 51 #[.pointer (some ⟨fb, 0, none⟩), .int .i64 (r : Nat), .int .i64 (p : Nat)] w fun en w' => en = .returned (.tuple #[]) ∧ FoAt w' ub bb fb sb m semi (seti up r (p : Nat)) best ∧ Frm w w' [ub] := by
  have c1 : w.cell? ⟨fb, 1, none⟩ = some (.slice (some ⟨ub, 0, none⟩) m m) := h.box.cell 1
  have c2 := h.up.cellAt (fz_get up hr)
  have c2f := h.up.freeAt r
  have hr' : (r : Int) < m := by omega
  have HZ := hide (And.intro (h.setUp (u := seti up r (p : Nat)) r (p : Int) (seti_at _ _ _) (fun x hx => seti_ne _ _ hx)) ((Frm.refl w [ub]).setCell ⟨ub, r, none⟩ (.int .i64 (p : Int)) (.inl (by simp))))
  clear h
  go_enter Try.func51, Try.ntmps51
  go_wp2_with fail
  first | (refine bodyPost_ret (results_none rfl _ _ _) rfl ?_) | go_end0
  exact ⟨rfl, HZ.out.1, HZ.out.2⟩

theorem Forest.best_le {E : Nat → Nat → Prop} {par semi best : Nat → Nat} {up : Nat → Int} {m k p : Nat} (D : Dft m E par) (F : Forest m k par semi up best) (hp : p < m) : best p ≤ p := by
  by_cases h : p < k ∨ p = 0
  · exact Nat.le_of_eq (F.root p hp h).2
  · obtain ⟨a, _, _, _, _, h8, _⟩ := F.link p (by omega) (by omega) hp
    exact D.le h8 hp

set_option maxRecDepth 100000 in
set_option maxHeartbeats 8000000 in
theorem shorten_any {E : Nat → Nat → Prop} {par : Nat → Nat} (ub bb fb sb m k : Nat) (D : Dft m E par) (semi : Nat → Nat) (hm : m ≤ 65536) (b1 : Nat) (hb1 : b1 ≠ ub ∧ b1 ≠ bb) (p : Nat) : ∀ (up : Nat → Int) (best : Nat → Nat) (w : World), p < m → Forest m k par semi up best → FoAt w ub bb fb sb m semi up best → w.cell? ⟨b1, 0, none⟩ = some (.pointer (some ⟨fb, 0, none⟩)) → w.cell? ⟨b1 + 1, 0, none⟩ = some (.func (.func 55) #[] #[.pointer (some ⟨b1, 0, none⟩), .pointer (some ⟨b1 + 1, 0, none⟩)]) →
    Calls Try.prog 55 #[.int .i64 (p : Nat), .pointer (some ⟨b1, 0, none⟩), .pointer (some ⟨b1 + 1, 0, none⟩)] w fun en w' => en = .returned (.tuple #[]) ∧ ∃ (up' : Nat → Int) (best' : Nat → Nat), Forest m k par semi up' best' ∧ Short up' p ∧ (∀ x, p < x → up' x = up x ∧ best' x = best x) ∧ FoAt w' ub bb fb sb m semi up' best' ∧ Frm w w' [ub, bb] := by
  induction p using Nat.strongRecOn with
  | _ p ih =>
    intro up best w hp F H cb cf
    have c1 : w.cell? ⟨fb, 1, none⟩ = some (.slice (some ⟨ub, 0, none⟩) m m) := H.box.cell 1
    have c2 := H.up.cellAt (fz_get up hp)
    have hp' : (p : Int) < m := by omega
    by_cases hr : p < k ∨ p = 0
    · have hu := (F.root p hp hr).1
      rw [hu] at c2
      have HZ := hide (And.intro F (And.intro hu H))
      clear hr hu F H ih
      go_enter Try.func55, Try.ntmps55
      go_wp2_with fail
      first | (refine bodyPost_ret (results_none rfl _ _ _) rfl ?_) | go_end0
      exact ⟨rfl, up, best, HZ.out.1, .inl HZ.out.2.1, fun _ _ => ⟨rfl, rfl⟩, HZ.out.2.2, Frm.refl _ _⟩
    · obtain ⟨a, hua, hap, -⟩ := F.link p (by omega) (by omega) hp
      rw [hua] at c2
      have ha : a < m := by omega
      have ha' : (a : Int) < m := by omega
      have c3 := H.up.cellAt (fz_get up ha)
      have hab : ((a : Int) == (-1 : Int)) = false := by simp
      by_cases hra : a < k ∨ a = 0
      · have hu := (F.root a ha hra).1
        rw [hu] at c3
        have HZ := hide (And.intro F (And.intro hua (And.intro hu H)))
        clear hr hu hua hra F H ih
        go_enter Try.func55, Try.ntmps55
        go_wp2_with fail
        first | (refine bodyPost_ret (results_none rfl _ _ _) rfl ?_) | go_end0
        exact ⟨rfl, up, best, HZ.out.1, .inr ⟨a, HZ.out.2.1, HZ.out.2.2.1⟩, fun _ _ => ⟨rfl, rfl⟩, HZ.out.2.2.2, Frm.refl _ _⟩
      · obtain ⟨b, hub, hba, -⟩ := F.link a (by omega) (by omega) ha
        rw [hub] at c3
        have hbb : ((b : Int) == (-1 : Int)) = false := by simp
        have HI := hide (ih a hap up best w ha F H cb cf)
        have HR := hide hr
        have HRA := hide hra
        have HUA := hide hua
        have HQ := hide H.size
        clear hr hra hua hub hba F H ih
        go_enter Try.func55, Try.ntmps55
        go_wp2_with fail
        refine HI.out.mono ?_
        rintro en w2 ⟨rfl, up2, best2, F2, hS2, hk2, H2, hf2⟩
        have hup2 : up2 p = (a : Int) := (hk2 p hap).1.trans HUA.out
        obtain ⟨b2, hb2, hb3⟩ : ∃ b2 : Nat, up2 a = (b2 : Int) ∧ up2 b2 = -1 := by
          rcases hS2 with h | h
          · exact absurd ((F2.neg ha).1 h) HRA.out
          · exact h
        have k0 : w2.cell? ⟨b1, 0, none⟩ = some (.pointer (some ⟨fb, 0, none⟩)) := (hf2.cell (p := ⟨b1, 0, none⟩) (lt_of_cell cb) (by show b1 ∉ [ub, bb]; simp; omega)).trans cb
        have k1 : w2.cell? ⟨fb, 0, none⟩ = some (.slice (some ⟨sb, 0, none⟩) m m) := H2.box.cell 0
        have k2 : w2.cell? ⟨fb, 1, none⟩ = some (.slice (some ⟨ub, 0, none⟩) m m) := H2.box.cell 1
        have k3 : w2.cell? ⟨fb, 2, none⟩ = some (.slice (some ⟨bb, 0, none⟩) m m) := H2.box.cell 2
        have hla := F2.best_le D ha
        have hlp := F2.best_le D hp
        have k4 := H2.best.cellAt (fl_get best2 ha)
        have k5 := H2.best.cellAt (fl_get best2 hp)
        have k6 := H2.semi.cellAt (fl_get semi (show best2 a < m by omega))
        have k7 := H2.semi.cellAt (fl_get semi (show best2 p < m by omega))
        have hla' : (best2 a : Int) < m := by omega
        have hlp' : (best2 p : Int) < m := by omega
        have HF := hide (F2.skip D hp hup2 hb2)
        have HK := hide (And.intro hk2 (And.intro hb2 hb3))
        have H2H := hide H2
        have HF2 := hide hf2
        have HBA : Hid (b2 ≠ p) := hide (fun e => by subst e; omega)
        clear F2 hS2 hk2 H2 hf2 hup2 hb2 hb3 hla hlp cb cf c1 c2 c3 HI
        by_cases hlt : semi (best2 a) < semi (best2 p)
        · rw [if_pos hlt] at HF
          have t1 : decide ((semi (best2 a) : Int) < (semi (best2 p) : Int)) = true := decide_eq_true (by omega)
          have t2 : (semi (best2 a) : Int) < (semi (best2 p) : Int) := by omega
          go_wp2_with fail
          go_quiet (fail)
          obtain ⟨w3, hw3⟩ : ∃ x, w2.drewN nq = x := ⟨_, rfl⟩
          rw [hw3]
          have hf3 : Frm w2 w3 [] := by rw [← hw3]; exact (Frm.refl _ _).drewN _
          have H3 := H2H.out.still hf3
          have m0 : w3.cell? ⟨b1, 0, none⟩ = some (.pointer (some ⟨fb, 0, none⟩)) := by rw [← hw3]; exact k0
          have m3 : w3.cell? ⟨fb, 2, none⟩ = some (.slice (some ⟨bb, 0, none⟩) m m) := H3.box.cell 2
          have m4 := H3.best.cellAt (fl_get best2 ha)
          have m5 := H3.best.cellAt (fl_get best2 hp)
          have m5f := H3.best.freeAt p
          have H4 := (H3.still (Frm.drew w3 [])).setBest (b := set1 best2 p (best2 a)) p (best2 a) (set1_at _ _ _) (fun x hx => set1_ne _ _ hx)
          obtain ⟨w4, hw4⟩ : ∃ x, (w3.drew).setCell ⟨bb, p, none⟩ (.int .i64 (best2 a : Nat)) = x := ⟨_, rfl⟩
          have hf4 : Frm w3 w4 [bb] := by rw [← hw4]; exact (Frm.drew w3 _).setCell _ _ (.inl (by simp))
          have H5 : FoAt w4 ub bb fb sb m semi up2 (set1 best2 p (best2 a)) := by rw [← hw4]; exact H4
          have HF5 : Hid (Frm w w4 [ub, bb]) := hide ((HF2.out.trans' hf3 (by simp)).trans' hf4 (by simp))
          have hj0 : w4.cell? ⟨b1, 0, none⟩ = some (.pointer (some ⟨fb, 0, none⟩)) := (hf4.cell (p := ⟨b1, 0, none⟩) (lt_of_cell m0) (by show b1 ∉ [bb]; simp; omega)).trans m0
          have HH5 := hide H5
          clear k0 k1 k2 k3 k4 k5 k6 k7 hw3 H3 H4 H5 hf3 hf4
          go_wp2_with fail
          go_still_tail 13, (by kernel_rfl)
          change wpList _ _ _ _ _ w3.drew
          go_wp2_with fail
          clear hw4
          have j0 : w4.cell? ⟨b1, 0, none⟩ = some (.pointer (some ⟨fb, 0, none⟩)) := hj0
          have j1 : w4.cell? ⟨fb, 1, none⟩ = some (.slice (some ⟨ub, 0, none⟩) m m) := HH5.out.box.cell 1
          have j2 := HH5.out.up.cellAt (fz_get up2 ha)
          rw [HK.out.2.1] at j2
          have j3 := HH5.out.up.cellAt (fz_get up2 hp)
          have j3f := HH5.out.up.freeAt p
          have HE : Hid (FoAt (w4.drew.setCell ⟨ub, p, none⟩ (.int .i64 (b2 : Nat))) ub bb fb sb m semi (seti up2 p (b2 : Nat)) (set1 best2 p (best2 a)) ∧ Frm w (w4.drew.setCell ⟨ub, p, none⟩ (.int .i64 (b2 : Nat))) [ub, bb]) := hide ⟨(HH5.out.still (Frm.drew w4 [])).setUp (u := seti up2 p (b2 : Nat)) p (b2 : Int) (seti_at _ _ _) (fun x hx => seti_ne _ _ hx), HF5.out.trans' ((Frm.drew w4 [ub]).setCell ⟨ub, p, none⟩ (.int .i64 (b2 : Nat)) (.inl (by simp))) (by simp)⟩
          clear m0 m3 m4 m5 m5f
          go_wp2_with fail
          go_still_tail 13, (by kernel_rfl)
          change wpList _ _ _ _ _ w4.drew
          go_wp2_with fail
          first | (refine bodyPost_ret (results_none rfl _ _ _) rfl ?_) | go_end0
          exact ⟨rfl, _, _, HF.out, .inr ⟨b2, seti_at _ _ _, (seti_ne _ _ HBA.out).trans HK.out.2.2⟩, fun x hx => ⟨(seti_ne _ _ (by omega)).trans (HK.out.1 x (by omega)).1, (set1_ne _ _ (by omega)).trans (HK.out.1 x (by omega)).2⟩, HE.out.1, HE.out.2⟩
        · rw [if_neg hlt] at HF
          have t1 : decide ((semi (best2 a) : Int) < (semi (best2 p) : Int)) = false := decide_eq_false (by omega)
          have t2 : ¬ (semi (best2 a) : Int) < (semi (best2 p) : Int) := by omega
          have e1 : set1 best2 p (best2 p) = best2 := by
            funext x
            by_cases e : x = p
            · subst e; exact set1_at _ _ _
            · exact set1_ne _ _ e
          rw [e1] at HF
          go_wp2_with fail
          go_quiet (fail)
          obtain ⟨w4, hw4⟩ : ∃ x, w2.drewN nq = x := ⟨_, rfl⟩
          rw [hw4]
          have hf4 : Frm w2 w4 [] := by rw [← hw4]; exact (Frm.refl _ _).drewN _
          have HH5 := hide (H2H.out.still hf4)
          have HF5 : Hid (Frm w w4 [ub, bb]) := hide (HF2.out.trans' hf4 (by simp))
          have j0 : w4.cell? ⟨b1, 0, none⟩ = some (.pointer (some ⟨fb, 0, none⟩)) := by rw [← hw4]; exact k0
          have j1 : w4.cell? ⟨fb, 1, none⟩ = some (.slice (some ⟨ub, 0, none⟩) m m) := HH5.out.box.cell 1
          have j2 := HH5.out.up.cellAt (fz_get up2 ha)
          rw [HK.out.2.1] at j2
          have j3 := HH5.out.up.cellAt (fz_get up2 hp)
          have j3f := HH5.out.up.freeAt p
          have HE : Hid (FoAt (w4.drew.setCell ⟨ub, p, none⟩ (.int .i64 (b2 : Nat))) ub bb fb sb m semi (seti up2 p (b2 : Nat)) best2 ∧ Frm w (w4.drew.setCell ⟨ub, p, none⟩ (.int .i64 (b2 : Nat))) [ub, bb]) := hide ⟨(HH5.out.still (Frm.drew w4 [])).setUp (u := seti up2 p (b2 : Nat)) p (b2 : Int) (seti_at _ _ _) (fun x hx => seti_ne _ _ hx), HF5.out.trans' ((Frm.drew w4 [ub]).setCell ⟨ub, p, none⟩ (.int .i64 (b2 : Nat)) (.inl (by simp))) (by simp)⟩
          clear k0 k1 k2 k3 k4 k5 k6 k7
          go_wp2_with fail
          go_still_tail 13, (by kernel_rfl)
          change wpList _ _ _ _ _ w4.drew
          go_wp2_with fail
          first | (refine bodyPost_ret (results_none rfl _ _ _) rfl ?_) | go_end0
          exact ⟨rfl, _, _, HF.out, .inr ⟨b2, seti_at _ _ _, (seti_ne _ _ HBA.out).trans HK.out.2.2⟩, fun x hx => ⟨(seti_ne _ _ (by omega)).trans (HK.out.1 x (by omega)).1, (HK.out.1 x (by omega)).2⟩, HE.out.1, HE.out.2⟩
end Go.Proofs.Ytmopnceglnoncaa

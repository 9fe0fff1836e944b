/-
  Layer 8 (domtree): immediateDominators.
-/
import Derived.Test.YtmopnceglnoncaaLeast
import Derived.Test.YtmopnceglnoncaaIdomM
import Derived.Test.YtmopnceglnoncaaRevMath
import Derived.Test.YtmopnceglnoncaaPreds
import Derived.Deep.RegionLaw
import Derived.Deep.RegionHeld3
import Derived.Deep.CutRange
import Derived.Lib.MinMax
namespace Go.Proofs.Ytmopnceglnoncaa
open Go.RowKit

/-- Lists of places, a row each. -/
def wl (m : Nat) (W : Nat → List Nat) : List (List Int) := (List.range m).map fun i => ints (W i)
theorem wl_len (m : Nat) (W : Nat → List Nat) : (wl m W).length = m := by simp [wl]
theorem wl_get {m i : Nat} (W : Nat → List Nat) (h : i < m) : (wl m W)[i]? = some (ints (W i)) := by simp [wl, h]
theorem wl_set {m q : Nat} {W W' : Nat → List Nat} {l : List Int} (hl : ints (W' q) = l) (hn : ∀ i, i ≠ q → W' i = W i) : (wl m W).set q l = wl m W' := by
  apply List.ext_getElem?
  intro i
  by_cases hi : i < m
  · rw [wl_get W' hi]
    by_cases e : q = i
    · subst e; rw [List.getElem?_set_self (by rw [wl_len]; exact hi), hl]
    · rw [List.getElem?_set_ne e, wl_get W hi, hn i (fun c => e c.symm)]
  · rw [List.getElem?_eq_none (by rw [List.length_set, wl_len]; omega), List.getElem?_eq_none (by rw [wl_len]; omega)]
theorem wl_nil (m : Nat) : wl m (fun _ => []) = List.replicate m [] := by
  apply List.ext_getElem <;> simp [wl, ints]

/-- What immediateDominators holds. tb: the tree's cell; sb: semi; db: dominator; wb: waiting; the forest: ub, bb, fb. -/
structure ImAt (w0 w : World) (nv pl pv : Value) (tb sb ub bb fb db wb m : Nat) (semi : Nat → Nat) (up : Nat → Int) (best dm : Nat → Nat) (R : List Value) (W : Nat → List Nat) : Prop where
  fo : FoAt w ub bb fb sb m semi up best
  dom : Own w db 3 .i64 (.slice (some ⟨db, 0, none⟩) m m) (fl m dm)
  wait : OwnL w wb wb R (wl m W)
  box : Whole w tb 46 #[nv, pl, pv]
  below : Below tb w0 w
  ord : tb < sb ∧ sb < db ∧ db < wb ∧ tb < ub ∧ ub < db ∧ tb < bb ∧ bb < db ∧ tb < fb ∧ fb < db
section
variable {w0 w w' : World} {nv pl pv : Value} {tb sb ub bb fb db wb m : Nat} {semi s : Nat → Nat} {up u : Nat → Int} {best b dm d : Nat → Nat} {R : List Value} {W : Nat → List Nat}
theorem ImAt.rlen (h : ImAt w0 w nv pl pv tb sb ub bb fb db wb m semi up best dm R W) : R.length = m := by rw [h.wait.len, wl_len]
theorem ImAt.size (h : ImAt w0 w nv pl pv tb sb ub bb fb db wb m semi up best dm R W) : wb < w.heap.size := h.wait.lt.2
theorem ImAt.still (h : ImAt w0 w nv pl pv tb sb ub bb fb db wb m semi up best dm R W) (hf : Frm w w' []) : ImAt w0 w' nv pl pv tb sb ub bb fb db wb m semi up best dm R W := by
  have := h.size
  have := h.ord
  exact ⟨h.fo.still hf, h.dom.frmS hf (fun _ _ => by simp), h.wait.frm hf, (hf.block _ h.box.lt (by simp)).trans h.box, h.below.trans (hf.toBelow (by simp) (by omega)), h.ord⟩
/-- The forest has turned. -/
theorem ImAt.forest (h : ImAt w0 w nv pl pv tb sb ub bb fb db wb m semi up best dm R W) (F : FoAt w' ub bb fb sb m semi u b) (hf : Frm w w' [ub, bb]) : ImAt w0 w' nv pl pv tb sb ub bb fb db wb m semi u b dm R W := by
  have h1 := h.size
  have h2 := h.ord
  refine ⟨F, h.dom.frmS hf (fun g hg hm => ?_), h.wait.far hf (fun g hg => by simp at hg; omega), (hf.block _ h.box.lt (by simp; omega)).trans h.box, h.below.trans (hf.toBelow (fun g hg => by simp at hg; omega) (by omega)), h.ord⟩
  have e : g = db := by simpa [Value.ownBlock] using hg.symm
  simp at hm; omega
theorem ImAt.setSemi (h : ImAt w0 w nv pl pv tb sb ub bb fb db wb m semi up best dm R W) (p z : Nat) (hz : s p = z) (hn : ∀ x, x ≠ p → s x = semi x) : ImAt w0 (w.setCell ⟨sb, p, none⟩ (.int .i64 (z : Nat))) nv pl pv tb sb ub bb fb db wb m s up best dm R W := by
  have h1 := h.size
  have h2 := h.ord
  have hf : Frm w (w.setCell ⟨sb, p, none⟩ (.int .i64 (z : Nat))) [sb] := (Frm.refl w [sb]).setCell _ _ (.inl (by simp))
  exact ⟨h.fo.setSemi p z hz hn, h.dom.frmS hf (own_off h.dom (by omega)), h.wait.far hf (fun g hg => by simp at hg; omega), (hf.block _ h.box.lt (by simp; omega)).trans h.box, h.below.trans (hf.toBelow (fun g hg => by simp at hg; omega) (by omega)), h.ord⟩
theorem ImAt.setDom (h : ImAt w0 w nv pl pv tb sb ub bb fb db wb m semi up best dm R W) (p z : Nat) (hz : d p = z) (hn : ∀ x, x ≠ p → d x = dm x) : ImAt w0 (w.setCell ⟨db, p, none⟩ (.int .i64 (z : Nat))) nv pl pv tb sb ub bb fb db wb m semi up best d R W := by
  have h1 := h.size
  have h2 := h.ord
  have hf : Frm w (w.setCell ⟨db, p, none⟩ (.int .i64 (z : Nat))) [db] := (Frm.refl w [db]).setCell _ _ (.inl (by simp))
  have h3 := h.dom.set p (z : Int)
  rw [fl_set (h := d) hz hn] at h3
  exact ⟨h.fo.frm hf (fun x hx => by simp at hx; omega), h3, h.wait.far hf (fun g hg => by simp at hg; omega), (hf.block _ h.box.lt (by simp; omega)).trans h.box, h.below.trans (hf.toBelow (fun g hg => by simp at hg; omega) (by omega)), h.ord⟩
/-- A list has grown, and its cell holds it. -/
theorem ImAt.push (h : ImAt w0 w nv pl pv tb sb ub bb fb db wb m semi up best dm R W) {q x : Nat} {v v' : Value} (hq : q < m) (hv : R[q]? = some v) (hf : Frm w w' v.ownBlock.toList) (ho : Own w' wb 3 .i64 v' (ints (W q) ++ [(x : Int)])) (hb : v'.ownBlock = v.ownBlock ∨ ∀ g, v'.ownBlock = some g → w.heap.size ≤ g) : ImAt w0 (w'.setCell ⟨wb, q, none⟩ v') nv pl pv tb sb ub bb fb db wb m semi up best dm (R.set q v') (wadd W q x) := by
  have h1 := h.size
  have h2 := h.ord
  have hP := h.wait.push hv (wl_get W hq) hf ho hb
  have hr := h.wait.row q v _ hv (wl_get W hq)
  have hin : ∀ y ∈ v.ownBlock.toList, wb ≤ y := fun y hy => (hr.size y (by simpa using hy)).1
  have hf2 : Frm w (w'.setCell ⟨wb, q, none⟩ v') (wb :: v.ownBlock.toList) := (hf.mono (fun y hy => .inl (List.mem_cons_of_mem _ hy))).setCell _ _ (.inl (by simp))
  have hin2 : ∀ y ∈ wb :: v.ownBlock.toList, wb ≤ y := fun y hy => by
    rcases List.mem_cons.1 hy with rfl | hy
    · exact Nat.le_refl _
    · exact hin y hy
  rw [wl_set (W' := wadd W q x) (by unfold wadd; rw [if_pos rfl, ints_snoc]) (fun i hi => by unfold wadd; rw [if_neg hi])] at hP
  refine ⟨h.fo.frm hf2 (fun y hy => by have := hin2 y hy; omega), h.dom.frmS hf2 (fun g hg hm => ?_), hP, (hf2.block _ h.box.lt (fun hm => by have := hin2 _ hm; omega)).trans h.box, h.below.trans (hf2.toBelow (fun y hy => by have := hin2 y hy; omega) (by omega)), h.ord⟩
  have e : g = db := by simpa [Value.ownBlock] using hg.symm
  have := hin2 g hm
  omega
/-- A list is emptied. -/
theorem ImAt.setNil (h : ImAt w0 w nv pl pv tb sb ub bb fb db wb m semi up best dm R W) {q : Nat} (hq : q < m) : ImAt w0 (w.setCell ⟨wb, q, none⟩ (.slice none 0 0)) nv pl pv tb sb ub bb fb db wb m semi up best dm (R.set q (.slice none 0 0)) (wnil W q) := by
  have h1 := h.size
  have h2 := h.ord
  obtain ⟨v, hv⟩ : ∃ v, R[q]? = some v := ⟨_, List.getElem?_eq_getElem (by rw [h.rlen]; exact hq)⟩
  have hP := h.wait.push (v' := .slice none 0 0) (l' := []) hv (wl_get W hq) (Frm.refl _ _) Own.nil (.inr (fun g hg => by simp [Value.ownBlock] at hg))
  rw [wl_set (W' := wnil W q) (by unfold wnil; rw [if_pos rfl]; rfl) (fun i hi => by unfold wnil; rw [if_neg hi])] at hP
  have hf : Frm w (w.setCell ⟨wb, q, none⟩ (.slice none 0 0)) [wb] := (Frm.refl w [wb]).setCell _ _ (.inl (by simp))
  exact ⟨h.fo.frm hf (fun x hx => by simp at hx; omega), h.dom.frmS hf (own_off h.dom (by omega)), hP, (hf.block _ h.box.lt (by simp; omega)).trans h.box, h.below.trans (hf.toBelow (fun g hg => by simp at hg; omega) (by omega)), h.ord⟩
end
/-- Who stands in the list of the predecessors of L[w]. -/
theorem pred_mem {g : List (List Int)} (hok : okG g = true) {x : Nat} (hx : x < g.length) {z : Int} : z ∈ dd (revTo g g.length x) ↔ ∃ y : Nat, z = (y : Int) ∧ y < g.length ∧ x ∈ succs g y := by
  rw [mem_dd, mem_revTo]
  constructor
  · rintro ⟨y, hy, rfl, h⟩
    exact ⟨y, rfl, hy, (mem_succs hok).2 h⟩
  · rintro ⟨y, rfl, hy, h⟩
    exact ⟨y, hy, rfl, (mem_succs hok).1 h⟩
theorem preds_get {g : List (List Int)} {x : Nat} (hx : x < g.length) : (preds g)[x]? = some (dd (revTo g g.length x)) := by simp [preds, hx]
theorem preds_len (g : List (List Int)) : (preds g).length = g.length := by simp [preds]
/-- The places of the first j of a list of nodes. -/
def Seen1 (L : List Nat) (l : List Int) (j : Nat) (v : Nat) : Prop := ∃ (i x : Nat), i < j ∧ l[i]? = some (x : Int) ∧ L[v]? = some x
end Go.Proofs.Ytmopnceglnoncaa
namespace Go.Proofs.Ytmopnceglnoncaa
open Go.RowKit

/-- What holds at the head of the main loop: the places from k on are done. -/
structure ImGood (m k : Nat) (E : Nat → Nat → Prop) (par sd semi : Nat → Nat) (up : Nat → Int) (best dm : Nat → Nat) (W : Nat → List Nat) : Prop where
  fo : Forest m k par semi up best
  old : ∀ u, k ≤ u → u < m → semi u = sd u
  new : ∀ u, u < k → semi u = u
  wait : Wait m k E par sd W dm
  dz : dm 0 = 0
  wlen : ∀ q, (W q).length + k ≤ m

set_option maxRecDepth 100000 in
set_option maxHeartbeats 16000000 in
theorem imm_any (g : List (List Int)) (e : Nat) (L P : List Nat) (hok : okG g = true) (hN : g.length ≤ 65536) (hsp : Spans g e 0 [] [] L P) (w : World) (An Al Ap PA : Option Addr) (cn cl cp pc : Nat) (hn : Rd w .i64 (.slice An L.length cn) (ints L)) (hl : Rd w .i64 (.slice Al g.length cl) (fz g.length (place L))) (hp : Rd w .i64 (.slice Ap P.length cp) (ints P)) (hpr : RdL w PA pc (preds g)) :
    Calls Try.prog 33 #[.agg #[.slice An L.length cn, .slice Al g.length cl, .slice Ap P.length cp], .slice PA g.length pc] w fun en w' => ∃ D dm, en = .returned (.slice (some ⟨D, 0, none⟩) L.length L.length) ∧ Own w' w.heap.size 3 .i64 (.slice (some ⟨D, 0, none⟩) L.length L.length) (fl L.length dm) ∧ (∀ p, 0 < p → p < L.length → IsIdom (PE g L) (dm p) p) ∧ dm 0 = 0 ∧ Below w.heap.size w w' := by
  have hpl := hsp.tail.len
  obtain ⟨m, hm⟩ : ∃ m, L.length = m := ⟨_, rfl⟩
  have hmN : m ≤ g.length := by rw [← hm]; exact nodup_len hsp.tail.nodup hsp.tail.bnd
  have HD := hide (hm ▸ hsp.dft)
  obtain ⟨sd, hsd⟩ := sd_ex HD.out
  have HSD := hide hsd
  have hm0 : 0 < m := HD.out.pos
  have HSP := hide hsp
  rw [hm] at hn ⊢
  rw [hpl, hm] at hp ⊢
  have HM := hide hm
  have HPL := hide hpl
  clear hsd hpl
  obtain ⟨w1, hw1⟩ : ∃ x, w.alloc (.cells #[.slice An m cn, .slice Al g.length cl, .slice Ap m cp] 46) = x := ⟨_, rfl⟩
  obtain ⟨sb, hsb⟩ : ∃ x, w1.heap.size = x := ⟨_, rfl⟩
  have HSB : Hid (sb = w.heap.size + 1) := hide (by rw [← hsb, ← hw1, World.size_alloc])
  have hb1 : Below w.heap.size w w1 := by rw [← hw1]; exact (Below.refl _ _).alloc (Nat.le_refl _) _
  have hT1 : Whole w1 w.heap.size 46 #[.slice An m cn, .slice Al g.length cl, .slice Ap m cp] := by rw [← hw1]; exact Whole.new _ _ _
  have c1 : w1.cell? ⟨w.heap.size, 0, none⟩ = some (.slice An m cn) := hT1.cell 0
  have hmk := fun W => run_made W 28 3 (.int .i64 0) 8 Try.underlying28 infoInt rfl (by omega) m (by omega)
  have hmk2 := fun W => run_made W 22 28 (.slice none 0 0) 24 Try.underlying22 infoInts rfl (by omega) m (by omega)
  obtain ⟨w2, hw2⟩ : ∃ x, w1.alloc (.cells (madeCells #[.int .i64 0] m) 3) = x := ⟨_, rfl⟩
  have hs2 : w2.heap.size = sb + 1 := by rw [← hw2, World.size_alloc, hsb]
  have hb2 : Below w1.heap.size w1 w2 := by rw [← hw2]; exact (Below.refl _ _).alloc (Nat.le_refl _) _
  have hz : ∀ W : World, Own (W.alloc (.cells (madeCells #[.int .i64 0] m) 3)) W.heap.size 3 .i64 (.slice (some ⟨W.heap.size, 0, none⟩) m m) (fl m (fun _ => 0)) := fun W => by
    refine OwnV.toI ?_
    have := own_madeV W 3 (.int .i64 0) m W.heap.size (by unfold maxLen; omega) (Nat.le_refl _)
    have e : (fl m (fun _ => 0)).map (Value.int .i64) = List.replicate m (.int .i64 0) := by
      unfold fl; apply List.ext_getElem <;> simp
    rw [e]; exact this
  have HS2 : Hid (Own w2 sb 3 .i64 (.slice (some ⟨sb, 0, none⟩) m m) (fl m (fun x => if x < 0 then x else 0))) := hide (by
    rw [fl_ext (h := fun _ => 0) (fun i _ => by simp), ← hsb, ← hw2]
    exact hz w1)
  have HT2 := hide (hT1.below' hb2)
  have HB2 : Hid (Below w.heap.size w w2) := hide (hb1.trans (hb2.mono hb1.size))
  have HZ := hide hz
  have HN := hide hn
  have HL := hide hl
  have HP := hide hp
  have HPR := hide hpr
  have hcn9 : cn ≤ 9223372036854775807 := by
    obtain ⟨_, _, e1, _, h2, -⟩ := hn
    injection e1 with _ _ e1
    unfold maxLen at h2
    omega
  clear hb1 hb2 hT1 hz hn hl hp hpr hm hsp
  go_enter Try.func33, Try.ntmps33
  go_wp2_with fail
  clear hw1 hw2 c1 hsb
  go_loopw [27] (fun z wr => ∃ i : Nat, i ≤ m ∧ z = .int .i64 (i : Nat) ∧ wr.heap.size = sb + 1 ∧ Hid (Own wr sb 3 .i64 (.slice (some ⟨sb, 0, none⟩) m m) (fl m (fun x => if x < i then x else 0))) ∧ Hid (Whole wr w.heap.size 46 #[.slice An m cn, .slice Al g.length cl, .slice Ap m cp]) ∧ Hid (Below w.heap.size w wr)) (fun z _ => m - (intOf z).toNat)
  case atStart => exact ⟨0, Nat.zero_le _, rfl, hs2, HS2, HT2, HB2⟩
  case round =>
    clear HS2 HT2 HB2 hs2
    obtain ⟨wr, rfl⟩ : ∃ x, x = wr := ⟨_, rfl⟩
    obtain ⟨i, hi, rfl, hsr, HO, HT, HB⟩ := hrel
    by_cases hlt : i < m
    · have hlt' : (i : Int) < m := by omega
      have c2 := HO.out.cellAt (fl_get (fun x => if x < i then x else 0) hlt)
      have c2f := HO.out.freeAt i
      have hset := HO.out.set i (i : Int)
      rw [fl_set (h := fun x => if x < i + 1 then x else 0) (by simp) (fun j hj => by
        by_cases e : j < i
        · simp [e]; omega
        · simp [e]; omega)] at hset
      have hf : Frm wr (wr.setCell ⟨sb, i, none⟩ (.int .i64 (i : Nat))) [sb] := (Frm.refl wr _).setCell _ _ (.inl (by simp))
      have HX := hide (And.intro hset (And.intro ((hf.block _ HT.out.lt (by simp; have := HSB.out; omega)).trans HT.out) (HB.out.trans (hf.toBelow (fun x hx => by rw [List.mem_singleton.1 hx]; have := HSB.out; omega) (by have := HSB.out; omega)))))
      have hsn : (wr.setCell ⟨sb, i, none⟩ (.int .i64 (i : Nat))).heap.size = sb + 1 := by simpa [World.setCell] using hsr
      clear hset hf
      go_wp2_with fail
      go_roundw
      case rel => exact ⟨i + 1, by omega, by go_num, hsn, hide HX.out.1, hide HX.out.2.1, hide HX.out.2.2⟩
      case measure => simp [intOf]; omega
    · obtain rfl : m = i := by omega
      have hO := HO.out
      rw [fl_ext (h := fun x => x) (fun x hx => by rw [if_pos hx])] at hO
      have HNF := hide (newForest_any wr sb m (fun x => x) (by omega) hO)
      have HSR := hide hsr
      clear hO HO
      go_wp2_with fail
      refine HNF.out.mono ?_
      rintro en w3 ⟨ub, bb, fb, rfl, hub, hbb, hfb, hF3, hb3⟩
      have hs3 := hF3.size
      have hT3 := HT.out.below' hb3
      obtain ⟨db, hdb⟩ : ∃ x, w3.heap.size = x := ⟨_, rfl⟩
      have HB3 : Hid (Below w.heap.size w w3) := hide (HB.out.trans (hb3.mono HB.out.size))
      obtain ⟨w4, hw4⟩ : ∃ x, w3.alloc (.cells (madeCells #[.int .i64 0] m) 3) = x := ⟨_, rfl⟩
      have hs4 : w4.heap.size = db + 1 := by rw [← hw4, World.size_alloc, hdb]
      have hb4 : Below w3.heap.size w3 w4 := by rw [← hw4]; exact (Below.refl _ _).alloc (Nat.le_refl _) _
      obtain ⟨w5, hw5⟩ : ∃ x, w4.alloc (.cells (madeCells #[.slice none 0 0] m) 28) = x := ⟨_, rfl⟩
      have hb5 : Below w4.heap.size w4 w5 := by rw [← hw5]; exact (Below.refl _ _).alloc (Nat.le_refl _) _
      have hL5 := OwnL.made w4 w4.heap.size m (by unfold maxLen; omega) (Nat.le_refl _)
      have hD4 := HZ.out w3
      rw [hw4, hdb] at hD4
      rw [hw5, hs4, ← wl_nil] at hL5
      have HI : Hid (ImAt w w5 (.slice An m cn) (.slice Al g.length cl) (.slice Ap m cp) w.heap.size sb ub bb fb db (db + 1) m (fun x => x) (fun _ => -1) (fun p => p) (fun _ => 0) (List.replicate m (.slice none 0 0)) (fun _ => [])) := hide (by
        have hf35 : Frm w3 w5 [] := (Frm.below hb4).trans' (Frm.below hb5) (fun _ h => .inl h)
        exact ⟨hF3.still hf35, hD4.below' hb5, hL5, hT3.below' (Below.all hb4 hb5), HB3.out.trans (hf35.toBelow (by simp) HB3.out.size), by have := HSB.out; omega⟩)
      have HG : Hid (ImGood m m (PE g L) (parOf P) sd (fun x => x) (fun _ => -1) (fun p => p) (fun _ => 0) (fun _ => [])) := hide ⟨Forest.zero _ _ _, fun u h1 h2 => by omega, fun u _ => rfl, Wait.zero _, rfl, fun q => by simp⟩
      have hw1 : IntKind.i64.wrap ((m : Int) - 1) = ((m - 1 : Nat) : Int) := by rw [show ((m : Int) - 1) = ((m - 1 : Nat) : Int) by omega]; exact IntWalk.i64_in _ (by omega)
      clear hF3 hb3 hT3 hb4 hb5 hL5 hD4 HNF HB HT hs3
      go_wp2_with fail
      clear hw4 hw5 hs4 hmk hmk2 hw1 hdb
      go_loopw [11] (fun z wr => ∃ (p : Nat) (semi : Nat → Nat) (up : Nat → Int) (best dm : Nat → Nat) (R : List Value) (W : Nat → List Nat), p + 1 ≤ m ∧ z = .int .i64 (p : Nat) ∧ Hid (ImGood m (p + 1) (PE g L) (parOf P) sd semi up best dm W) ∧ Hid (ImAt w wr (.slice An m cn) (.slice Al g.length cl) (.slice Ap m cp) w.heap.size sb ub bb fb db (db + 1) m semi up best dm R W)) (fun z _ => (intOf z).toNat)
      case atStart => exact ⟨m - 1, _, _, _, _, _, _, by omega, rfl, by rw [show m - 1 + 1 = m by omega]; exact HG, HI⟩
      case round =>
        clear HG HI HSR hsr HB3 HZ
        obtain ⟨wq, rfl⟩ : ∃ x, x = wr := ⟨_, rfl⟩
        obtain ⟨p, semi, up, best, dm, R, W, hpm, rfl, HG, HI⟩ := hrel
        by_cases hp0 : 0 < p
        · have hp0' : (0 : Int) < p := by omega
          have hpm' : (p : Int) < m := by omega
          obtain ⟨x, hx⟩ : ∃ x, L[p]? = some x := ⟨_, List.getElem?_eq_getElem (by rw [HM.out]; omega)⟩
          have hxn : x < g.length := HSP.out.tail.bnd x (List.mem_of_getElem? hx)
          have hxn' : (x : Int) < g.length := by omega
          have HX := hide hx
          have hbq := HI.out.below
          have c1 : wq.cell? ⟨w.heap.size, 0, none⟩ = some (.slice An m cn) := HI.out.box.cell 0
          obtain ⟨b1, o1, rfl, hb1l, c2⟩ := rd_at (HN.out.below' hbq) (k := p) (x := (x : Int)) (by rw [ints_get, hx]; rfl)
          obtain ⟨b2, o2, B, d, rfl, hb2l, c30, hrow⟩ := HPR.out.at (preds_get hxn)
          have c3 := (hbq.cell (p := ⟨b2, o2 + x, none⟩) hb2l).trans c30
          obtain ⟨l, hl⟩ : ∃ l, dd (revTo g g.length x) = l := ⟨_, rfl⟩
          have HMEM : Hid (∀ z, z ∈ l ↔ ∃ y : Nat, z = (y : Int) ∧ y < g.length ∧ x ∈ succs g y) := hide (fun z => by rw [← hl]; exact pred_mem hok hxn)
          rw [hl] at c3 hrow
          have HR := hide hrow
          obtain ⟨_, _, e3, hd, hdm, -⟩ := hrow
          injection e3 with e3 e4 e5
          subst e3 e5
          have hd9 : d ≤ 9223372036854775807 := by unfold maxLen at hdm; omega
          have hsp : set1 semi p p = semi := by
            funext u
            by_cases e : u = p
            · subst e; rw [set1_at]; exact (HG.out.new u (by omega)).symm
            · exact set1_ne _ _ e
          have HS0 : Hid (Forest m (p + 1) (parOf P) (set1 semi p p) up best) := hide (by rw [hsp]; exact HG.out.fo)
          have HI0 : Hid (ImAt w wq (.slice (some ⟨b1, o1, none⟩) m cn) (.slice Al g.length cl) (.slice Ap m cp) w.heap.size sb ub bb fb db (db + 1) m (set1 semi p p) up best dm R W) := hide (by rw [hsp]; exact HI.out)
          have HT0 : Hid (Looks (PE g L) (parOf P) sd p (Seen1 L l 0) p) := hide ((Looks.zero p).congr (fun v ⟨i, _, hi, _⟩ => by omega))
          clear hx hbq hl hdm e4 hsp HI c30
          go_wp2_with fail
          clear c1 c2 c3
          go_loopw [56] (fun z wr => ∃ (j s : Nat) (up : Nat → Int) (best : Nat → Nat), j ≤ l.length ∧ z = .int .i64 (j : Nat) ∧ Hid (Looks (PE g L) (parOf P) sd p (Seen1 L l j) s) ∧ Hid (Forest m (p + 1) (parOf P) (set1 semi p s) up best) ∧ Hid (ImAt w wr (.slice (some ⟨b1, o1, none⟩) m cn) (.slice Al g.length cl) (.slice Ap m cp) w.heap.size sb ub bb fb db (db + 1) m (set1 semi p s) up best dm R W)) (fun z _ => l.length - (intOf z).toNat)
          case atStart => exact ⟨0, _, _, _, Nat.zero_le _, rfl, HT0, HS0, HI0⟩
          case round =>
            clear HT0 HS0 HI0
            obtain ⟨wp, rfl⟩ : ∃ x, x = wr := ⟨_, rfl⟩
            obtain ⟨j, s, up, best, hj, rfl, HT, HF, HI⟩ := hrel
            by_cases hjt : j < l.length
            · have hjt' : (j : Int) < l.length := by omega
              obtain ⟨z, hz⟩ : ∃ z, l[j]? = some z := ⟨_, List.getElem?_eq_getElem hjt⟩
              obtain ⟨y, rfl, hyn, hyx⟩ := (HMEM.out z).1 (List.mem_of_getElem? hz)
              obtain ⟨b3, o3, rfl, hb3l, c4⟩ := rd_at (HR.out.below' HI.out.below) hz
              have hyn' : (y : Int) < g.length := by omega
              obtain ⟨b4, o4, rfl, hb4l, c5⟩ := rd_at (HL.out.below' HI.out.below) (fz_get (place L) hyn)
              have c6 : wp.cell? ⟨w.heap.size, 1, none⟩ = some (.slice (some ⟨b4, o4, none⟩) g.length cl) := HI.out.box.cell 1
              have HZZ := hide hz
              by_cases hyL : y ∈ L
              · obtain ⟨v, hv⟩ := List.getElem?_of_mem hyL
                have hvm : v < m := by rw [← HM.out]; exact (List.getElem?_eq_some_iff.1 hv).1
                have hvm' : (v : Int) < m := by omega
                rw [place_get HSP.out.tail.nodup hv] at c5
                have t1 : ((v : Int) != (-1 : Int)) = true := by simp
                have HE : Hid (PE g L v p) := hide ⟨y, x, hv, HX.out, hyx⟩
                have HSEEN : Hid (∀ u, Seen1 L l (j + 1) u → Seen1 L l j u ∨ u = v) := hide (fun u ⟨i, x', h1, h2, h3⟩ => by
                  rcases Nat.lt_succ_iff_lt_or_eq.1 h1 with h1 | rfl
                  · exact .inl ⟨i, x', h1, h2, h3⟩
                  · rw [HZZ.out] at h2
                    injection h2 with h2
                    have : y = x' := by omega
                    subst this
                    exact .inr (nodup_get HSP.out.tail.nodup h3 hv))
                have HLE := hide (least_any ub bb fb sb m (p + 1) HD.out (set1 semi p s) (by omega) v up best wp.drew hvm HF.out (HI.out.fo.still (Frm.drew _ _)))
                clear hz hyx hyL hv
                go_upto_region 19 with fail
                have cs := (HI.out.fo.still (Frm.drew _ _)).semi.cellAt (fl_get (set1 semi p s) (show p < m by omega))
                rw [set1_at] at cs
                go_region_with (first | (go_at_call 50; refine HLE.out.mono ?_; rintro en w6 ⟨up', best', rfl, F', hS', H', hf'⟩; have cs6 := H'.semi.cellAt (fl_get (set1 semi p s) (show p < m by omega)); rw [set1_at] at cs6; have csf := H'.semi.freeAt p; have hbl := F'.best_le HD.out hvm; have hbm : best' v < m := (by omega); have hbm' : (best' v : Int) < m := (by omega); have cb6 := H'.semi.cellAt (fl_get (set1 semi p s) hbm); obtain ⟨sv, hsv⟩ : ∃ sv, set1 semi p s (best' v) = sv := ⟨_, rfl⟩; rw [hsv] at cb6; have hmin : min (s : Int) (sv : Int) = ((min s sv : Nat) : Int) := (by omega)))
                all_goals
                  have HN2 : Hid (Looks (PE g L) (parOf P) sd p (Seen1 L l (j + 1)) (min s sv)) := hide (by
                    rw [← hsv]
                    exact HT.out.next HD.out HSD.out hp0 (by omega) HE.out F' (fun u h1 h2 => by rw [set1_ne _ _ (by omega)]; exact HG.out.old u (by omega) h2) (fun u h1 => by rw [set1_ne _ _ (by omega)]; exact HG.out.new u (by omega)) (set1_at _ _ _) hS' HSEEN.out)
                  have HF2 : Hid (Forest m (p + 1) (parOf P) (set1 semi p (min s sv)) up' best') := hide (F'.fresh (fun u hu => by rw [set1_ne _ _ (by omega), set1_ne _ _ (by omega)]))
                  have HI2 := hide (((HI.out.still (Frm.drew wp [])).forest H' hf').setSemi (s := set1 semi p (min s sv)) p (min s sv) (set1_at _ _ _) (fun u hu => by rw [set1_ne _ _ hu, set1_ne _ _ hu]))
                  clear cs6 csf hbl hbm hbm' cb6 hsv hmin F' hS' H' hf' HT HF HI HLE cs c4 c5 c6
                  go_wp2_with fail
                  go_roundw
                  case rel => exact ⟨j + 1, min s sv, up', best', by omega, by go_num, HN2, HF2, HI2⟩
                  case measure => simp [intOf]; omega
              · have hpn := place_neg.2 hyL
                rw [hpn] at c5
                have HT2 : Hid (Looks (PE g L) (parOf P) sd p (Seen1 L l (j + 1)) s) := hide (HT.out.congr (fun v ⟨i, x', h1, h2, h3⟩ => by
                  rcases Nat.lt_succ_iff_lt_or_eq.1 h1 with h1 | rfl
                  · exact ⟨i, x', h1, h2, h3⟩
                  · rw [HZZ.out] at h2
                    injection h2 with h2
                    have : y = x' := by omega
                    subst this
                    exact absurd (List.mem_of_getElem? h3) hyL))
                clear hz hyL hpn
                go_wp2_with fail
                go_roundw
                case rel => exact ⟨j + 1, s, up, best, by omega, by go_num, HT2, HF, HI⟩
                case measure => simp [intOf]; omega
            · obtain rfl : j = l.length := by omega
              have hs : s = sd p := HT.out.all HD.out HSD.out hp0 (by omega) (fun v ⟨a, a', ha, ha', hs⟩ => by
                rw [HX.out] at ha'
                injection ha' with ha'
                subst ha'
                obtain ⟨i, hi⟩ := List.getElem?_of_mem ((HMEM.out (a : Int)).2 ⟨a, rfl, HSP.out.tail.bnd a (List.mem_of_getElem? ha), hs⟩)
                exact ⟨i, a, (List.getElem?_eq_some_iff.1 hi).1, hi, ha⟩)
              subst hs
              have hq := HD.out.sd_lt HSD.out hp0 (show p < m by omega)
              have HQ := hide hq
              have hqm : sd p < m := by omega
              have hqm' : (sd p : Int) < m := by omega
              have HOLD : Hid (∀ u, p ≤ u → u < m → set1 semi p (sd p) u = sd u) := hide (fun u h1 h2 => by
                by_cases e : u = p
                · subst e; exact set1_at _ _ _
                · rw [set1_ne _ _ e]; exact HG.out.old u (by omega) h2)
              have HNEW : Hid (∀ u, u < p → set1 semi p (sd p) u = u) := hide (fun u h1 => by rw [set1_ne _ _ (by omega)]; exact HG.out.new u (by omega))
              have HEM := hide (HG.out.wait.empt HD.out hp0 (show p < m by omega))
              have HDZ := hide HG.out.dz
              have HWL := hide HG.out.wlen
              obtain ⟨v, hv⟩ : ∃ v, R[sd p]? = some v := ⟨_, List.getElem?_eq_getElem (by rw [HI.out.rlen]; exact hqm)⟩
              have hrow := HI.out.wait.row (sd p) v _ hv (wl_get W hqm)
              have HROW := hide hrow
              have HV := hide hv
              obtain ⟨Av, cv, rfl, hcv1, hcv2, -⟩ := hrow.rd
              rw [ints_len] at hcv1
              have hcv9 : cv ≤ 9223372036854775807 := by unfold maxLen at hcv2; omega
              have cs : wp.cell? ⟨sb, p, none⟩ = some (.int .i64 (sd p : Nat)) := by
                have := HI.out.fo.semi.cellAt (fl_get (set1 semi p (sd p)) (show p < m by omega))
                rwa [set1_at] at this
              have cw : wp.cell? ⟨db + 1, sd p, none⟩ = some (.slice Av (ints (W (sd p))).length cv) := HI.out.wait.own.cellAt hv
              clear HT hrow hv hcv2 hq HG
              go_upto_region 21 with fail
              go_cut [] from 82 to 97 (fun wx => ∃ R', Hid (ImAt w wx (.slice (some ⟨b1, o1, none⟩) m cn) (.slice Al g.length cl) (.slice Ap m cp) w.heap.size sb ub bb fb db (db + 1) m (set1 semi p (sd p)) up best dm R' (wadd W (sd p) p)))
              case first =>
                have hw5 := HWL.out (sd p)
                have HO2 : Hid (OwnV (wp.alloc (.cells #[.int .i64 (p : Int)] 3)).drew (db + 1) 3 (.slice Av (ints (W (sd p))).length cv) ((ints (W (sd p))).map (Value.int .i64))) := hide ((HROW.out.alloc _).toV)
                have hone : ∀ z ∈ [Value.int .i64 (p : Int)], z.oneCell' = true := by
                  intro z hz; rw [List.mem_singleton] at hz; subst hz; rfl
                have hby : (((ints (W (sd p))).map (Value.int .i64)).length + [Value.int .i64 (p : Int)].length) * 8 ≤ 140737488355328 := by
                  simp only [List.length_map, ints_len, List.length_cons, List.length_nil]; omega
                have hml : ((ints (W (sd p))).map (Value.int .i64)).length + [Value.int .i64 (p : Int)].length ≤ maxLen := by
                  unfold maxLen; simp only [List.length_map, ints_len, List.length_cons, List.length_nil]; omega
                have hB2 : db + 1 ≤ (wp.alloc (.cells #[.int .i64 (p : Int)] 3)).drew.heap.size := by
                  show _ ≤ (wp.alloc _).heap.size
                  have := HI.out.size
                  rw [World.size_alloc]; omega
                have cs1 : (wp.alloc (.cells #[.int .i64 (p : Int)] 3)).cell? ⟨sb, p, none⟩ = some (.int .i64 (sd p : Nat)) := (((Below.refl wp.heap.size wp).alloc (Nat.le_refl _) _).cell (p := ⟨sb, p, none⟩) (lt_of_cell cs)).trans cs
                have cw1 : (wp.alloc (.cells #[.int .i64 (p : Int)] 3)).cell? ⟨db + 1, sd p, none⟩ = some (.slice Av (ints (W (sd p))).length cv) := (((Below.refl wp.heap.size wp).alloc (Nat.le_refl _) _).cell (p := ⟨db + 1, sd p, none⟩) (lt_of_cell cw)).trans cw
                have HAFT : Hid (∀ v' w5, OwnV w5 (db + 1) 3 v' ((ints (W (sd p))).map (Value.int .i64) ++ [.int .i64 (p : Int)]) → Frm (wp.alloc (.cells #[.int .i64 (p : Int)] 3)).drew w5 (Value.slice Av (ints (W (sd p))).length cv).ownBlock.toList → (v'.ownBlock = (Value.slice Av (ints (W (sd p))).length cv).ownBlock ∨ v'.ownBlock = some (wp.alloc (.cells #[.int .i64 (p : Int)] 3)).drew.heap.size) →
                    ∃ A5 n5 c5, v' = .slice A5 n5 c5 ∧ w5.cell? ⟨sb, p, none⟩ = some (.int .i64 (sd p : Nat)) ∧ w5.cell? ⟨db + 1, sd p, none⟩ = some (.slice Av (ints (W (sd p))).length cv) ∧ w5.frozen? ⟨db + 1, sd p, none⟩ = false ∧
                      Hid (ImAt w (w5.setCell ⟨db + 1, sd p, none⟩ v') (.slice (some ⟨b1, o1, none⟩) m cn) (.slice Al g.length cl) (.slice Ap m cp) w.heap.size sb ub bb fb db (db + 1) m (set1 semi p (sd p)) up best dm (R.set (sd p) v') (wadd W (sd p) p))) := hide (by
                  intro v' w5 ho5 hf5 hb5
                  have hf5 : Frm (wp.alloc (.cells #[.int .i64 (p : Int)] 3)) w5 (Value.slice Av (ints (W (sd p))).length cv).ownBlock.toList := (Frm.drew _ _).trans hf5
                  have hsz : (wp.alloc (.cells #[.int .i64 (p : Int)] 3)).drew.heap.size = (wp.alloc (.cells #[.int .i64 (p : Int)] 3)).heap.size := rfl
                  have ho6 : Own w5 (db + 1) 3 .i64 v' (ints (W (sd p)) ++ [(p : Int)]) := OwnV.toI (by rw [List.map_append]; exact ho5)
                  have hIa := HI.out.still ((Frm.refl wp []).alloc (.cells #[.int .i64 (p : Int)] 3))
                  have hP := hIa.push (x := p) hqm HV.out hf5 ho6 (hb5.imp id (fun h g' hg' => by rw [h, hsz] at hg'; injection hg' with e; omega))
                  have hnb : sb ∉ (Value.slice Av (ints (W (sd p))).length cv).ownBlock.toList := fun hm => by
                    have := (HROW.out.size sb (by simpa using hm)).1
                    have := HI.out.ord
                    omega
                  have hnw : db + 1 ∉ (Value.slice Av (ints (W (sd p))).length cv).ownBlock.toList := fun hm => HI.out.wait.apart (sd p) _ HV.out (by simpa using hm)
                  obtain ⟨A5, c5, e9, -, -, -⟩ := ho6.rd
                  exact ⟨A5, _, c5, e9, (hf5.cell (p := ⟨sb, p, none⟩) (lt_of_cell cs1) hnb).trans cs1, (hf5.cell (p := ⟨db + 1, sd p, none⟩) (lt_of_cell cw1) hnw).trans cw1, (hIa.wait.own.frm hf5 (fun g' hg' => by
                    have e : g' = db + 1 := by simpa [Value.ownBlock] using hg'.symm
                    rw [e]; exact hnw)).freeAt (sd p), hide hP⟩)
                clear HI
                go_region_law (refine step_append_v rfl (.tmp 93) (.tmp 95) 28 rfl (db + 1) 3 (.int .i64 0) 8 intV (.slice Av (ints (W (sd p))).length cv) ((ints (W (sd p))).map (Value.int .i64)) (by simp [Act.eval]) HO2.out (.slice (some ⟨wp.heap.size, 0, none⟩) 1 1) [.int .i64 (p : Int)] (by simp [Act.eval]) (rdv_one_drew _ _ _) hone hby hml hB2 ?_; intro v' w5 ho5 hf5 hb5; obtain ⟨A5, n5, c5, rfl, cs6, cw6, fr6, HP⟩ := HAFT.out v' w5 ho5 hf5 hb5; clear ho5 hf5 hb5)
                all_goals
                  clear cs1 cw1 hB2 hml hby hone HO2 HAFT cs cw
                  go_wp2_with fail
                  go_meet
                  exact ⟨_, hide (HP.out.still (by first | exact Frm.refl _ _ | exact Frm.drew _ _ | exact (Frm.refl _ _).drewN _))⟩
              case rest =>
                clear HI cs cw HV HROW
                obtain ⟨R', HI⟩ := hcut
                obtain ⟨W', hW'⟩ : ∃ W', wadd W (sd p) p = W' := ⟨_, rfl⟩
                have HWL' : Hid (∀ q, (W' q).length + p ≤ m) := hide (fun q => by
                  rw [← hW']
                  unfold wadd
                  split
                  · rename_i e
                    have := HWL.out (sd p)
                    simp only [List.length_append, List.length_singleton]
                    omega
                  · have := HWL.out q
                    omega)
                rw [hW'] at HI HEM
                clear hW' HWL
                obtain ⟨sm, hsm⟩ : ∃ sm, set1 semi p (sd p) = sm := ⟨_, rfl⟩
                rw [hsm] at HI HF HOLD HNEW
                clear hsm hcv1 hcv9
                obtain ⟨r, hr⟩ : ∃ r, parOf P p = r := ⟨_, rfl⟩
                have HRP := hide hr
                have hrp : r < p := by rw [← hr]; exact HD.out.parlt p hp0 (by omega)
                have hrm : r < m := by omega
                have hrm' : (r : Int) < m := by omega
                obtain ⟨b5, o5, rfl, hb5l, k1⟩ := rd_at (HP.out.below' HI.out.below) (k := p) (x := (r : Int)) (by rw [ints_get, parOf_get (by have := HPL.out; have := HM.out; omega), hr]; rfl)
                have k2 : wc.cell? ⟨w.heap.size, 2, none⟩ = some (.slice (some ⟨b5, o5, none⟩) m cp) := HI.out.box.cell 2
                have HLK := hide (link_any wc ub bb fb sb m sm up best p r (by omega) (by omega) HI.out.fo)
                have HFN : Hid (Forest m p (parOf P) sm (seti up p (r : Nat)) best) := hide (by
                  have := HF.out.next HD.out hp0 (show p < m by omega)
                  rwa [hr] at this)
                clear hr hb5l HF
                go_wp2_with fail
                refine HLK.out.mono ?_
                rintro en w7 ⟨rfl, h7, hf7⟩
                have HI7 := hide (HI.out.forest h7 (hf7.mono (fun y hy => .inl (by simp at hy; simp [hy]))))
                obtain ⟨v2, hv2⟩ : ∃ v, R'[r]? = some v := ⟨_, List.getElem?_eq_getElem (by rw [HI7.out.rlen]; exact hrm)⟩
                have hrow2 := (HI7.out.wait.row r v2 _ hv2 (wl_get W' hrm)).rd
                have HV2 := hide hv2
                obtain ⟨A2, c2, rfl, hc2, hc2m, -⟩ := hrow2
                rw [ints_len] at hc2
                have hc29 : c2 ≤ 9223372036854775807 := by unfold maxLen at hc2m; omega
                have k3 : w7.cell? ⟨db + 1, r, none⟩ = some (.slice A2 (ints (W' r)).length c2) := HI7.out.wait.own.cellAt hv2
                rw [ints_len] at k3 HV2
                have HE0 : Hid (Empt m p (PE g L) (parOf P) sd W' ((W' r).take 0) dm) := hide (by rw [List.take_zero]; exact HEM.out)
                have hwl := HWL'.out r
                clear h7 hf7 hv2 hc2m HI HLK k1 k2 HEM
                go_wp2_with fail
                clear k3
                go_loopw [112] (fun z wr => ∃ (j : Nat) (up : Nat → Int) (best dm : Nat → Nat), j ≤ (W' r).length ∧ z = .int .i64 (j : Nat) ∧ Hid (Empt m p (PE g L) (parOf P) sd W' ((W' r).take j) dm) ∧ Hid (dm 0 = 0) ∧ Hid (Forest m p (parOf P) sm up best) ∧ Hid (ImAt w wr (.slice (some ⟨b1, o1, none⟩) m cn) (.slice Al g.length cl) (.slice (some ⟨b5, o5, none⟩) m cp) w.heap.size sb ub bb fb db (db + 1) m sm up best dm R' W')) (fun z _ => (W' r).length - (intOf z).toNat)
                case atStart => exact ⟨0, _, _, _, Nat.zero_le _, rfl, HE0, HDZ, HFN, HI7⟩
                case round =>
                  clear HE0 HDZ HFN HI7
                  obtain ⟨wo, rfl⟩ : ∃ x, x = wr := ⟨_, rfl⟩
                  obtain ⟨j, up, best, dm, hj, rfl, HE, HDZ, HF, HI⟩ := hrel
                  by_cases hjt : j < (W' r).length
                  · have hjt' : (j : Int) < (W' r).length := by omega
                    obtain ⟨y, hy⟩ : ∃ y, (W' r)[j]? = some y := ⟨_, List.getElem?_eq_getElem hjt⟩
                    have hmem := List.mem_of_getElem? hy
                    obtain ⟨y1, y2, y3, -⟩ := HE.out.mem r y hmem
                    have y3' : (y : Int) < m := by omega
                    obtain ⟨b6, o6, e6, hb6l, k4⟩ := rd_at (HI.out.wait.row r _ _ (by have := HV2.out; rw [← ints_len (W' r)] at this; exact this) (wl_get W' hrm)).rd (k := j) (x := (y : Int)) (by rw [ints_get, hy]; rfl)
                    subst e6
                    have HTK : Hid ((W' r).take (j + 1) = (W' r).take j ++ [y]) := hide (by rw [List.take_add_one, hy]; rfl)
                    have k5 := HI.out.dom.cellAt (fl_get dm y3)
                    have k5f := HI.out.dom.freeAt y
                    have HIa := hide (HI.out.setDom (d := set1 dm y r) y r (set1_at _ _ _) (fun x hx => set1_ne _ _ hx))
                    have HLE := hide (least_any ub bb fb sb m p HD.out sm (by omega) y up best _ y3 HF.out HIa.out.fo)
                    have HMY := hide hmem
                    clear hy hmem hb6l HI
                    go_wp2_with fail
                    refine HLE.out.mono ?_
                    rintro en w8 ⟨up', best', rfl, F', hS', H', hf'⟩
                    have HIb := hide (HIa.out.forest H' hf')
                    have hbl := F'.best_le HD.out y3
                    have hbm : best' y < m := by omega
                    have hbm' : (best' y : Int) < m := by omega
                    have k6 := HIb.out.fo.semi.cellAt (fl_get sm hbm)
                    have HEN := hide (HE.out.next HD.out HSD.out hp0 (show p < m by omega) (by rw [HRP.out]; exact HMY.out) F' HOLD.out hS')
                    have HFF := hide F'
                    rw [HRP.out] at HEN
                    clear F' hS' H' hf' HLE k4 k5 k5f HIa hbl
                    by_cases hlt3 : sm (best' y) < r
                    · rw [if_pos hlt3] at HEN
                      have t1 : decide ((sm (best' y) : Int) < (r : Int)) = true := decide_eq_true (by omega)
                      have t2 : (sm (best' y) : Int) < (r : Int) := by omega
                      have k7 := HIb.out.dom.cellAt (fl_get (set1 dm y r) y3)
                      have k7f := HIb.out.dom.freeAt y
                      have HIc := hide (HIb.out.setDom (d := set1 dm y (best' y)) y (best' y) (set1_at _ _ _) (fun x hx => by rw [set1_ne _ _ hx, set1_ne _ _ hx]))
                      go_wp2_with fail
                      go_roundw
                      case rel => exact ⟨j + 1, up', best', set1 dm y (best' y), by omega, by go_num, by rw [HTK.out]; exact HEN, hide (by rw [set1_ne _ _ (by omega)]; exact HDZ.out), HFF, HIc⟩
                      case measure => simp [intOf]; omega
                    · rw [if_neg hlt3] at HEN
                      have t1 : decide ((sm (best' y) : Int) < (r : Int)) = false := decide_eq_false (by omega)
                      have t2 : ¬ (sm (best' y) : Int) < (r : Int) := by omega
                      go_wp2_with fail
                      go_roundw
                      case rel => exact ⟨j + 1, up', best', set1 dm y r, by omega, by go_num, by rw [HTK.out]; exact HEN, hide (by rw [set1_ne _ _ (by omega)]; exact HDZ.out), HFF, HIb⟩
                      case measure => simp [intOf]; omega
                  · obtain rfl : j = (W' r).length := by omega
                    have k8 := HI.out.wait.own.cellAt (j := r) (by have := HV2.out; exact this)
                    have k8f := HI.out.wait.own.freeAt r
                    have HIn := hide (HI.out.setNil hrm)
                    have HGN : Hid (ImGood m (p - 1 + 1) (PE g L) (parOf P) sd sm up best dm (wnil W' r)) := hide (by
                      rw [show p - 1 + 1 = p by omega]
                      have hE := HE.out
                      rw [List.take_length] at hE
                      refine ⟨HF.out, HOLD.out, HNEW.out, ?_, HDZ.out, fun q => ?_⟩
                      · rw [← HRP.out] at hE ⊢
                        exact hE.done
                      · unfold wnil
                        split
                        · simp; omega
                        · exact HWL'.out q)
                    have hw9 : IntKind.i64.wrap ((p : Int) - 1) = ((p - 1 : Nat) : Int) := by rw [show ((p : Int) - 1) = ((p - 1 : Nat) : Int) by omega]; exact IntWalk.i64_in _ (by omega)
                    clear HI HE HF
                    go_wp2_with fail
                    go_roundw
                    case rel => exact ⟨p - 1, _, _, _, _, _, _, by omega, by go_num, HGN, HIn⟩
                    case measure => simp [intOf]; omega
        · obtain rfl : p = 0 := by omega
          have HHALF := hide (Wait.done HD.out HSD.out (HG.out.wait))
          have hsemi : ∀ u, 0 < u → u < m → semi u = sd u := fun u h0 h1 => HG.out.old u (by omega) h1
          have HSEM := hide hsemi
          have HDZ := hide HG.out.dz
          have HL0 : Hid (Last m (PE g L) dm dm 1) := hide Last.begin
          clear HG hsemi
          go_wp2_with fail
          go_loopw [19] (fun z wr => ∃ (i : Nat) (d : Nat → Nat), 0 < i ∧ i ≤ m ∧ z = .int .i64 (i : Nat) ∧ Hid (Last m (PE g L) dm d i) ∧ Hid (∀ u, 0 < u → u < m → d u < u) ∧ Hid (ImAt w wr (.slice An m cn) (.slice Al g.length cl) (.slice Ap m cp) w.heap.size sb ub bb fb db (db + 1) m semi up best d R W)) (fun z _ => m - (intOf z).toNat)
          case atStart => exact ⟨1, dm, by omega, by omega, rfl, HL0, hide (fun u h0 h1 => (half_le HD.out HSD.out h0 h1 (HHALF.out u h0 h1)).1), HI⟩
          case round =>
            clear HL0 HI
            obtain ⟨wp, rfl⟩ : ∃ x, x = wr := ⟨_, rfl⟩
            obtain ⟨i, d, hi0, hi, rfl, HL1, HLT, HI⟩ := hrel
            by_cases hlt2 : i < m
            · have hlt2' : (i : Int) < m := by omega
              have c1 := HI.out.dom.cellAt (fl_get d hlt2)
              have c1f := HI.out.dom.freeAt i
              have c2 := HI.out.fo.semi.cellAt (fl_get semi hlt2)
              by_cases he : d i = semi i
              · have t1 : ((d i : Int) != (semi i : Int)) = false := by rw [he]; simp
                have t2 : (d i != semi i) = false := by rw [he]; simp
                have HL2 := hide (HL1.out.keep HD.out HSD.out hi0 hlt2 (HHALF.out i hi0 hlt2) (he.trans (HSEM.out i hi0 hlt2)))
                clear he
                go_wp2_with fail
                go_quiet (fail)
                go_wp2_with fail
                go_roundw
                case rel => exact ⟨i + 1, d, by omega, by omega, by go_num, HL2, HLT, hide (HI.out.still (by first | exact (Frm.refl _ _).drewN _ | exact Frm.drew _ _))⟩
                case measure => simp [intOf]; omega
              · have t1 : ((d i : Int) != (semi i : Int)) = true := by simp; omega
                have t2 : (d i != semi i) = true := by simp; omega
                have hdi := HLT.out i hi0 hlt2
                have hdim : d i < m := by omega
                have hdim' : (d i : Int) < m := by omega
                have hdd : d (d i) < i := by
                  by_cases h0 : 0 < d i
                  · have := HLT.out (d i) h0 hdim; omega
                  · have e0 : d i = 0 := by omega
                    rw [e0, HL1.out.zero, HDZ.out]; omega
                have HL2 := hide (HL1.out.turn HD.out HSD.out hi0 hlt2 (HHALF.out i hi0 hlt2) (fun e => he (e.trans (HSEM.out i hi0 hlt2).symm)))
                have HLT2 : Hid (∀ u, 0 < u → u < m → set1 d i (d (d i)) u < u) := hide (fun u h0 h1 => by
                  by_cases e : u = i
                  · subst e; rw [set1_at]; exact hdd
                  · rw [set1_ne _ _ e]; exact HLT.out u h0 h1)
                clear he hdi hdd
                go_wp2_with fail
                go_quiet (fail)
                obtain ⟨w7, hw7⟩ : ∃ x, wp.drewN nq = x := ⟨_, rfl⟩
                rw [hw7]
                have HI7 : Hid (ImAt w w7 (.slice An m cn) (.slice Al g.length cl) (.slice Ap m cp) w.heap.size sb ub bb fb db (db + 1) m semi up best d R W) := hide (by rw [← hw7]; exact HI.out.still ((Frm.refl _ _).drewN _))
                have k1 := HI7.out.dom.cellAt (fl_get d hlt2)
                have k1f := HI7.out.dom.freeAt i
                have k3 := HI7.out.dom.cellAt (fl_get d hdim)
                have HI8 := hide (HI7.out.setDom (d := set1 d i (d (d i))) i (d (d i)) (set1_at _ _ _) (fun x hx => set1_ne _ _ hx))
                clear hw7 c1 c1f c2 HI
                go_wp2_with fail
                go_roundw
                case rel => exact ⟨i + 1, _, by omega, by omega, by go_num, HL2, HLT2, HI8⟩
                case measure => simp [intOf]; omega
            · obtain rfl : m = i := by omega
              have HZZ := hide (And.intro (HI.out.dom.low (b := w.heap.size) (by have := HI.out.ord; omega)) (And.intro (fun q h0 h1 => HL1.out.done q h0 h1 h1) (And.intro (HL1.out.zero.trans HDZ.out) HI.out.below)))
              clear HI HL1
              go_wp2_with fail
              go_ret
              exact ⟨db, d, rfl, HZZ.out⟩
end Go.Proofs.Ytmopnceglnoncaa

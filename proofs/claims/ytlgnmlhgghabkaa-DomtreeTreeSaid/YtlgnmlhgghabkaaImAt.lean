/-
  Layer 8 (domtree): immediateDominators in memory.
-/
import Derived.Test.YtlgnmlhgghabkaaLeast
import Derived.Test.YtlgnmlhgghabkaaIdomM
import Derived.Test.YtlgnmlhgghabkaaRevMath
import Derived.Test.YtlgnmlhgghabkaaPreds
namespace Go.Proofs.Ytlgnmlhgghabkaa
open Go.RowKit

/-- Lists of places, a row each. -/
def wl (m : Nat) (W : Nat → List Nat) : List (List Int) := (List.range m).map fun i => ints (W i)
theorem wl_len (m : Nat) (W : Nat → List Nat) : (wl m W).length = m := by simp [wl]
theorem wl_get {m i : Nat} (W : Nat → List Nat) (h : i < m) : (wl m W)[i]? = some (ints (W i)) := by simp [wl, h]
theorem wl_set {m q : Nat} {W W' : Nat → List Nat} {l : List Int} (hl : ints (W' q) = l) (hn : ∀ i, i ≠ q → W' i = W i) : (wl m W).set q l = wl m W' := by
  apply List.ext_getElem?
  intro i
  by_cases hi : i < m
  · rw [wl_get W' hi]
    by_cases e : q = i
    · subst e; rw [List.getElem?_set_self (by rw [wl_len]; exact hi), hl]
    · rw [List.getElem?_set_ne e, wl_get W hi, hn i (fun c => e c.symm)]
  · rw [List.getElem?_eq_none (by rw [List.length_set, wl_len]; omega), List.getElem?_eq_none (by rw [wl_len]; omega)]
theorem wl_nil (m : Nat) : wl m (fun _ => []) = List.replicate m [] := by
  apply List.ext_getElem <;> simp [wl, ints]

/-- What immediateDominators holds. tb: the tree's cell; sb: semi; db: dominator; wb: waiting; the forest: ub, bb, fb. -/
structure ImAt (w0 w : World) (nv pl pv : Value) (tb sb ub bb fb db wb m : Nat) (semi : Nat → Nat) (up : Nat → Int) (best dm : Nat → Nat) (R : List Value) (W : Nat → List Nat) : Prop where
  fo : FoAt w ub bb fb sb m semi up best
  dom : Own w db 3 .i64 (.slice (some ⟨db, 0, none⟩) m m) (fl m dm)
  wait : OwnL w wb wb R (wl m W)
  box : Whole w tb 46 #[nv, pl, pv]
  below : Below tb w0 w
  ord : tb < sb ∧ sb < db ∧ db < wb ∧ tb < ub ∧ ub < db ∧ tb < bb ∧ bb < db ∧ tb < fb ∧ fb < db
section
variable {w0 w w' : World} {nv pl pv : Value} {tb sb ub bb fb db wb m : Nat} {semi s : Nat → Nat} {up u : Nat → Int} {best b dm d : Nat → Nat} {R : List Value} {W : Nat → List Nat}
theorem ImAt.rlen (h : ImAt w0 w nv pl pv tb sb ub bb fb db wb m semi up best dm R W) : R.length = m := by rw [h.wait.len, wl_len]
theorem ImAt.size (h : ImAt w0 w nv pl pv tb sb ub bb fb db wb m semi up best dm R W) : wb < w.heap.size := h.wait.lt.2
theorem ImAt.still (h : ImAt w0 w nv pl pv tb sb ub bb fb db wb m semi up best dm R W) (hf : Frm w w' []) : ImAt w0 w' nv pl pv tb sb ub bb fb db wb m semi up best dm R W := by
  have := h.size
  have := h.ord
  exact ⟨h.fo.still hf, h.dom.frmS hf (fun _ _ => by simp), h.wait.frm hf, (hf.block _ h.box.lt (by simp)).trans h.box, h.below.trans (hf.toBelow (by simp) (by omega)), h.ord⟩
/-- The forest has turned. -/
theorem ImAt.forest (h : ImAt w0 w nv pl pv tb sb ub bb fb db wb m semi up best dm R W) (F : FoAt w' ub bb fb sb m semi u b) (hf : Frm w w' [ub, bb]) : ImAt w0 w' nv pl pv tb sb ub bb fb db wb m semi u b dm R W := by
  have h1 := h.size
  have h2 := h.ord
  refine ⟨F, h.dom.frmS hf (fun g hg hm => ?_), h.wait.far hf (fun g hg => by simp at hg; omega), (hf.block _ h.box.lt (by simp; omega)).trans h.box, h.below.trans (hf.toBelow (fun g hg => by simp at hg; omega) (by omega)), h.ord⟩
  have e : g = db := by simpa [Value.ownBlock] using hg.symm
  simp at hm; omega
theorem ImAt.setSemi (h : ImAt w0 w nv pl pv tb sb ub bb fb db wb m semi up best dm R W) (p z : Nat) (hz : s p = z) (hn : ∀ x, x ≠ p → s x = semi x) : ImAt w0 (w.setCell ⟨sb, p, none⟩ (.int .i64 (z : Nat))) nv pl pv tb sb ub bb fb db wb m s up best dm R W := by
  have h1 := h.size
  have h2 := h.ord
  have hf : Frm w (w.setCell ⟨sb, p, none⟩ (.int .i64 (z : Nat))) [sb] := (Frm.refl w [sb]).setCell _ _ (.inl (by simp))
  exact ⟨h.fo.setSemi p z hz hn, h.dom.frmS hf (own_off h.dom (by omega)), h.wait.far hf (fun g hg => by simp at hg; omega), (hf.block _ h.box.lt (by simp; omega)).trans h.box, h.below.trans (hf.toBelow (fun g hg => by simp at hg; omega) (by omega)), h.ord⟩
theorem ImAt.setDom (h : ImAt w0 w nv pl pv tb sb ub bb fb db wb m semi up best dm R W) (p z : Nat) (hz : d p = z) (hn : ∀ x, x ≠ p → d x = dm x) : ImAt w0 (w.setCell ⟨db, p, none⟩ (.int .i64 (z : Nat))) nv pl pv tb sb ub bb fb db wb m semi up best d R W := by
  have h1 := h.size
  have h2 := h.ord
  have hf : Frm w (w.setCell ⟨db, p, none⟩ (.int .i64 (z : Nat))) [db] := (Frm.refl w [db]).setCell _ _ (.inl (by simp))
  have h3 := h.dom.set p (z : Int)
  rw [fl_set (h := d) hz hn] at h3
  exact ⟨h.fo.frm hf (fun x hx => by simp at hx; omega), h3, h.wait.far hf (fun g hg => by simp at hg; omega), (hf.block _ h.box.lt (by simp; omega)).trans h.box, h.below.trans (hf.toBelow (fun g hg => by simp at hg; omega) (by omega)), h.ord⟩
/-- A list has grown, and its cell holds it. -/
theorem ImAt.push (h : ImAt w0 w nv pl pv tb sb ub bb fb db wb m semi up best dm R W) {q x : Nat} {v v' : Value} (hq : q < m) (hv : R[q]? = some v) (hf : Frm w w' v.ownBlock.toList) (ho : Own w' wb 3 .i64 v' (ints (W q) ++ [(x : Int)])) (hb : v'.ownBlock = v.ownBlock ∨ ∀ g, v'.ownBlock = some g → w.heap.size ≤ g) : ImAt w0 (w'.setCell ⟨wb, q, none⟩ v') nv pl pv tb sb ub bb fb db wb m semi up best dm (R.set q v') (wadd W q x) := by
  have h1 := h.size
  have h2 := h.ord
  have hP := h.wait.push hv (wl_get W hq) hf ho hb
  have hr := h.wait.row q v _ hv (wl_get W hq)
  have hin : ∀ y ∈ v.ownBlock.toList, wb ≤ y := fun y hy => (hr.size y (by simpa using hy)).1
  have hf2 : Frm w (w'.setCell ⟨wb, q, none⟩ v') (wb :: v.ownBlock.toList) := (hf.mono (fun y hy => .inl (List.mem_cons_of_mem _ hy))).setCell _ _ (.inl (by simp))
  have hin2 : ∀ y ∈ wb :: v.ownBlock.toList, wb ≤ y := fun y hy => by
    rcases List.mem_cons.1 hy with rfl | hy
    · exact Nat.le_refl _
    · exact hin y hy
  rw [wl_set (W' := wadd W q x) (by unfold wadd; rw [if_pos rfl, ints_snoc]) (fun i hi => by unfold wadd; rw [if_neg hi])] at hP
  refine ⟨h.fo.frm hf2 (fun y hy => by have := hin2 y hy; omega), h.dom.frmS hf2 (fun g hg hm => ?_), hP, (hf2.block _ h.box.lt (fun hm => by have := hin2 _ hm; omega)).trans h.box, h.below.trans (hf2.toBelow (fun y hy => by have := hin2 y hy; omega) (by omega)), h.ord⟩
  have e : g = db := by simpa [Value.ownBlock] using hg.symm
  have := hin2 g hm
  omega
/-- A list is emptied. -/
theorem ImAt.setNil (h : ImAt w0 w nv pl pv tb sb ub bb fb db wb m semi up best dm R W) {q : Nat} (hq : q < m) : ImAt w0 (w.setCell ⟨wb, q, none⟩ (.slice none 0 0)) nv pl pv tb sb ub bb fb db wb m semi up best dm (R.set q (.slice none 0 0)) (wnil W q) := by
  have h1 := h.size
  have h2 := h.ord
  obtain ⟨v, hv⟩ : ∃ v, R[q]? = some v := ⟨_, List.getElem?_eq_getElem (by rw [h.rlen]; exact hq)⟩
  have hP := h.wait.push (v' := .slice none 0 0) (l' := []) hv (wl_get W hq) (Frm.refl _ _) Own.nil (.inr (fun g hg => by simp [Value.ownBlock] at hg))
  rw [wl_set (W' := wnil W q) (by unfold wnil; rw [if_pos rfl]; rfl) (fun i hi => by unfold wnil; rw [if_neg hi])] at hP
  have hf : Frm w (w.setCell ⟨wb, q, none⟩ (.slice none 0 0)) [wb] := (Frm.refl w [wb]).setCell _ _ (.inl (by simp))
  exact ⟨h.fo.frm hf (fun x hx => by simp at hx; omega), h.dom.frmS hf (own_off h.dom (by omega)), hP, (hf.block _ h.box.lt (by simp; omega)).trans h.box, h.below.trans (hf.toBelow (fun g hg => by simp at hg; omega) (by omega)), h.ord⟩
end
/-- Who stands in the list of the predecessors of L[w]. -/
theorem pred_mem {g : List (List Int)} (hok : okG g = true) {x : Nat} (hx : x < g.length) {z : Int} : z ∈ dd (revTo g g.length x) ↔ ∃ y : Nat, z = (y : Int) ∧ y < g.length ∧ x ∈ succs g y := by
  rw [mem_dd, mem_revTo]
  constructor
  · rintro ⟨y, hy, rfl, h⟩
    exact ⟨y, rfl, hy, (mem_succs hok).2 h⟩
  · rintro ⟨y, rfl, hy, h⟩
    exact ⟨y, hy, rfl, (mem_succs hok).1 h⟩
theorem preds_get {g : List (List Int)} {x : Nat} (hx : x < g.length) : (preds g)[x]? = some (dd (revTo g g.length x)) := by simp [preds, hx]
theorem preds_len (g : List (List Int)) : (preds g).length = g.length := by simp [preds]
/-- The places of the first j of a list of nodes. -/
def Seen1 (L : List Nat) (l : List Int) (j : Nat) (v : Nat) : Prop := ∃ (i x : Nat), i < j ∧ l[i]? = some (x : Int) ∧ L[v]? = some x
end Go.Proofs.Ytlgnmlhgghabkaa

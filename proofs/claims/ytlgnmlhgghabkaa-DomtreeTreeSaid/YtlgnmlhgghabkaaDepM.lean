/-
  Layer 8 (domtree): Depths: what it holds, and the marks of its loops over functions.
-/
import Derived.Test.YtlgnmlhgghabkaaAnc
namespace Go.Proofs.Ytlgnmlhgghabkaa
open Go.RowKit Go.Shelf

/-- A turn of one block that holds no cells, from block q on. -/
def Turn (q : Nat) (W W' : World) (row : Option Nat) : Prop := W.grownBy W' row ∧ ∀ r, row = some r → q ≤ r ∧ ∃ o : Obj, W.heap[r]? = some o ∧ o.isCells = false
theorem Whole.turn {W W' : World} {q g : Nat} {row : Option Nat} {t : TypeId} {cs : Array Value} (h : Whole W g t cs) (k : Turn q W W' row) : Whole W' g t cs :=
  h.grown k.1 (fun e => by
    obtain ⟨-, o, ho, hc⟩ := k.2 g e.symm
    rw [show W.heap[g]? = _ from h] at ho
    cases ho; cases hc)
theorem Own.turn {W W' : World} {q base : Nat} {row : Option Nat} {e : TypeId} {kd : IntKind} {v : Value} {l : List Int} (h : Own W base e kd v l) (k : Turn q W W' row) : Own W' base e kd v l := by
  refine World.ownsRow.kept h k.1 ?_
  cases hv : v.ownBlock with
  | none => exact .inl rfl
  | some g =>
    refine .inr fun e => ?_
    obtain ⟨-, o, ho, hc⟩ := k.2 g e.symm
    rcases h.2 with ⟨e1, _⟩ | ⟨g', cap, cur, e1, _, hh, _⟩
    · rw [e1] at hv; cases hv
    · rw [e1] at hv
      have : g' = g := by simpa [Value.ownBlock] using hv
      subst this
      rw [hh] at ho
      cases ho; cases hc
theorem below_turn {q : Nat} {w W W' : World} {row : Option Nat} (h : Below q w W) (hq : q ≤ W.heap.size) (k : Turn q W W' row) : Below q w W' :=
  h.grown k.1 hq (fun r e => (k.2 r e).1)

/-- What Depths holds: from block q on: the list's cell, the result, the depths and their cell. -/
structure DSt (w : World) (q : Nat) (A : Option Addr) (c n : Nat) (d : Nat → Int) (W : World) : Prop where
  lb : Whole W q 28 #[.slice A n c]
  rs : Whole W (q + 1) 28 #[.slice none 0 0]
  dt : Own W (q + 2) 3 .i64 (.slice (some ⟨q + 2, 0, none⟩) n n) (fz n d)
  db : Whole W (q + 3) 28 #[.slice (some ⟨q + 2, 0, none⟩) n n]
  bl : Below q w W
/-- The way in its box. -/
structure WSt (wb : Nat) (wv : Value) (l : List Nat) (W : World) : Prop where
  bx : Whole W wb 28 #[wv]
  own : Own W (wb + 3) 3 .i64 wv (ints l)
section
variable {w W W' : World} {q c n wb : Nat} {A : Option Addr} {d e : Nat → Int} {row : Option Nat} {wv : Value} {l : List Nat}
theorem WSt.turn (h : WSt wb wv l W) (k : Turn q W W' row) : WSt wb wv l W' := ⟨h.bx.turn k, h.own.turn k⟩
theorem DSt.size (h : DSt w q A c n d W) : q + 3 < W.heap.size := h.db.lt
theorem DSt.turn (h : DSt w q A c n d W) (k : Turn q W W' row) : DSt w q A c n d W' := ⟨h.lb.turn k, h.rs.turn k, h.dt.turn k, h.db.turn k, below_turn h.bl (by have := h.size; omega) k⟩
theorem DSt.frm (h : DSt w q A c n d W) {S : List Nat} (hf : Frm W W' S) (hs : ∀ x ∈ S, q + 4 ≤ x) : DSt w q A c n d W' := by
  have hz := h.size
  have key : ∀ x, x < q + 4 → x ∉ S := fun x hx hm => by have := hs x hm; omega
  exact ⟨(hf.block _ h.lb.lt (key _ (by omega))).trans h.lb, (hf.block _ h.rs.lt (key _ (by omega))).trans h.rs, h.dt.frmS hf (fun g hg => by
    have e : g = q + 2 := by simpa [Value.ownBlock] using hg.symm
    rw [e]; exact key _ (by omega)), (hf.block _ h.db.lt (key _ (by omega))).trans h.db, h.bl.trans (hf.toBelow (fun x hx => by have := hs x hx; omega) (by omega))⟩
theorem DSt.set (h : DSt w q A c n d W) (x : Nat) (z : Int) (hz : e x = z) (hn : ∀ y, y ≠ x → e y = d y) : DSt w q A c n e (W.setCell ⟨q + 2, x, none⟩ (.int .i64 z)) := by
  have hsz := h.size
  have hf : Frm W (W.setCell ⟨q + 2, x, none⟩ (.int .i64 z)) [q + 2] := (Frm.refl W [q + 2]).setCell _ _ (.inl (by simp))
  have h1 := h.dt.set x z
  rw [fz_set (h := e) hz hn] at h1
  exact ⟨(hf.block _ h.lb.lt (by simp)).trans h.lb, (hf.block _ h.rs.lt (by simp)).trans h.rs, h1, (hf.block _ h.db.lt (by simp)).trans h.db, h.bl.trans (hf.toBelow (fun x hx => by simp at hx; omega) (by omega))⟩
theorem WSt.frm (h : WSt wb wv l W) {S : List Nat} (hf : Frm W W' S) (hs : ∀ x ∈ S, x < wb) : WSt wb wv l W' :=
  ⟨(hf.block _ h.bx.lt (fun hm => by have := hs _ hm; omega)).trans h.bx, h.own.frmS hf (fun g hg hm => by have h1 := (h.own.size g hg).1; have := hs _ hm; omega)⟩
end
/-- The mark that a loop over a function leaves on the activation. -/
def mark (D : Nat) : Deferred := { target := .collected D, args := #[] }
/-- The marks, and their blocks. -/
structure Marks (B : Nat) (Ds : List Nat) (W : World) : Prop where
  nd : Ds.Nodup
  at_ : ∀ D ∈ Ds, B ≤ D ∧ W.heap[D]? = some (.deferred (some []))
section
variable {B D : Nat} {Ds : List Nat} {W W' : World}
theorem Marks.nil : Marks B [] W := ⟨List.nodup_nil, fun D h => (by cases h)⟩
theorem Marks.lt (h : Marks B Ds W) : ∀ D ∈ Ds, D < W.heap.size := fun D hD => (Array.getElem?_eq_some_iff.1 (h.at_ D hD).2).1
theorem Marks.cons (h : Marks B Ds W) (hB : B ≤ D) (hn : D ∉ Ds) (hD : W.heap[D]? = some (.deferred (some []))) : Marks B (D :: Ds) W :=
  ⟨List.nodup_cons.2 ⟨hn, h.nd⟩, fun E hE => by
    rcases List.mem_cons.1 hE with rfl | hE
    · exact ⟨hB, hD⟩
    · exact h.at_ E hE⟩
theorem Marks.keep (h : Marks B Ds W) (k : KeepsOthers W W') : Marks B Ds W' := ⟨h.nd, fun D hD => ⟨(h.at_ D hD).1, k.same D _ (h.at_ D hD).2 rfl⟩⟩
theorem Marks.block (h : Marks B Ds W) (k : ∀ D ∈ Ds, W'.heap[D]? = W.heap[D]?) : Marks B Ds W' := ⟨h.nd, fun D hD => ⟨(h.at_ D hD).1, (k D hD).trans (h.at_ D hD).2⟩⟩
/-- The function's return, past its marks: J is what must hold behind. -/
theorem leavesM {F : Fence} {n : Nat} {P : Program} {fn : Func} {tmps : Array Value} {R : Ending → World → Prop} (J : World → World → Prop) (hJr : ∀ W, J W W) (hJt : ∀ {X Y Z : World}, J X Y → J Y Z → J X Z) (hJ : ∀ W D, B ≤ D → W.heap[D]? = some (.deferred (some [])) → J W (W.putObj D (.deferred none))) :
    ∀ (Ds : List Nat) (W : World), Marks B Ds W → (∀ W', J W W' → ∃ v, (results fn tmps).run P W' = .ok v W' ∧ R (.returned v) W') → LeavesInM F n P fn tmps R (Ds.map mark) .returning W
  | [], W, _, h => h W (hJr W)
  | D :: Ds, W, hM, h => by
    have hD := (hM.at_ D (List.mem_cons_self ..))
    have hnd := List.nodup_cons.1 hM.nd
    refine ⟨by simp, .inl ⟨D, W.putObj D (.deferred none), rfl, run_takeDeferred hD.2, leavesM J hJr hJt hJ Ds _ ⟨hnd.2, fun E hE => ⟨(hM.at_ E (List.mem_cons_of_mem _ hE)).1, (World.putObj_heap_other (by rintro rfl; exact hnd.1 hE)).trans (hM.at_ E (List.mem_cons_of_mem _ hE)).2⟩⟩ (fun W' hW' => h W' (hJt (hJ W D hD.1 hD.2) hW'))⟩⟩
/-- Blocks that hold no cells have turned, from block B on. -/
structure Others (B : Nat) (W W' : World) : Prop where
  os : W'.os = W.os
  tape : W'.tape = W.tape
  output : W'.output = W.output
  size : W.heap.size ≤ W'.heap.size
  block : ∀ (g : Nat) (o : Obj), W.heap[g]? = some o → (g < B ∨ o.isCells = true) → W'.heap[g]? = some o
theorem Others.refl (B : Nat) (W : World) : Others B W W := ⟨rfl, rfl, rfl, Nat.le_refl _, fun _ _ h _ => h⟩
theorem Others.trans {X Y Z : World} (h : Others B X Y) (k : Others B Y Z) : Others B X Z := ⟨k.os.trans h.os, k.tape.trans h.tape, k.output.trans h.output, Nat.le_trans h.size k.size, fun g o ho hc => k.block g o (h.block g o ho hc) hc⟩
theorem Others.put (hB : B ≤ D) (hD : W.heap[D]? = some (.deferred (some []))) : Others B W (W.putObj D (.deferred none)) := by
  refine ⟨rfl, rfl, rfl, by simp [World.putObj], fun g o ho hc => ?_⟩
  have hne : g ≠ D := by
    rintro rfl
    rw [hD] at ho
    cases ho
    rcases hc with hc | hc
    · omega
    · cases hc
  exact (World.putObj_heap_other (by first | exact hne | exact hne.symm)).trans ho
theorem Others.whole {g : Nat} {t : TypeId} {cs : Array Value} (k : Others B W W') (h : Whole W g t cs) : Whole W' g t cs := k.block g _ h (.inr rfl)
theorem Others.below {q : Nat} {w : World} (k : Others B W W') (hq : q ≤ B) (hqs : q ≤ W.heap.size) (h : Below q w W) : Below q w W' :=
  h.trans ⟨k.os, k.tape, k.output, k.size, fun i hi => by
    have : i < W.heap.size := by omega
    rw [Array.getElem?_eq_getElem this]
    exact k.block i _ (Array.getElem?_eq_getElem this) (.inl (by omega))⟩
theorem Others.own {base : Nat} {e : TypeId} {v : Value} {vs : List Value} (k : Others B W W') (h : OwnV W base e v vs) : OwnV W' base e v vs := by
  obtain ⟨h1, h2⟩ := h
  refine ⟨h1, ?_⟩
  rcases h2 with h2 | ⟨g, cap, cur, rfl, hg, hh, r⟩
  · exact .inl h2
  · exact .inr ⟨g, cap, cur, rfl, hg, k.block g _ hh (.inr rfl), r⟩
end
end Go.Proofs.Ytlgnmlhgghabkaa

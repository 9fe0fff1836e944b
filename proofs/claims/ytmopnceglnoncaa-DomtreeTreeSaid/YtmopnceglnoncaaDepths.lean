/-
  Layer 8 (domtree): Depths of a tree.
-/
import Derived.Test.YtmopnceglnoncaaAnc
import Derived.Test.YtmopnceglnoncaaIdomM
import Derived.Test.YtmopnceglnoncaaIn
namespace Go.Proofs.Ytmopnceglnoncaa
open Go.RowKit Go.Shelf

/-- A turn of one block that holds no cells, from block q on. -/
def Turn (q : Nat) (W W' : World) (row : Option Nat) : Prop := W.grownBy W' row ∧ ∀ r, row = some r → q ≤ r ∧ ∃ o : Obj, W.heap[r]? = some o ∧ o.isCells = false
theorem Whole.turn {W W' : World} {q g : Nat} {row : Option Nat} {t : TypeId} {cs : Array Value} (h : Whole W g t cs) (k : Turn q W W' row) : Whole W' g t cs :=
  h.grown k.1 (fun e => by
    obtain ⟨-, o, ho, hc⟩ := k.2 g e.symm
    rw [show W.heap[g]? = _ from h] at ho
    cases ho; cases hc)
theorem Own.turn {W W' : World} {q base : Nat} {row : Option Nat} {e : TypeId} {kd : IntKind} {v : Value} {l : List Int} (h : Own W base e kd v l) (k : Turn q W W' row) : Own W' base e kd v l := by
  refine World.ownsRow.kept h k.1 ?_
  cases hv : v.ownBlock with
  | none => exact .inl rfl
  | some g =>
    refine .inr fun e => ?_
    obtain ⟨-, o, ho, hc⟩ := k.2 g e.symm
    rcases h.2 with ⟨e1, _⟩ | ⟨g', cap, cur, e1, _, hh, _⟩
    · rw [e1] at hv; cases hv
    · rw [e1] at hv
      have : g' = g := by simpa [Value.ownBlock] using hv
      subst this
      rw [hh] at ho
      cases ho; cases hc
theorem below_turn {q : Nat} {w W W' : World} {row : Option Nat} (h : Below q w W) (hq : q ≤ W.heap.size) (k : Turn q W W' row) : Below q w W' :=
  h.grown k.1 hq (fun r e => (k.2 r e).1)

/-- What Depths holds: from block q on: the list's cell, the result, the depths and their cell. -/
structure DSt (w : World) (q : Nat) (A : Option Addr) (c n : Nat) (d : Nat → Int) (W : World) : Prop where
  lb : Whole W q 28 #[.slice A n c]
  rs : Whole W (q + 1) 28 #[.slice none 0 0]
  dt : Own W (q + 2) 3 .i64 (.slice (some ⟨q + 2, 0, none⟩) n n) (fz n d)
  db : Whole W (q + 3) 28 #[.slice (some ⟨q + 2, 0, none⟩) n n]
  bl : Below q w W
/-- The way in its box. -/
structure WSt (wb : Nat) (wv : Value) (l : List Nat) (W : World) : Prop where
  bx : Whole W wb 28 #[wv]
  own : Own W (wb + 3) 3 .i64 wv (ints l)
section
variable {w W W' : World} {q c n wb : Nat} {A : Option Addr} {d e : Nat → Int} {row : Option Nat} {wv : Value} {l : List Nat}
theorem WSt.turn (h : WSt wb wv l W) (k : Turn q W W' row) : WSt wb wv l W' := ⟨h.bx.turn k, h.own.turn k⟩
theorem DSt.size (h : DSt w q A c n d W) : q + 3 < W.heap.size := h.db.lt
theorem DSt.turn (h : DSt w q A c n d W) (k : Turn q W W' row) : DSt w q A c n d W' := ⟨h.lb.turn k, h.rs.turn k, h.dt.turn k, h.db.turn k, below_turn h.bl (by have := h.size; omega) k⟩
theorem DSt.frm (h : DSt w q A c n d W) {S : List Nat} (hf : Frm W W' S) (hs : ∀ x ∈ S, q + 4 ≤ x) : DSt w q A c n d W' := by
  have hz := h.size
  have key : ∀ x, x < q + 4 → x ∉ S := fun x hx hm => by have := hs x hm; omega
  exact ⟨(hf.block _ h.lb.lt (key _ (by omega))).trans h.lb, (hf.block _ h.rs.lt (key _ (by omega))).trans h.rs, h.dt.frmS hf (fun g hg => by
    have e : g = q + 2 := by simpa [Value.ownBlock] using hg.symm
    rw [e]; exact key _ (by omega)), (hf.block _ h.db.lt (key _ (by omega))).trans h.db, h.bl.trans (hf.toBelow (fun x hx => by have := hs x hx; omega) (by omega))⟩
theorem DSt.set (h : DSt w q A c n d W) (x : Nat) (z : Int) (hz : e x = z) (hn : ∀ y, y ≠ x → e y = d y) : DSt w q A c n e (W.setCell ⟨q + 2, x, none⟩ (.int .i64 z)) := by
  have hsz := h.size
  have hf : Frm W (W.setCell ⟨q + 2, x, none⟩ (.int .i64 z)) [q + 2] := (Frm.refl W [q + 2]).setCell _ _ (.inl (by simp))
  have h1 := h.dt.set x z
  rw [fz_set (h := e) hz hn] at h1
  exact ⟨(hf.block _ h.lb.lt (by simp)).trans h.lb, (hf.block _ h.rs.lt (by simp)).trans h.rs, h1, (hf.block _ h.db.lt (by simp)).trans h.db, h.bl.trans (hf.toBelow (fun x hx => by simp at hx; omega) (by omega))⟩
theorem WSt.frm (h : WSt wb wv l W) {S : List Nat} (hf : Frm W W' S) (hs : ∀ x ∈ S, x < wb) : WSt wb wv l W' :=
  ⟨(hf.block _ h.bx.lt (fun hm => by have := hs _ hm; omega)).trans h.bx, h.own.frmS hf (fun g hg hm => by have h1 := (h.own.size g hg).1; have := hs _ hm; omega)⟩
end
/-- The mark that a loop over a function leaves on the activation. -/
def mark (D : Nat) : Deferred := { target := .collected D, args := #[] }
/-- The marks, and their blocks. -/
structure Marks (B : Nat) (Ds : List Nat) (W : World) : Prop where
  nd : Ds.Nodup
  at_ : ∀ D ∈ Ds, B ≤ D ∧ W.heap[D]? = some (.deferred (some []))
section
variable {B D : Nat} {Ds : List Nat} {W W' : World}
theorem Marks.nil : Marks B [] W := ⟨List.nodup_nil, fun D h => (by cases h)⟩
theorem Marks.lt (h : Marks B Ds W) : ∀ D ∈ Ds, D < W.heap.size := fun D hD => (Array.getElem?_eq_some_iff.1 (h.at_ D hD).2).1
theorem Marks.cons (h : Marks B Ds W) (hB : B ≤ D) (hn : D ∉ Ds) (hD : W.heap[D]? = some (.deferred (some []))) : Marks B (D :: Ds) W :=
  ⟨List.nodup_cons.2 ⟨hn, h.nd⟩, fun E hE => by
    rcases List.mem_cons.1 hE with rfl | hE
    · exact ⟨hB, hD⟩
    · exact h.at_ E hE⟩
theorem Marks.keep (h : Marks B Ds W) (k : KeepsOthers W W') : Marks B Ds W' := ⟨h.nd, fun D hD => ⟨(h.at_ D hD).1, k.same D _ (h.at_ D hD).2 rfl⟩⟩
theorem Marks.block (h : Marks B Ds W) (k : ∀ D ∈ Ds, W'.heap[D]? = W.heap[D]?) : Marks B Ds W' := ⟨h.nd, fun D hD => ⟨(h.at_ D hD).1, (k D hD).trans (h.at_ D hD).2⟩⟩
/-- The function's return, past its marks: J is what must hold behind. -/
theorem leavesM {F : Fence} {n : Nat} {P : Program} {fn : Func} {tmps : Array Value} {R : Ending → World → Prop} (J : World → World → Prop) (hJr : ∀ W, J W W) (hJt : ∀ {X Y Z : World}, J X Y → J Y Z → J X Z) (hJ : ∀ W D, B ≤ D → W.heap[D]? = some (.deferred (some [])) → J W (W.putObj D (.deferred none))) :
    ∀ (Ds : List Nat) (W : World), Marks B Ds W → (∀ W', J W W' → ∃ v, (results fn tmps).run P W' = .ok v W' ∧ R (.returned v) W') → LeavesInM F n P fn tmps R (Ds.map mark) .returning W
  | [], W, _, h => h W (hJr W)
  | D :: Ds, W, hM, h => by
    have hD := (hM.at_ D (List.mem_cons_self ..))
    have hnd := List.nodup_cons.1 hM.nd
    refine ⟨by simp, .inl ⟨D, W.putObj D (.deferred none), rfl, run_takeDeferred hD.2, leavesM J hJr hJt hJ Ds _ ⟨hnd.2, fun E hE => ⟨(hM.at_ E (List.mem_cons_of_mem _ hE)).1, (World.putObj_heap_other (by rintro rfl; exact hnd.1 hE)).trans (hM.at_ E (List.mem_cons_of_mem _ hE)).2⟩⟩ (fun W' hW' => h W' (hJt (hJ W D hD.1 hD.2) hW'))⟩⟩
/-- Blocks that hold no cells have turned, from block B on. -/
structure Others (B : Nat) (W W' : World) : Prop where
  os : W'.os = W.os
  tape : W'.tape = W.tape
  output : W'.output = W.output
  size : W.heap.size ≤ W'.heap.size
  block : ∀ (g : Nat) (o : Obj), W.heap[g]? = some o → (g < B ∨ o.isCells = true) → W'.heap[g]? = some o
theorem Others.refl (B : Nat) (W : World) : Others B W W := ⟨rfl, rfl, rfl, Nat.le_refl _, fun _ _ h _ => h⟩
theorem Others.trans {X Y Z : World} (h : Others B X Y) (k : Others B Y Z) : Others B X Z := ⟨k.os.trans h.os, k.tape.trans h.tape, k.output.trans h.output, Nat.le_trans h.size k.size, fun g o ho hc => k.block g o (h.block g o ho hc) hc⟩
theorem Others.put (hB : B ≤ D) (hD : W.heap[D]? = some (.deferred (some []))) : Others B W (W.putObj D (.deferred none)) := by
  refine ⟨rfl, rfl, rfl, by simp [World.putObj], fun g o ho hc => ?_⟩
  have hne : g ≠ D := by
    rintro rfl
    rw [hD] at ho
    cases ho
    rcases hc with hc | hc
    · omega
    · cases hc
  exact (World.putObj_heap_other (by first | exact hne | exact hne.symm)).trans ho
theorem Others.whole {g : Nat} {t : TypeId} {cs : Array Value} (k : Others B W W') (h : Whole W g t cs) : Whole W' g t cs := k.block g _ h (.inr rfl)
theorem Others.below {q : Nat} {w : World} (k : Others B W W') (hq : q ≤ B) (hqs : q ≤ W.heap.size) (h : Below q w W) : Below q w W' :=
  h.trans ⟨k.os, k.tape, k.output, k.size, fun i hi => by
    have : i < W.heap.size := by omega
    rw [Array.getElem?_eq_getElem this]
    exact k.block i _ (Array.getElem?_eq_getElem this) (.inl (by omega))⟩
theorem Others.own {base : Nat} {e : TypeId} {v : Value} {vs : List Value} (k : Others B W W') (h : OwnV W base e v vs) : OwnV W' base e v vs := by
  obtain ⟨h1, h2⟩ := h
  refine ⟨h1, ?_⟩
  rcases h2 with h2 | ⟨g, cap, cur, rfl, hg, hh, r⟩
  · exact .inl h2
  · exact .inr ⟨g, cap, cur, rfl, hg, k.block g _ hh (.inr rfl), r⟩
end
end Go.Proofs.Ytmopnceglnoncaa
namespace Go.Proofs.Ytmopnceglnoncaa
open Go.RowKit

/-- What is true of the depths: the first i indices have theirs; whoever has its own, all above it have theirs. -/
structure Dps (n : Nat) (f : Nat → Int) (dp : Nat → Nat) (i : Nat) (d : Nat → Int) : Prop where
  val : ∀ x, x < n → d x = -1 ∨ (f x ≠ -1 ∧ ∀ y ∈ pth f dp x, d y = (dp y : Int))
  fst : ∀ x, x < n → x < i → f x ≠ -1 → d x = (dp x : Int)
def mk2 (d : Nat → Int) (l : List Nat) (x : Nat) : Int := if x ∈ l then -2 else d x
def stp (f : Nat → Int) (e : Nat → Int) (x : Nat) : Nat → Int := seti e x (if f x = (x : Int) then 0 else IntKind.i64.wrap (e (above f x) + 1))
/-- The part of the way that has no depth yet. -/
structure Wy (f : Nat → Int) (dp : Nat → Nat) (d : Nat → Int) (i : Nat) (way : List Nat) : Prop where
  none : ∀ y ∈ way, d y = -1
  rest : ∃ rest, pth f dp i = way ++ rest ∧ (rest = [] ∨ ∃ x q, rest = x :: q ∧ d x ≠ -1)
section
variable {n r i : Nat} {f d : Nat → Int} {dp : Nat → Nat} {way : List Nat}
theorem Tr.suffix (T : Tr n f r dp) : ∀ (a : List Nat) (i x : Nat) (b : List Nat), i < n → f i ≠ -1 → pth f dp i = a ++ x :: b → x < n ∧ f x ≠ -1 ∧ pth f dp x = x :: b := fun a => by
  induction a with
  | nil =>
    intro i x b hi hf h
    obtain ⟨l, hl⟩ := pth_head f dp i
    rw [hl] at h
    injection h with h1 h2
    subst h1
    exact ⟨hi, hf, by rw [hl, h2]⟩
  | cons y a ih =>
    intro i x b hi hf h
    by_cases e : i = r
    · subst e
      rw [T.ptop] at h
      injection h with h1 h2
      simp at h2
    · obtain ⟨u, h1, h2, h3, h4, h5, h6, h7⟩ := T.node hi hf e
      rw [h7] at h
      injection h with h8 h9
      exact ih u x b h3 h4 h9
theorem Tr.fold (T : Tr n f r dp) (hn : n ≤ 65536) (hi : i < n) (hf : f i ≠ -1) {k : Nat} (G : Dps n f dp k d) (W : Wy f dp d i way) : ∀ (b a : List Nat), way = a ++ b → ∀ x, (b.reverse.foldl (stp f) (mk2 d way)) x = if x ∈ b then (dp x : Int) else mk2 d a x := by
  obtain ⟨rest, hp, hrest⟩ := W.rest
  have hnd := T.nodup _ i rfl hi hf
  intro b
  induction b with
  | nil =>
    intro a h x
    rw [List.append_nil] at h
    simp [h]
  | cons y b ih =>
    intro a h x
    have ih := ih (a ++ [y]) (by rw [h]; simp)
    rw [List.reverse_cons, List.foldl_append, List.foldl_cons, List.foldl_nil]
    obtain ⟨e, he⟩ : ∃ e, b.reverse.foldl (stp f) (mk2 d way) = e := ⟨_, rfl⟩
    rw [he] at ih ⊢
    have hpy : pth f dp i = a ++ y :: (b ++ rest) := by rw [hp, h]; simp
    obtain ⟨hy, hfy, hsy⟩ := T.suffix a i y _ hi hf hpy
    have hv : (if f y = (y : Int) then 0 else IntKind.i64.wrap (e (above f y) + 1)) = (dp y : Int) := by
      by_cases hr : y = r
      · subst hr; rw [if_pos T.root, T.dz]; rfl
      · obtain ⟨u, h1, h2, h3, h4, h5, h6, h7⟩ := T.node hy hfy hr
        rw [if_neg (by rw [h1]; omega), h2]
        rw [hsy] at h7
        injection h7 with _ h8
        have hu : e u = (dp u : Int) := by
          rw [ih u]
          obtain ⟨q, hq⟩ := pth_head f dp u
          rw [hq] at h8
          by_cases hb : u ∈ b
          · rw [if_pos hb]
          · rw [if_neg hb]
            cases b with
            | cons z b => injection h8 with h8 _; exact absurd (by rw [h8]; simp) hb
            | nil =>
              rw [List.nil_append] at h8
              rcases hrest with c | ⟨z, q', c, hz⟩
              · rw [c] at h8; cases h8
              · rw [c] at h8
                injection h8 with h9 h10
                subst h9
                have hna : z ∉ a ++ [y] := fun hm => by
                  rw [hpy] at hnd
                  rw [show a ++ y :: ([] ++ rest) = (a ++ [y]) ++ rest by simp] at hnd
                  exact (List.nodup_append.1 hnd).2.2 z hm z (by rw [c]; simp) rfl
                unfold mk2
                rw [if_neg hna]
                rcases G.val z h3 with g | ⟨_, g⟩
                · exact absurd g hz
                · exact g z (by rw [hq]; simp)
        rw [hu, h5]
        have := T.dlt h3 h4
        rw [show ((dp u : Int) + 1) = ((dp u + 1 : Nat) : Int) by omega]
        exact IntWalk.i64_in _ (by omega)
    unfold stp
    by_cases hx : x = y
    · subst hx
      rw [seti_at, hv, if_pos (by simp)]
    · rw [seti_ne _ _ hx, ih x]
      by_cases hb : x ∈ b
      · rw [if_pos hb, if_pos (by simp [hb])]
      · rw [if_neg hb, if_neg (by simp [hx, hb])]
        unfold mk2
        by_cases ha : x ∈ a
        · rw [if_pos ha, if_pos (by simp [ha])]
        · rw [if_neg ha, if_neg (by simp [ha, hx])]
theorem Tr.round (T : Tr n f r dp) (hn : n ≤ 65536) (hi : i < n) (hf : f i ≠ -1) (G : Dps n f dp i d) (W : Wy f dp d i way) : Dps n f dp (i + 1) (way.reverse.foldl (stp f) (mk2 d way)) := by
  have key := T.fold hn hi hf G W way [] rfl
  have e1 : ∀ x, (way.reverse.foldl (stp f) (mk2 d way)) x = if x ∈ way then (dp x : Int) else d x := fun x => by
    rw [key x]
    by_cases h : x ∈ way
    · rw [if_pos h, if_pos h]
    · rw [if_neg h, if_neg h]; simp [mk2]
  obtain ⟨rest, hp, hrest⟩ := W.rest
  refine ⟨fun x hx => ?_, fun x hx hxi hfx => ?_⟩
  · rw [e1 x]
    by_cases h : x ∈ way
    · rw [if_pos h]
      obtain ⟨a, b, hab⟩ := List.append_of_mem h
      obtain ⟨_, hfx, hsx⟩ := T.suffix a i x (b ++ rest) hi hf (by rw [hp, hab]; simp)
      refine .inr ⟨hfx, fun y hy => ?_⟩
      rw [e1 y]
      by_cases hyw : y ∈ way
      · rw [if_pos hyw]
      · rw [if_neg hyw]
        rw [hsx] at hy
        rcases List.mem_cons.1 hy with rfl | hy
        · exact absurd h hyw
        · rcases List.mem_append.1 hy with hy | hy
          · exact absurd (by rw [hab]; simp [hy]) hyw
          · rcases hrest with c | ⟨z, q, c, hz⟩
            · rw [c] at hy; cases hy
            · obtain ⟨hz1, _, hz3⟩ := T.suffix way i z q hi hf (by rw [hp, c])
              rcases G.val z hz1 with g | ⟨_, g⟩
              · exact absurd g hz
              · exact g y (by rw [hz3, ← c]; exact hy)
    · rw [if_neg h]
      rcases G.val x hx with g | ⟨g1, g⟩
      · exact .inl g
      · refine .inr ⟨g1, fun y hy => ?_⟩
        rw [e1 y]
        by_cases hyw : y ∈ way
        · rw [if_pos hyw]
        · rw [if_neg hyw]; exact g y hy
  · rw [e1 x]
    by_cases h : x ∈ way
    · rw [if_pos h]
    · rw [if_neg h]
      rcases Nat.lt_succ_iff_lt_or_eq.1 hxi with hxi | rfl
      · exact G.fst x hx hxi hfx
      · obtain ⟨q, hq⟩ := pth_head f dp x
        cases way with
        | cons z way =>
          rw [hq] at hp
          injection hp with hp _
          exact absurd (by rw [hp]; simp) h
        | nil =>
          rw [List.nil_append] at hp
          rcases hrest with c | ⟨z, q', c, hz⟩
          · rw [c, hq] at hp; cases hp
          · rw [c, hq] at hp
            injection hp with hp _
            subst hp
            rcases G.val x hx with g | ⟨_, g⟩
            · exact absurd g hz
            · exact g x (by rw [hq]; simp)
theorem Dps.skip {k : Nat} (G : Dps n f dp k d) (hf : f k = -1) : Dps n f dp (k + 1) d := ⟨G.val, fun x hx hk hfx => by
  rcases Nat.lt_succ_iff_lt_or_eq.1 hk with hk | rfl
  · exact G.fst x hx hk hfx
  · exact absurd hf hfx⟩
theorem Dps.zero : Dps n f dp 0 (fun _ => -1) := ⟨fun _ _ => .inl rfl, fun _ _ h => by omega⟩
theorem Dps.all (G : Dps n f dp n d) : ∀ x, x < n → d x = if f x = -1 then -1 else (dp x : Int) := fun x hx => by
  by_cases h : f x = -1
  · rw [if_pos h]
    rcases G.val x hx with g | ⟨g, _⟩
    · exact g
    · exact absurd h g
  · rw [if_neg h]; exact G.fst x hx hx h
end
/-- The nodes themselves. -/
def vals {Pd : Nat → Prop} (l : List (Nd Pd)) : List Nat := l.map Subtype.val
theorem vals_snoc {Pd : Nat → Prop} (l : List (Nd Pd)) (x : Nd Pd) : vals (l ++ [x]) = vals l ++ [x.1] := by simp [vals]
theorem vals_len {Pd : Nat → Prop} (l : List (Nd Pd)) : (vals l).length = l.length := by simp [vals]
/-- The blocks of the marks are untouched. -/
def Quiets (Ds : List Nat) (W : World) : Prop := ∀ E ∈ Ds, W.heap[E]? = some (.deferred (some []))
/-- What follows a loop over a function, once for all the ways out of it. -/
theorem rfCut {F : Fence} {n : Nat} {P : Program} {g : Operand} {ps : Array Tmp} {asg body : Code} {Q : Exit → Act → World → Prop} {a : Act} {w : World} (Fc : Nat → List Nat → World → Prop) (tail : ∀ D way W, Fc D way W → Q .normal { a with defers := mark D :: a.defers } W)
    (main : (∀ D way W, Fc D way W → Q .normal { a with defers := mark D :: a.defers } W) → (Code.rangeFunc g ps asg body).wpIn F n P Q a w) : (Code.rangeFunc g ps asg body).wpIn F n P Q a w := main tail
theorem keeps_frm {W W' : World} {S : List Nat} (hf : Frm W W' S) (hS : ∀ g ∈ S, ∀ o, W.heap[g]? = some o → o.isCells = true) : KeepsOthers W W' :=
  ⟨hf.size, fun k o hk hc => (hf.block k (Array.getElem?_eq_some_iff.1 hk).1 (fun hm => by rw [hS k hm o hk] at hc; cases hc)).trans hk⟩
theorem own_cells {W : World} {base : Nat} {e : TypeId} {k : IntKind} {v : Value} {l : List Int} (h : Own W base e k v l) : ∀ g ∈ v.ownBlock.toList, ∀ o, W.heap[g]? = some o → o.isCells = true := fun g hg o ho => by
  rcases h.2 with ⟨e1, _⟩ | ⟨g', cap, cur, e1, _, hh, _⟩
  · rw [e1] at hg; simp [Value.ownBlock] at hg
  · rw [e1] at hg
    have : g' = g := by simpa [Value.ownBlock, eq_comm] using hg
    subst this
    rw [hh] at ho
    cases ho; rfl
theorem WSt.push {W w1 : World} {wb x : Nat} {wv v' : Value} {l : List Nat} {t : TypeId} {cs : Array Value} (h : WSt wb wv l W) (ho : Own w1 (wb + 3) 3 .i64 v' (ints l ++ [(x : Int)])) (hf : Frm (W.alloc (.cells cs t)) w1 wv.ownBlock.toList) : Whole w1 wb 28 #[wv] ∧ WSt wb v' (l ++ [x]) (w1.setCell ⟨wb, 0, none⟩ v') ∧ Frm W (w1.setCell ⟨wb, 0, none⟩ v') (wb :: wv.ownBlock.toList) ∧ KeepsOthers W (w1.setCell ⟨wb, 0, none⟩ v') := by
  have hin : ∀ g ∈ wv.ownBlock.toList, wb + 3 ≤ g := fun g hg => (h.own.size g (by simpa using hg)).1
  have hf1 : Frm W w1 wv.ownBlock.toList := ((Frm.refl W _).alloc _).trans hf
  have hw : Whole w1 wb 28 #[wv] := (hf1.block _ h.bx.lt (fun hm => by have := hin _ hm; omega)).trans h.bx
  have hf2 : Frm w1 (w1.setCell ⟨wb, 0, none⟩ v') [wb] := (Frm.refl w1 [wb]).setCell _ _ (.inl (by simp))
  refine ⟨hw, ⟨hw.set 0 v', ?_⟩, (hf1.mono (fun g hg => .inl (List.mem_cons_of_mem _ hg))).trans' hf2 (fun g hg => .inl (by rw [List.mem_singleton.1 hg]; simp)), (keeps_frm hf1 (own_cells h.own)).trans (KeepsOthers.setCell _ _ _)⟩
  rw [ints_snoc]
  exact ho.frmS hf2 (fun g hg hm => by have := (ho.size g hg).1; rw [List.mem_singleton.1 hm] at this; omega)
theorem kq_frm {W W' : World} {S : List Nat} {n₀ : Nat} {S' : List Nat} (hf : Frm W W' S) (hs : n₀ ≤ W.heap.size) (hS : ∀ g ∈ S, g ∈ S' ∨ n₀ ≤ g) : Kq n₀ S' W W' :=
  ⟨hf.size, fun i h1 h2 => hf.block i (by omega) (fun hm => by
    rcases hS i hm with h | h
    · exact h2 h
    · omega)⟩
theorem mk2_snoc {d : Nat → Int} {l : List Nat} {x : Nat} : mk2 d (l ++ [x]) x = -2 ∧ ∀ y, y ≠ x → mk2 d (l ++ [x]) y = mk2 d l y := by
  refine ⟨by simp [mk2], fun y hy => ?_⟩
  unfold mk2
  by_cases h : y ∈ l
  · rw [if_pos h, if_pos (by simp [h])]
  · rw [if_neg h, if_neg (by simp [h, hy])]
end Go.Proofs.Ytmopnceglnoncaa
namespace Go.Proofs.Ytmopnceglnoncaa
open Go.RowKit Go.Shelf

attribute [local go_sem] Oper.semAt_some

set_option maxRecDepth 100000 in
set_option maxHeartbeats 16000000 in
theorem depths_in {n r : Nat} {f : Nat → Int} {dp : Nat → Nat} (T : Tr n f r dp) (hn : n ≤ 65536) (m : Nat) (hm : 3 ≤ m) (A : Option Addr) (c : Nat) (w : World) (hI : Rd w .i64 (.slice A n c) (fz n f)) :
    CallsIn Fence.wide m Try.prog 20 #[.slice A n c] w fun en w' => ∃ D, en = .returned (.slice (some ⟨D, 0, none⟩) n n) ∧ Own w' w.heap.size 3 .i64 (.slice (some ⟨D, 0, none⟩) n n) (fz n (fun x => if f x = -1 then -1 else (dp x : Int))) ∧ Below w.heap.size w w' := by
  obtain ⟨b, o, rfl, hbl, -⟩ := rd_at hI (fz_get f T.rlt)
  obtain ⟨w1, hw1⟩ : ∃ x, w.alloc (.cells #[.slice (some ⟨b, o, none⟩) n c] 28) = x := ⟨_, rfl⟩
  obtain ⟨w2, hw2⟩ : ∃ x, w1.alloc (.cells #[.slice none 0 0] 28) = x := ⟨_, rfl⟩
  have hs1 : w1.heap.size = w.heap.size + 1 := by rw [← hw1, World.size_alloc]
  have hs2 : w2.heap.size = w.heap.size + 2 := by rw [← hw2, World.size_alloc, hs1]
  have hb1 : Below w.heap.size w w1 := by rw [← hw1]; exact (Below.refl _ _).alloc (Nat.le_refl _) _
  have hb2 : Below w1.heap.size w1 w2 := by rw [← hw2]; exact (Below.refl _ _).alloc (Nat.le_refl _) _
  have hL2 : Whole w2 w.heap.size 28 #[.slice (some ⟨b, o, none⟩) n c] := by
    have : Whole w1 w.heap.size 28 #[.slice (some ⟨b, o, none⟩) n c] := by rw [← hw1]; exact Whole.new _ _ _
    exact this.below' hb2
  have hR2 : Whole w2 (w.heap.size + 1) 28 #[.slice none 0 0] := by rw [← hs1, ← hw2]; exact Whole.new _ _ _
  have HB2 : Hid (Below w.heap.size w w2) := hide (hb1.trans (hb2.mono (by omega)))
  have HLK := hide (linked_tree T (some ⟨b, o, none⟩) c w2 (hI.below' HB2.out))
  have hc1 : w2.cell? ⟨w.heap.size, 0, none⟩ = some (.slice (some ⟨b, o, none⟩) n c) := hL2.cell 0
  have hmk := run_made w2 28 3 (.int .i64 0) 8 Try.underlying28 infoInt rfl (by omega) n (by omega)
  obtain ⟨w3, hw3⟩ : ∃ x, w2.alloc (.cells (madeCells #[.int .i64 0] n) 3) = x := ⟨_, rfl⟩
  have hs3 : w3.heap.size = w.heap.size + 3 := by rw [← hw3, World.size_alloc, hs2]
  have hb3 : Below w2.heap.size w2 w3 := by rw [← hw3]; exact (Below.refl _ _).alloc (Nat.le_refl _) _
  obtain ⟨w4, hw4⟩ : ∃ x, w3.alloc (.cells #[.slice none 0 0] 28) = x := ⟨_, rfl⟩
  have hb4 : Below w3.heap.size w3 w4 := by rw [← hw4]; exact (Below.refl _ _).alloc (Nat.le_refl _) _
  have hD4 : Whole w4 (w.heap.size + 3) 28 #[.slice none 0 0] := by rw [← hs3, ← hw4]; exact Whole.new _ _ _
  obtain ⟨w5, hw5⟩ : ∃ x, w4.setCell ⟨w.heap.size + 3, 0, none⟩ (.slice (some ⟨w.heap.size + 2, 0, none⟩) n n) = x := ⟨_, rfl⟩
  have hD5 : Whole w5 (w.heap.size + 3) 28 #[.slice (some ⟨w.heap.size + 2, 0, none⟩) n n] := by rw [← hw5]; exact hD4.set 0 _
  have a1 : w4.cell? ⟨w.heap.size + 3, 0, none⟩ = some (.slice none 0 0) := hD4.cell 0
  have a1f := hD4.free 0
  have hf5 : Frm w2 w5 [] := by rw [← hw5]; exact ((Frm.below hb3).trans (Frm.below hb4)).setCell _ _ (.inr (by show w2.heap.size ≤ w.heap.size + 3; omega))
  have hS5 : DSt w w.heap.size (some ⟨b, o, none⟩) c n (fun x => if x < 0 then -1 else 0) w5 := by
    refine ⟨(hf5.block _ hL2.lt (by simp)).trans hL2, (hf5.block _ hR2.lt (by simp)).trans hR2, ?_, hD5, HB2.out.trans (hf5.toBelow (by simp) (by omega))⟩
    have h3 : Own w3 (w.heap.size + 2) 3 .i64 (.slice (some ⟨w.heap.size + 2, 0, none⟩) n n) (fz n (fun x => if x < 0 then -1 else 0)) := by
      rw [fz_ext (h := fun _ => 0) (fun i _ => by simp), ← hs2, ← hw3]
      refine OwnV.toI ?_
      rw [fz_const, List.map_replicate]
      exact own_madeV w2 3 (.int .i64 0) n w2.heap.size (by unfold maxLen; omega) (Nat.le_refl _)
    have hf35 : Frm w3 w5 [] := by rw [← hw5]; exact (Frm.below hb4).setCell _ _ (.inr (by show w3.heap.size ≤ w.heap.size + 3; omega))
    exact h3.frmS hf35 (fun _ _ => by simp)
  have HS5 := hide hS5
  have a2 : w5.cell? ⟨w.heap.size + 3, 0, none⟩ = some (.slice (some ⟨w.heap.size + 2, 0, none⟩) n n) := hD5.cell 0
  have HT := hide T
  have HI := hide hI
  clear hb1 hb2 hb3 hb4 hL2 hR2 hD4 hD5 hf5 hS5 T hI
  have h1 : 1 ≤ m := by omega
  refine callsIn_of_wp_marks Try.func20 rfl trivial ?_ rfl
  simp only [Try.ntmps20, List.size_toArray, List.length_cons, List.length_nil, Nat.reduceAdd, Nat.reduceSub, Array.replicate_succ, Array.replicate_zero, List.push_toArray, List.append_toArray, List.nil_append, List.cons_append]
  gi_wp2_with (refine ⟨trivial, ?_⟩; gi_at_call 43; refine (callsIn_wide.2 HLK.out).mono ?_; rintro e w' ⟨rfl, hw'⟩; obtain rfl := hw')
  clear hw1 hs1 hs3 hw3 hw4 hw5 a1 a1f a2 hc1 hmk
  gi_loopw [19] (fun z wr => ∃ i : Nat, i ≤ n ∧ z = .int .i64 (i : Nat) ∧ Hid (DSt w w.heap.size (some ⟨b, o, none⟩) c n (fun x => if x < i then -1 else 0) wr)) (fun z _ => n - (intOf z).toNat)
  case atStart => exact ⟨0, Nat.zero_le _, rfl, HS5⟩
  case round =>
    clear HS5
    obtain ⟨i, hi, rfl, HS⟩ := hrel
    by_cases hlt : i < n
    · have hlt' : (i : Int) < n := by omega
      have c1 : wr.cell? ⟨w.heap.size + 3, 0, none⟩ = some (.slice (some ⟨w.heap.size + 2, 0, none⟩) n n) := HS.out.db.cell 0
      have c2 := HS.out.dt.cellAt (fz_get (fun x => if x < i then -1 else 0) hlt)
      have c2f := HS.out.dt.freeAt i
      have HX := hide (HS.out.set (e := fun x => if x < i + 1 then -1 else 0) i (-1) (by simp) (fun j hj => by
        by_cases e : j < i
        · simp [e]; omega
        · simp [e]; omega))
      gi_wp2
      go_roundw
      case rel => exact ⟨i + 1, by omega, by go_num, HX⟩
      case measure => simp [intOf]; omega
    · obtain rfl : i = n := by omega
      have c1 : wr.cell? ⟨w.heap.size, 0, none⟩ = some (.slice (some ⟨b, o, none⟩) i c) := HS.out.lb.cell 0
      gi_wp2
      refine wpIn_loop (fun a W => ∃ (k : Nat) (Ds : List Nat) (d : Nat → Int), ∃ v5 v6 v7 v8 v9 v10 v29 v30 v31 v32 v33 v34 v35 v36 v37 v38 v39 v40 v41 v42 v43 v44 v45 v46 v47 v48 v49 v50 v51 v52 v53 v54 v55 v56 v57 v58 v59 v60 v61 v62 v63 v64 v65 v66 v67 v68 v69 v70 v71 v72 v73 v74 v75 v76 v77 v78 v79 : Value, a = { tmps := #[.slice (some ⟨b, o, none⟩) i c, .pointer (some ⟨w.heap.size, 0, none⟩), .pointer (some ⟨w.heap.size + 1, 0, none⟩), .pointer (some ⟨w.heap.size + 3, 0, none⟩), u4, v5, v6, v7, v8, v9, v10, .slice (some ⟨b, o, none⟩) i c, .bool true, .bool false, .slice (some ⟨b, o, none⟩) i c, .int .i64 (i : Nat), .slice (some ⟨w.heap.size + 2, 0, none⟩) i i, .slice (some ⟨w.heap.size + 2, 0, none⟩) i i, .int .i64 (i : Nat), .int .i64 (i : Nat), .bool false, u21, u22, u23, u24, u25, .slice (some ⟨b, o, none⟩) i c, .int .i64 (i : Nat), .int .i64 (k : Nat), v29, v30, v31, v32, v33, v34, v35, v36, v37, v38, v39, v40, v41, v42, v43, v44, v45, v46, v47, v48, v49, v50, v51, v52, v53, v54, v55, v56, v57, v58, v59, v60, v61, v62, v63, v64, v65, v66, v67, v68, v69, v70, v71, v72, v73, v74, v75, v76, v77, v78, v79], defers := Ds.map mark } ∧ k ≤ i ∧ Hid (Dps i f dp k d) ∧ Hid (DSt w w.heap.size (some ⟨b, o, none⟩) c i d W) ∧ Hid (Marks w.heap.size Ds W)) (fun a _ => i - (intOf (a.tmps.getD 28 undef)).toNat) ?_ ?_
      · exact ⟨0, [], fun _ => -1, _, _, _, _, _, _, _, _, _, _, _, _, _, _, _, _, _, _, _, _, _, _, _, _, _, _, _, _, _, _, _, _, _, _, _, _, _, _, _, _, _, _, _, _, _, _, _, _, _, _, _, _, _, _, _, _, _, rfl, Nat.zero_le _, hide Dps.zero, hide (by
          have := HS.out
          exact ⟨this.lb, this.rs, by have h := this.dt; rwa [fz_ext (h := fun _ => -1) (fun x hx => if_pos hx)] at h, this.db, this.bl⟩), hide Marks.nil⟩
      · clear HS c1
        rintro a W ⟨k, Ds, d, v5, v6, v7, v8, v9, v10, v29, v30, v31, v32, v33, v34, v35, v36, v37, v38, v39, v40, v41, v42, v43, v44, v45, v46, v47, v48, v49, v50, v51, v52, v53, v54, v55, v56, v57, v58, v59, v60, v61, v62, v63, v64, v65, v66, v67, v68, v69, v70, v71, v72, v73, v74, v75, v76, v77, v78, v79, rfl, hk, HG, HS, HM⟩
        have c1 : W.cell? ⟨w.heap.size, 0, none⟩ = some (.slice (some ⟨b, o, none⟩) i c) := HS.out.lb.cell 0
        by_cases hki : k < i
        · have hki' : (k : Int) < i := by omega
          have HIT := hide (inTree_any (some ⟨b, o, none⟩) c i f (k : Int) W (HI.out.below' HS.out.bl))
          by_cases hf : f k = -1
          · have e0 : inT i f (k : Int) = false := decide_eq_false (fun h => h.2.2 (by simpa using hf))
            rw [e0] at HIT
            have HG2 := hide (HG.out.skip hf)
            gi_wp2_with (refine ⟨trivial, ?_⟩; gi_at_call 38; refine (callsIn_wide.2 HIT.out).mono ?_; rintro e w' ⟨rfl, hw'⟩; obtain rfl := hw')
            refine ⟨⟨k + 1, Ds, d, _, _, _, _, _, _, _, _, _, _, _, _, _, _, _, _, _, _, _, _, _, _, _, _, _, _, _, _, _, _, _, _, _, _, _, _, _, _, _, _, _, _, _, _, _, _, _, _, _, _, _, _, _, _, _, _, _, rfl, by omega, HG2, HS, HM⟩, ?_⟩
            simp [intOf]; omega
          · have e0 := inT_yes hki hf
            rw [e0] at HIT
            obtain ⟨wb, hwb⟩ : ∃ x, W.heap.size = x := ⟨_, rfl⟩
            obtain ⟨W1, hW1⟩ : ∃ x, W.alloc (.cells #[.slice none 0 0] 28) = x := ⟨_, rfl⟩
            have hz1 : W1.heap.size = wb + 1 := by rw [← hW1, World.size_alloc, hwb]
            have hbW1 : Below W.heap.size W W1 := by rw [← hW1]; exact (Below.refl _ _).alloc (Nat.le_refl _) _
            have hX1 : Whole W1 wb 28 #[.slice none 0 0] := by rw [← hwb, ← hW1]; exact Whole.new _ _ _
            have HAC := hide (anc_call (some ⟨b, o, none⟩) i c k W1)
            rw [hz1] at HAC
            obtain ⟨W2, hW2⟩ : ∃ x, W1.alloc (.cells #[.slice (some ⟨b, o, none⟩) i c] 28) = x := ⟨_, rfl⟩
            have hz2 : W2.heap.size = wb + 1 + 1 := by rw [← hW2, World.size_alloc, hz1]
            have hbW2 : Below W1.heap.size W1 W2 := by rw [← hW2]; exact (Below.refl _ _).alloc (Nat.le_refl _) _
            have hX2 : W2.cell? ⟨wb + 1, 0, none⟩ = some (.slice (some ⟨b, o, none⟩) i c) := by
              have : Whole W2 (wb + 1) 28 #[.slice (some ⟨b, o, none⟩) i c] := by rw [← hz1, ← hW2]; exact Whole.new _ _ _
              exact this.cell 0
            obtain ⟨W3, hW3⟩ : ∃ x, W2.alloc (.cells #[.int .i64 (k : Nat)] 3) = x := ⟨_, rfl⟩
            have hz3 : W3.heap.size = wb + 1 + 1 + 1 := by rw [← hW3, World.size_alloc, hz2]
            have hbW3 : Below W2.heap.size W2 W3 := by rw [← hW3]; exact (Below.refl _ _).alloc (Nat.le_refl _) _
            have hX3 : W3.cell? ⟨wb + 1 + 1, 0, none⟩ = some (.int .i64 (k : Nat)) := by
              have : Whole W3 (wb + 1 + 1) 3 #[.int .i64 (k : Nat)] := by rw [← hz2, ← hW3]; exact Whole.new _ _ _
              exact this.cell 0
            have hX23 : W3.cell? ⟨wb + 1, 0, none⟩ = some (.slice (some ⟨b, o, none⟩) i c) := (hbW3.cell (p := ⟨wb + 1, 0, none⟩) (lt_of_cell hX2)).trans hX2
            have hbW13 : Below W1.heap.size W1 W3 := hbW2.trans (hbW3.mono (by omega))
            have hbW : Below W.heap.size W W3 := hbW1.trans (hbW13.mono (by omega))
            rw [hW2, hW3] at HAC
            have HS3 := hide (HS.out.frm (Frm.below (S := []) hbW) (by simp))
            have HW3 : Hid (WSt wb (.slice none 0 0) [] W3) := hide ⟨hX1.below' hbW13, Own.nil⟩
            have HM3 := hide (HM.out.block (fun D hD => hbW.block D (HM.out.lt D hD)))
            have HMW : Hid (∀ D ∈ Ds, D < wb) := hide (fun D hD => by have := HM.out.lt D hD; omega)
            have hqs := HS.out.size
            have hc3 : W1.cell? ⟨w.heap.size, 0, none⟩ = some (.slice (some ⟨b, o, none⟩) i c) := (hbW1.cell (p := ⟨w.heap.size, 0, none⟩) (lt_of_cell c1)).trans c1
            have HI3 := hide (HI.out.below' (HS3.out.bl))
            have HX3 := hide (And.intro hX3 hX23)
            clear hbW1 hbW2 hbW3 hbW13 hbW hX1 hX2 hX3 hX23 HS HM hz2
            gi_wp2_with (first | (refine ⟨trivial, ?_⟩; gi_at_call 38; refine (callsIn_wide.2 HIT.out).mono ?_; rintro e w' ⟨rfl, hw'⟩; obtain rfl := hw') | (refine ⟨trivial, ?_⟩; gi_at_call 39; refine (callsIn_wide.2 HAC.out).mono ?_; rintro e w' ⟨rfl, hw'⟩; obtain rfl := hw'))
            refine rfCut (fun D way W => Hid (DSt w w.heap.size (some ⟨b, o, none⟩) c i (mk2 d way) W ∧ (∃ wv, WSt wb wv way W) ∧ Wy f dp d k way ∧ Marks w.heap.size (D :: Ds) W ∧ wb + 3 ≤ D)) ?tail ?main
            case tail =>
              rintro D way W hh
              obtain ⟨hSe, hWSe, hwy, hmd, hDz⟩ := hh.out
              have HWY := hide hwy
              have HMD := hide hmd
              have hzz : wb + 3 ≤ W.heap.size := by have := hmd.lt D (List.mem_cons_self ..); omega
              clear hwy hmd hh
              obtain ⟨wv, hwv⟩ := hWSe
              have hq2 := HWY.out.rest
              have HDB : Hid (∀ x ∈ way, x < i ∧ f x ≠ -1) := hide (fun x hx => by
                obtain ⟨rest, hr, _⟩ := hq2
                have := HT.out.mem _ k rfl hki hf x (by rw [hr]; exact List.mem_append_left _ hx)
                exact ⟨this.1, this.2.1⟩)
              have hwl : way.length ≤ 70000 := by
                obtain ⟨rest, hr, _⟩ := hq2
                have h2 := congrArg List.length hr
                unfold pth at h2
                rw [pathN_len, List.length_append] at h2
                have := HT.out.dlt hki hf
                omega
              have k1 : W.cell? ⟨wb, 0, none⟩ = some wv := hwv.bx.cell 0
              obtain ⟨Av, cv, rfl, hcv, hcm, hAv⟩ := hwv.own.rd
              rw [ints_len] at hcv
              have hcv9 : cv ≤ 9223372036854775807 := by unfold maxLen at hcm; omega
              rw [ints_len] at k1
              have HWV := hide hwv
              have HSE := hide hSe
              obtain ⟨zb, hzb⟩ : ∃ x, W.heap.size = x := ⟨_, rfl⟩
              have HBK := hide (back_call Av way.length cv W)
              rw [hzb] at HBK
              obtain ⟨Y1, hY1⟩ : ∃ x, W.alloc (.cells #[.slice Av way.length cv] 28) = x := ⟨_, rfl⟩
              rw [hY1] at HBK
              have hy1 : Y1.heap.size = zb + 1 := by rw [← hY1, World.size_alloc, hzb]
              have hbY : Below W.heap.size W Y1 := by rw [← hY1]; exact (Below.refl _ _).alloc (Nat.le_refl _) _
              have hXY : Whole Y1 zb 28 #[.slice Av way.length cv] := by rw [← hzb, ← hY1]; exact Whole.new _ _ _
              have HKY : Hid (KeepsOthers W Y1) := hide (by rw [← hY1]; exact KeepsOthers.alloc _ _)
              clear hwv hSe hcm hq2
              gi_wp2_with (refine ⟨trivial, ?_⟩; gi_at_call 44; refine (callsIn_wide.2 HBK.out).mono ?_; rintro e w' ⟨rfl, hw'⟩; obtain rfl := hw')
              have HXY := hide hXY
              have HMY := hide (HMD.out.keep HKY.out)
              have HSY := hide (HSE.out.frm (Frm.below (S := []) hbY) (by simp))
              have hrdY := (HWV.out.own.below' hbY).rd
              rw [ints_len] at hrdY
              have hown9 : ∀ g, (Value.slice Av way.length cv).ownBlock = some g → wb + 3 ≤ g ∧ g < zb := fun g hg => by
                have := HWV.out.own.size g (by cases Av <;> exact hg)
                omega
              have hwz : wb < zb := by have := HWV.out.bx.lt; omega
              have hAv2 : ∀ j, (∃ o, Av = some ⟨j, o, none⟩) → wb + 3 ≤ j ∧ j < zb := fun j ⟨o', e'⟩ => hown9 j (by rw [e']; rfl)
              have HRY := hide hrdY
              have HDLT : Hid (∀ E ∈ D :: Ds, E < zb) := hide (fun E hE => by have := HMD.out.lt E hE; omega)
              have HIY := hide (HI.out.below' HSY.out.bl)
              clear hXY hbY hrdY hown9
              refine' wpIn_rangeFunc_ownF rfl h1 (gf := 54) (lb := #[.pointer (some ⟨zb, 0, none⟩)]) rfl trivial (enters_of Try.func54 (by kernel_rfl) rfl)
                (back_stops (m - 1) zb cv (zb + 1) Av [w.heap.size + 2] way (by omega) (fun x => x < i ∧ f x ≠ -1) HDB.out (by omega) Y1 (fun j hj => by
                  rcases hj with rfl | hj
                  · exact ⟨by omega, by simp; omega⟩
                  · have := hAv2 j hj; exact ⟨by omega, by simp; omega⟩) (by omega) (HXY.out.cell 0) HRY.out) Kq.t (Kq.b (by omega)) (Below.refl _ _) (fun _ => rfl)
                (fun pre W => Hid (DSt w w.heap.size (some ⟨b, o, none⟩) c i ((pre.map (fun p => p.2.1)).foldl (stp f) (mk2 d way)) W ∧ Quiets (D :: Ds) W ∧ zb + 1 ≤ W.heap.size))
                (fun _ _ _ => False)
                ?own2 ?ownx2 ?h02 _ ?assign2 ?body2 ?done2 ?stop2
              case own2 =>
                rintro pre X Y row hh hg hr
                obtain ⟨g1, g4, g5⟩ := hh.out
                have kt : Turn w.heap.size X Y row := ⟨hg, fun r e => ⟨by have := (hr r e).1; omega, (hr r e).2⟩⟩
                exact hide ⟨g1.turn kt, fun E hE => (hg.block E (by have := (HDLT.out E hE); omega) (fun e => by have := (hr E e.symm).1; have := HDLT.out E hE; omega)).trans (g4 E hE), Nat.le_trans g5 hg.size⟩
              case ownx2 =>
                rintro c' pre X Y row hh hg hr
                exact hh.elim
              case h02 => exact hide ⟨HSY.out, fun E hE => (HMY.out.at_ E hE).2, by omega⟩
              case assign2 =>
                intro l x W K hK
                gi_wp2
                simpa using hK
              case body2 =>
                rintro l pre ⟨jx, x, hx, hfx⟩ W hh hpl
                obtain ⟨hS, hD, hz⟩ := hh.out
                obtain ⟨e, he⟩ : ∃ e, (pre.map (fun p => p.2.1)).foldl (stp f) (mk2 d way) = e := ⟨_, rfl⟩
                have HPS : Hid (∀ h, ((pre ++ [((jx, ⟨x, h⟩) : Nat × Nd (fun x => x < i ∧ f x ≠ -1))]).map (fun p => p.2.1)).foldl (stp f) (mk2 d way) = stp f e x) := hide (fun h => by rw [List.map_append, List.foldl_append, he]; rfl)
                rw [he] at hS
                obtain ⟨u, hfu, hu, -⟩ := HT.out.val hx hfx
                have hx' : (x : Int) < i := by omega
                have hu' : (u : Int) < i := by omega
                have HND := hide (And.intro hD hz)
                have k0 : W.cell? ⟨w.heap.size + 3, 0, none⟩ = some (.slice (some ⟨w.heap.size + 2, 0, none⟩) i i) := hS.db.cell 0
                have k1 := hS.dt.cellAt (fz_get e hx)
                have k1f := hS.dt.freeAt x
                obtain ⟨X1, hX1⟩ : ∃ y, W.setCell ⟨w.heap.size + 2, x, none⟩ (.int .i64 0) = y := ⟨_, rfl⟩
                have hfX1 : Frm W X1 [w.heap.size + 2] := by rw [← hX1]; exact (Frm.refl W _).setCell _ _ (.inl (by simp))
                have hSX : DSt w w.heap.size (some ⟨b, o, none⟩) c i (seti e x 0) X1 := by rw [← hX1]; exact hS.set x 0 (seti_at _ _ _) (fun y hy => seti_ne _ _ hy)
                have HKX : Hid (KeepsOthers W X1) := hide (by rw [← hX1]; exact KeepsOthers.setCell _ _ _)
                have HFX := hide hfX1
                have HSX := hide hSX
                have hXs : zb + 1 ≤ X1.heap.size := Nat.le_trans hz hfX1.size
                have k2 : X1.cell? ⟨w.heap.size, 0, none⟩ = some (.slice (some ⟨b, o, none⟩) i c) := hSX.lb.cell 0
                obtain ⟨b1, o1, e1, -, k3⟩ := rd_at (HI.out.below' hSX.bl) (fz_get f hx)
                injection e1 with e1
                injection e1 with e1 e2
                subst e1 e2
                rw [hfu] at k3
                clear hS hD hz hh he hfX1 hSX hpl
                by_cases hux : u = x
                · have t1 : ((u : Int) != (x : Int)) = false := by simp [hux]
                  have t2 : (u != x) = false := by simp [hux]
                  have HST : Hid (stp f e x = seti e x 0) := hide (by unfold stp; rw [if_pos (by rw [hfu, hux])])
                  gi_wp2
                  exact ⟨HKX.out, kq_frm HFX.out HND.out.2 (fun g hg => .inl hg), hide ⟨by rw [HPS.out, HST.out]; exact HSX.out, fun E hE => HKX.out.same E _ (HND.out.1 E hE) rfl, hXs⟩⟩
                · have t1 : ((u : Int) != (x : Int)) = true := by simp; omega
                  have t2 : (u != x) = true := by simp; omega
                  have k4 : X1.cell? ⟨w.heap.size + 3, 0, none⟩ = some (.slice (some ⟨w.heap.size + 2, 0, none⟩) i i) := HSX.out.db.cell 0
                  have k5 := HSX.out.dt.cellAt (fz_get (seti e x 0) hu)
                  rw [seti_ne _ _ hux] at k5
                  have k6 := HSX.out.dt.cellAt (fz_get (seti e x 0) hx)
                  have k6f := HSX.out.dt.freeAt x
                  have HST : Hid (stp f e x = seti e x (IntKind.i64.wrap (e u + 1))) := hide (by unfold stp; rw [if_neg (by rw [hfu]; omega)]; unfold above; rw [hfu]; rfl)
                  obtain ⟨z, hz2⟩ : ∃ z, IntKind.i64.wrap (e u + 1) = z := ⟨_, rfl⟩
                  have HS2 : Hid (DSt w w.heap.size (some ⟨b, o, none⟩) c i (seti e x z) (X1.setCell ⟨w.heap.size + 2, x, none⟩ (.int .i64 z))) := hide (HSX.out.set x z (seti_at _ _ _) (fun y hy => by rw [seti_ne _ _ hy, seti_ne _ _ hy]))
                  rw [hz2] at HST
                  have hfol : Try.prog.follows .mixedOrders = true := by kernel_rfl
                  gi_wp2
                  gi_region_with_o (fail)
                  all_goals exact ⟨(HKX.out.trans (KeepsOthers.setCell _ _ _)).trans (KeepsOthers.drew _), ((kq_frm HFX.out HND.out.2 (fun g hg => .inl hg)).t (Kq.set _ _ _ (.inl (by simp)))).t (kq_frm (S := []) (Frm.drew _ _) (by simpa [World.setCell] using hXs) (by simp)), hide ⟨by rw [HPS.out, HST.out]; exact HS2.out.frm (S := []) (Frm.drew _ _) (by simp), fun E hE => ((KeepsOthers.setCell X1 _ _).trans (KeepsOthers.drew _)).same E _ (HKX.out.same E _ (HND.out.1 E hE) rfl) rfl, by simpa [World.setCell] using hXs⟩⟩
              case done2 =>
                rintro D2 ys W2 hD2 hys hh hDW2
                obtain ⟨hS2, hD2s, hz2⟩ := hh.out
                have hys' : ys.map (fun p => p.2.1) = way.reverse := hys
                rw [hys'] at hS2
                have HGN := hide (HT.out.round hn hki hf HG.out HWY.out)
                have HMN : Hid (Marks w.heap.size (D2 :: D :: Ds) W2) := hide ⟨List.nodup_cons.2 ⟨fun hm => by have := HDLT.out D2 hm; omega, HMD.out.nd⟩, fun E hE => by
                  rcases List.mem_cons.1 hE with rfl | hE
                  · exact ⟨by omega, hDW2⟩
                  · exact ⟨(HMD.out.at_ E hE).1, hD2s E hE⟩⟩
                have HSN := hide hS2
                clear hS2 hD2s hh hys hys' hDW2
                gi_wp2
                refine ⟨⟨k + 1, D2 :: D :: Ds, _, _, _, _, _, _, _, _, _, _, _, _, _, _, _, _, _, _, _, _, _, _, _, _, _, _, _, _, _, _, _, _, _, _, _, _, _, _, _, _, _, _, _, _, _, _, _, _, _, _, _, _, _, _, _, _, _, _, rfl, by omega, HGN, HSN, HMN⟩, ?_⟩
                simp [intOf]; omega
              case stop2 =>
                rintro D2 c' pre W2 _ _ hh _
                exact hh.elim
            case main =>
              intro hT
              refine' wpIn_rangeFunc_ownF rfl h1 (gf := 53) (lb := #[.pointer (some ⟨wb + 1 + 1, 0, none⟩), .pointer (some ⟨wb + 1, 0, none⟩)]) rfl trivial (enters_of Try.func53 (by kernel_rfl) rfl)
                (anc_stops HT.out (m - 1) (wb + 1 + 1) (wb + 1) b o c k (wb + 1 + 1 + 1) [w.heap.size + 2, wb] (by omega) hki hf W3 (fun j hj => ⟨by omega, by simp; omega⟩) (by omega) (by omega) HX3.out.1 HX3.out.2 HI3.out) Kq.t (Kq.b (by omega)) (Below.refl _ _) (fun _ => rfl)
                (fun pre W => Hid (DSt w w.heap.size (some ⟨b, o, none⟩) c i (mk2 d (vals pre)) W ∧ (∃ wv, WSt wb wv (vals pre) W) ∧ (∀ x ∈ vals pre, d x = -1) ∧ (∀ D ∈ Ds, W.heap[D]? = some (.deferred (some []))) ∧ wb + 3 ≤ W.heap.size))
                (fun c' pre W => Hid ((c' = .ret ∧ ¬ (vals pre).Nodup) ∨ (c' = .exit 4 ∧ ∃ way x, vals pre = way ++ [x] ∧ d x ≠ -1 ∧ DSt w w.heap.size (some ⟨b, o, none⟩) c i (mk2 d way) W ∧ (∃ wv, WSt wb wv way W) ∧ (∀ y ∈ way, d y = -1) ∧ (∀ D ∈ Ds, W.heap[D]? = some (.deferred (some []))) ∧ wb + 3 ≤ W.heap.size)))
                ?own ?ownx ?h0 _ ?assign ?body ?done ?stop
              case own =>
                rintro pre X Y row hh hg hr
                obtain ⟨g1, ⟨wv, g2⟩, g3, g4, g5⟩ := hh.out
                have kt : Turn w.heap.size X Y row := ⟨hg, fun r e => ⟨by have := (hr r e).1; omega, (hr r e).2⟩⟩
                exact hide ⟨g1.turn kt, ⟨wv, g2.turn kt⟩, g3, fun D hD => (hg.block D (by have := (HMW.out D hD); omega) (fun e => by have := (hr D e.symm).1; have := HMW.out D hD; omega)).trans (g4 D hD), Nat.le_trans g5 hg.size⟩
              case ownx =>
                rintro c' pre X Y row hh hg hr
                rcases hh.out with g | ⟨g0, way, x, g1, g2, g3, ⟨wv, g4⟩, g5, g6, g7⟩
                · exact hide (.inl g)
                · have kt : Turn w.heap.size X Y row := ⟨hg, fun r e => ⟨by have := (hr r e).1; omega, (hr r e).2⟩⟩
                  refine hide (.inr ⟨g0, way, x, g1, g2, g3.turn kt, ⟨wv, g4.turn kt⟩, g5, fun D hD => (hg.block D (by have := (HMW.out D hD); omega) (fun e => by have := (hr D e.symm).1; have := HMW.out D hD; omega)).trans (g6 D hD), Nat.le_trans g7 hg.size⟩)
              case h0 =>
                refine hide ⟨?_, ⟨_, HW3.out⟩, fun x hx => (by cases hx), fun D hD => (HM3.out.at_ D hD).2, by omega⟩
                have := HS3.out
                exact ⟨this.lb, this.rs, by have h := this.dt; rwa [fz_ext (h := mk2 d (vals [])) (fun x hx => by simp [mk2, vals])] at h, this.db, this.bl⟩
              case assign =>
                intro l x W K hK
                gi_wp2
                simpa using hK
              case body =>
                rintro l pre ⟨x, hx, hfx⟩ W hh hpl
                obtain ⟨hS, ⟨wv, hW⟩, hN, hD, hz⟩ := hh.out
                have hpl2 : pre.length ≤ 70000 := by
                  unfold pth at hpl
                  rw [pathN_len] at hpl
                  have := HT.out.dlt hki hf
                  omega
                obtain ⟨P, hP⟩ : ∃ P, vals pre = P := ⟨_, rfl⟩
                have hPl : P.length ≤ 70000 := by rw [← hP, vals_len]; exact hpl2
                have HPS : Hid (∀ h, vals (pre ++ [⟨x, h⟩]) = P ++ [x]) := hide (fun h => by rw [vals_snoc, hP])
                rw [hP] at hS hW hN
                have hx' : (x : Int) < i := by omega
                have HS := hide hS
                have HWS := hide hW
                have k0 : W.cell? ⟨w.heap.size + 3, 0, none⟩ = some (.slice (some ⟨w.heap.size + 2, 0, none⟩) i i) := hS.db.cell 0
                have k1 := hS.dt.cellAt (fz_get (mk2 d P) hx)
                have k1f := hS.dt.freeAt x
                have HND := hide (And.intro hN (And.intro hD hz))
                clear hS hW hN hD hpl hpl2 hP hh
                by_cases hm : x ∈ P
                · have e1 : mk2 d P x = -2 := by unfold mk2; rw [if_pos hm]
                  rw [e1] at k1
                  have k2 : W.cell? ⟨w.heap.size + 1, 0, none⟩ = some (.slice none 0 0) := HS.out.rs.cell 0
                  have k2f := HS.out.rs.free 0
                  have HND2 : Hid (¬ (P ++ [x]).Nodup) := hide (fun h => (List.nodup_append.1 h).2.2 x hm x (by simp) rfl)
                  clear hm e1
                  gi_wp2
                  exact ⟨KeepsOthers.setCell _ _ _, hide (.inl ⟨rfl, by rw [HPS.out]; exact HND2.out⟩)⟩
                · have e1 : mk2 d P x = d x := by unfold mk2; rw [if_neg hm]
                  rw [e1] at k1
                  rcases HG.out.val x hx with hd | ⟨_, hd⟩
                  · rw [hd] at k1
                    have HDX := hide hd
                    obtain ⟨Av, cv, rfl, hcv, hcm, -⟩ := HWS.out.own.rd
                    rw [ints_len] at hcv
                    have hcv9 : cv ≤ 9223372036854775807 := by unfold maxLen at hcm; omega
                    obtain ⟨X1, hX1⟩ : ∃ y, W.setCell ⟨w.heap.size + 2, x, none⟩ (.int .i64 (-2)) = y := ⟨_, rfl⟩
                    have hfX1 : Frm W X1 [w.heap.size + 2] := by rw [← hX1]; exact (Frm.refl W _).setCell _ _ (.inl (by simp))
                    have HSX : Hid (DSt w w.heap.size (some ⟨b, o, none⟩) c i (mk2 d (P ++ [x])) X1) := hide (by rw [← hX1]; exact HS.out.set x (-2) mk2_snoc.1 mk2_snoc.2)
                    have HWX := hide (HWS.out.frm hfX1 (fun y hy => by rw [List.mem_singleton.1 hy]; omega))
                    have hKX1 : KeepsOthers W X1 := by rw [← hX1]; exact KeepsOthers.setCell _ _ _
                    have HFX := hide (And.intro hfX1 hKX1)
                    have k3 : X1.cell? ⟨wb, 0, none⟩ = some (.slice Av (ints P).length cv) := HWX.out.bx.cell 0
                    have hX1s : wb + 3 ≤ X1.heap.size := Nat.le_trans HND.out.2.2 hfX1.size
                    rw [ints_len] at k3
                    clear hfX1 hKX1 hm e1 hd hcm
                    gi_wp2_with (gi_at_builtin; refine wpListIn_append_rd _ rfl _ _ 28 rfl (wb + 3) 3 .i64 8 intE _ (ints P) (by rw [ints_len]; rfl) (HWX.out.own.alloc _) _ [(x : Int)] rfl (rd_one X1 3 (x : Int)) (by rw [ints_len, List.length_singleton]; omega) (by unfold maxLen; rw [ints_len, List.length_singleton]; omega) (by rw [World.size_alloc]; omega) ?_; intro v' w7 ho7 hf7 _; obtain ⟨g1, g2, g3, g4⟩ := HWX.out.push ho7 hf7; obtain ⟨A7, c7, e7, -, -, -⟩ := ho7.rd; rw [List.length_append, List.length_singleton] at e7; subst e7; have k4 : w7.cell? ⟨wb, 0, none⟩ = some (.slice Av (ints P).length cv) := g1.cell 0; have k4f := g1.free 0; have HG4 := hide (And.intro g2 (And.intro g3 g4)); clear ho7 hf7 g1 g2 g3 g4)
                    exact ⟨HFX.out.2.trans HG4.out.2.2, (kq_frm HFX.out.1 (by omega) (fun g hg => .inl (by rw [List.mem_singleton.1 hg]; simp))).t (kq_frm HG4.out.2.1 (by omega) (fun g hg => by
                      rcases List.mem_cons.1 hg with rfl | hg
                      · exact .inl (by simp)
                      · exact .inr (by have := (HWX.out.own.size g (by simpa using hg)).1; omega))), hide ⟨by rw [HPS.out]; exact HSX.out.frm HG4.out.2.1 (fun y hy => by
                      rcases List.mem_cons.1 hy with rfl | hy
                      · omega
                      · have := (HWX.out.own.size y (by simpa using hy)).1; omega), ⟨_, by rw [HPS.out]; exact HG4.out.1⟩, fun y hy => by
                      rw [HPS.out] at hy
                      rcases List.mem_append.1 hy with hy | hy
                      · exact HND.out.1 y hy
                      · rw [List.mem_singleton.1 hy]; exact HDX.out, fun D hD => HG4.out.2.2.same D _ (HFX.out.2.same D _ (HND.out.2.1 D hD) rfl) rfl, Nat.le_trans hX1s HG4.out.2.1.size⟩⟩
                  · have hd2 := hd x (by obtain ⟨q, hq⟩ := pth_head f dp x; rw [hq]; simp)
                    rw [hd2] at k1
                    have t1 : (((dp x : Nat) : Int) == (-2 : Int)) = false := by simp
                    have t2 : (((dp x : Nat) : Int) != (-1 : Int)) = true := by simp
                    have HDX : Hid (d x ≠ -1) := hide (by rw [hd2]; omega)
                    clear hm e1 hd hd2
                    gi_wp2
                    exact ⟨KeepsOthers.refl _, hide (.inr ⟨rfl, P, x, HPS.out _, HDX.out, HS.out, ⟨wv, HWS.out⟩, HND.out.1, HND.out.2.1, HND.out.2.2⟩)⟩
              case done =>
                rintro D ys W hDz hys hh hDW
                obtain ⟨hSe, hWSe, hN, hDs, hzz⟩ := hh.out
                have hys' : vals ys = pth f dp k := hys
                refine hT D (vals ys) W (hide ⟨hSe, hWSe, ⟨hN, [], by rw [hys', List.append_nil], .inl rfl⟩, ⟨List.nodup_cons.2 ⟨fun hm => by have := HMW.out D hm; omega, HM3.out.nd⟩, fun E hE => ?_⟩, by omega⟩)
                rcases List.mem_cons.1 hE with rfl | hE
                · exact ⟨by omega, hDW⟩
                · exact ⟨(HM3.out.at_ E hE).1, hDs E hE⟩
              case stop =>
                rintro D c' pre W hDz hpr hh hDW
                rcases hh.out with ⟨-, hnd⟩ | ⟨rfl, way, x, hpre, hdx, hSe, hWSe, hN, hDs, hzz⟩
                · exact absurd ((HT.out.nodup _ k rfl hki hf).sublist (List.IsPrefix.sublist hpr)) hnd
                have hpr' : vals pre <+: pth f dp k := hpr
                rw [hpre] at hpr'
                have h9 := hT D way W (hide ⟨hSe, hWSe, ⟨hN, by
                  obtain ⟨q, hq⟩ := hpr'
                  exact ⟨x :: q, by rw [← hq]; simp, .inr ⟨x, q, rfl, hdx⟩⟩⟩, ⟨List.nodup_cons.2 ⟨fun hm => by have := HMW.out D hm; omega, HM3.out.nd⟩, fun E hE => by
                    rcases List.mem_cons.1 hE with rfl | hE
                    · exact ⟨by omega, hDW⟩
                    · exact ⟨(HM3.out.at_ E hE).1, hDs E hE⟩⟩, by omega⟩)
                refine wpIn_exit ?_
                exact h9
        · obtain rfl : i = k := by omega
          have k1 : W.cell? ⟨w.heap.size + 3, 0, none⟩ = some (.slice (some ⟨w.heap.size + 2, 0, none⟩) i i) := HS.out.db.cell 0
          have k2 : W.cell? ⟨w.heap.size + 1, 0, none⟩ = some (.slice none 0 0) := HS.out.rs.cell 0
          have k2f := HS.out.rs.free 0
          obtain ⟨X, hX⟩ : ∃ y, W.setCell ⟨w.heap.size + 1, 0, none⟩ (.slice (some ⟨w.heap.size + 2, 0, none⟩) i i) = y := ⟨_, rfl⟩
          have hfX : Frm W X [w.heap.size + 1] := by rw [← hX]; exact (Frm.refl W _).setCell _ _ (.inl (by simp))
          have hRX : Whole X (w.heap.size + 1) 28 #[.slice (some ⟨w.heap.size + 2, 0, none⟩) i i] := by rw [← hX]; exact HS.out.rs.set 0 _
          have hOX := HS.out.dt.frmS hfX (fun g hg hm => by
            have e : g = w.heap.size + 2 := by simpa [Value.ownBlock] using hg.symm
            rw [List.mem_singleton] at hm; omega)
          rw [fz_ext HG.out.all] at hOX
          have hBX : Below w.heap.size w X := HS.out.bl.trans (hfX.toBelow (fun y hy => by rw [List.mem_singleton.1 hy]; omega) (by have := HS.out.size; omega))
          have HMX := hide (HM.out.keep (W' := X) (by rw [← hX]; exact KeepsOthers.setCell _ _ _))
          have HZ := hide (And.intro hRX (And.intro hOX hBX))
          clear hfX hRX hOX hBX HS HM HG
          gi_wp2
          refine leavesM (B := w.heap.size) (Others w.heap.size) (Others.refl _) (fun h k => h.trans k) (fun X D hD hd => Others.put hD hd) Ds X HMX.out ?_
          intro Y hY
          have r0 : Y.cell? ⟨w.heap.size + 1, 0, none⟩ = some (.slice (some ⟨w.heap.size + 2, 0, none⟩) i i) := (hY.whole HZ.out.1).cell 0
          refine ⟨.slice (some ⟨w.heap.size + 2, 0, none⟩) i i, ?_, w.heap.size + 2, rfl, (OwnV.toI (hY.own HZ.out.2.1.toV)).low (by omega), hY.below (Nat.le_refl _) HZ.out.2.2.size HZ.out.2.2⟩
          simp [results, Try.f20, go_sem, r0]
end Go.Proofs.Ytmopnceglnoncaa

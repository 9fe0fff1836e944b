/-
  Layer 8 (domtree): Depths: one round, as mathematics.
-/
import Derived.Test.YtlgnmlhgghabkaaDepM
import Derived.Test.YtlgnmlhgghabkaaForest
import Derived.Test.YtlgnmlhgghabkaaIn
namespace Go.Proofs.Ytlgnmlhgghabkaa
open Go.RowKit

/-- What is true of the depths: the first i indices have theirs; whoever has its own, all above it have theirs. -/
structure Dps (n : Nat) (f : Nat → Int) (dp : Nat → Nat) (i : Nat) (d : Nat → Int) : Prop where
  val : ∀ x, x < n → d x = -1 ∨ (f x ≠ -1 ∧ ∀ y ∈ pth f dp x, d y = (dp y : Int))
  fst : ∀ x, x < n → x < i → f x ≠ -1 → d x = (dp x : Int)
def mk2 (d : Nat → Int) (l : List Nat) (x : Nat) : Int := if x ∈ l then -2 else d x
def stp (f : Nat → Int) (e : Nat → Int) (x : Nat) : Nat → Int := seti e x (if f x = (x : Int) then 0 else IntKind.i64.wrap (e (above f x) + 1))
/-- The part of the way that has no depth yet. -/
structure Wy (f : Nat → Int) (dp : Nat → Nat) (d : Nat → Int) (i : Nat) (way : List Nat) : Prop where
  none : ∀ y ∈ way, d y = -1
  rest : ∃ rest, pth f dp i = way ++ rest ∧ (rest = [] ∨ ∃ x q, rest = x :: q ∧ d x ≠ -1)
section
variable {n r i : Nat} {f d : Nat → Int} {dp : Nat → Nat} {way : List Nat}
theorem Tr.suffix (T : Tr n f r dp) : ∀ (a : List Nat) (i x : Nat) (b : List Nat), i < n → f i ≠ -1 → pth f dp i = a ++ x :: b → x < n ∧ f x ≠ -1 ∧ pth f dp x = x :: b := fun a => by
  induction a with
  | nil =>
    intro i x b hi hf h
    obtain ⟨l, hl⟩ := pth_head f dp i
    rw [hl] at h
    injection h with h1 h2
    subst h1
    exact ⟨hi, hf, by rw [hl, h2]⟩
  | cons y a ih =>
    intro i x b hi hf h
    by_cases e : i = r
    · subst e
      rw [T.ptop] at h
      injection h with h1 h2
      simp at h2
    · obtain ⟨u, h1, h2, h3, h4, h5, h6, h7⟩ := T.node hi hf e
      rw [h7] at h
      injection h with h8 h9
      exact ih u x b h3 h4 h9
theorem Tr.fold (T : Tr n f r dp) (hn : n ≤ 65536) (hi : i < n) (hf : f i ≠ -1) {k : Nat} (G : Dps n f dp k d) (W : Wy f dp d i way) : ∀ (b a : List Nat), way = a ++ b → ∀ x, (b.reverse.foldl (stp f) (mk2 d way)) x = if x ∈ b then (dp x : Int) else mk2 d a x := by
  obtain ⟨rest, hp, hrest⟩ := W.rest
  have hnd := T.nodup _ i rfl hi hf
  intro b
  induction b with
  | nil =>
    intro a h x
    rw [List.append_nil] at h
    simp [h]
  | cons y b ih =>
    intro a h x
    have ih := ih (a ++ [y]) (by rw [h]; simp)
    rw [List.reverse_cons, List.foldl_append, List.foldl_cons, List.foldl_nil]
    obtain ⟨e, he⟩ : ∃ e, b.reverse.foldl (stp f) (mk2 d way) = e := ⟨_, rfl⟩
    rw [he] at ih ⊢
    have hpy : pth f dp i = a ++ y :: (b ++ rest) := by rw [hp, h]; simp
    obtain ⟨hy, hfy, hsy⟩ := T.suffix a i y _ hi hf hpy
    have hv : (if f y = (y : Int) then 0 else IntKind.i64.wrap (e (above f y) + 1)) = (dp y : Int) := by
      by_cases hr : y = r
      · subst hr; rw [if_pos T.root, T.dz]; rfl
      · obtain ⟨u, h1, h2, h3, h4, h5, h6, h7⟩ := T.node hy hfy hr
        rw [if_neg (by rw [h1]; omega), h2]
        rw [hsy] at h7
        injection h7 with _ h8
        have hu : e u = (dp u : Int) := by
          rw [ih u]
          obtain ⟨q, hq⟩ := pth_head f dp u
          rw [hq] at h8
          by_cases hb : u ∈ b
          · rw [if_pos hb]
          · rw [if_neg hb]
            cases b with
            | cons z b => injection h8 with h8 _; exact absurd (by rw [h8]; simp) hb
            | nil =>
              rw [List.nil_append] at h8
              rcases hrest with c | ⟨z, q', c, hz⟩
              · rw [c] at h8; cases h8
              · rw [c] at h8
                injection h8 with h9 h10
                subst h9
                have hna : z ∉ a ++ [y] := fun hm => by
                  rw [hpy] at hnd
                  rw [show a ++ y :: ([] ++ rest) = (a ++ [y]) ++ rest by simp] at hnd
                  exact (List.nodup_append.1 hnd).2.2 z hm z (by rw [c]; simp) rfl
                unfold mk2
                rw [if_neg hna]
                rcases G.val z h3 with g | ⟨_, g⟩
                · exact absurd g hz
                · exact g z (by rw [hq]; simp)
        rw [hu, h5]
        have := T.dlt h3 h4
        rw [show ((dp u : Int) + 1) = ((dp u + 1 : Nat) : Int) by omega]
        exact IntWalk.i64_in _ (by omega)
    unfold stp
    by_cases hx : x = y
    · subst hx
      rw [seti_at, hv, if_pos (by simp)]
    · rw [seti_ne _ _ hx, ih x]
      by_cases hb : x ∈ b
      · rw [if_pos hb, if_pos (by simp [hb])]
      · rw [if_neg hb, if_neg (by simp [hx, hb])]
        unfold mk2
        by_cases ha : x ∈ a
        · rw [if_pos ha, if_pos (by simp [ha])]
        · rw [if_neg ha, if_neg (by simp [ha, hx])]
theorem Tr.round (T : Tr n f r dp) (hn : n ≤ 65536) (hi : i < n) (hf : f i ≠ -1) (G : Dps n f dp i d) (W : Wy f dp d i way) : Dps n f dp (i + 1) (way.reverse.foldl (stp f) (mk2 d way)) := by
  have key := T.fold hn hi hf G W way [] rfl
  have e1 : ∀ x, (way.reverse.foldl (stp f) (mk2 d way)) x = if x ∈ way then (dp x : Int) else d x := fun x => by
    rw [key x]
    by_cases h : x ∈ way
    · rw [if_pos h, if_pos h]
    · rw [if_neg h, if_neg h]; simp [mk2]
  obtain ⟨rest, hp, hrest⟩ := W.rest
  refine ⟨fun x hx => ?_, fun x hx hxi hfx => ?_⟩
  · rw [e1 x]
    by_cases h : x ∈ way
    · rw [if_pos h]
      obtain ⟨a, b, hab⟩ := List.append_of_mem h
      obtain ⟨_, hfx, hsx⟩ := T.suffix a i x (b ++ rest) hi hf (by rw [hp, hab]; simp)
      refine .inr ⟨hfx, fun y hy => ?_⟩
      rw [e1 y]
      by_cases hyw : y ∈ way
      · rw [if_pos hyw]
      · rw [if_neg hyw]
        rw [hsx] at hy
        rcases List.mem_cons.1 hy with rfl | hy
        · exact absurd h hyw
        · rcases List.mem_append.1 hy with hy | hy
          · exact absurd (by rw [hab]; simp [hy]) hyw
          · rcases hrest with c | ⟨z, q, c, hz⟩
            · rw [c] at hy; cases hy
            · obtain ⟨hz1, _, hz3⟩ := T.suffix way i z q hi hf (by rw [hp, c])
              rcases G.val z hz1 with g | ⟨_, g⟩
              · exact absurd g hz
              · exact g y (by rw [hz3, ← c]; exact hy)
    · rw [if_neg h]
      rcases G.val x hx with g | ⟨g1, g⟩
      · exact .inl g
      · refine .inr ⟨g1, fun y hy => ?_⟩
        rw [e1 y]
        by_cases hyw : y ∈ way
        · rw [if_pos hyw]
        · rw [if_neg hyw]; exact g y hy
  · rw [e1 x]
    by_cases h : x ∈ way
    · rw [if_pos h]
    · rw [if_neg h]
      rcases Nat.lt_succ_iff_lt_or_eq.1 hxi with hxi | rfl
      · exact G.fst x hx hxi hfx
      · obtain ⟨q, hq⟩ := pth_head f dp x
        cases way with
        | cons z way =>
          rw [hq] at hp
          injection hp with hp _
          exact absurd (by rw [hp]; simp) h
        | nil =>
          rw [List.nil_append] at hp
          rcases hrest with c | ⟨z, q', c, hz⟩
          · rw [c, hq] at hp; cases hp
          · rw [c, hq] at hp
            injection hp with hp _
            subst hp
            rcases G.val x hx with g | ⟨_, g⟩
            · exact absurd g hz
            · exact g x (by rw [hq]; simp)
theorem Dps.skip {k : Nat} (G : Dps n f dp k d) (hf : f k = -1) : Dps n f dp (k + 1) d := ⟨G.val, fun x hx hk hfx => by
  rcases Nat.lt_succ_iff_lt_or_eq.1 hk with hk | rfl
  · exact G.fst x hx hk hfx
  · exact absurd hf hfx⟩
theorem Dps.zero : Dps n f dp 0 (fun _ => -1) := ⟨fun _ _ => .inl rfl, fun _ _ h => by omega⟩
theorem Dps.all (G : Dps n f dp n d) : ∀ x, x < n → d x = if f x = -1 then -1 else (dp x : Int) := fun x hx => by
  by_cases h : f x = -1
  · rw [if_pos h]
    rcases G.val x hx with g | ⟨g, _⟩
    · exact g
    · exact absurd h g
  · rw [if_neg h]; exact G.fst x hx hx h
end
/-- The nodes themselves. -/
def vals {Pd : Nat → Prop} (l : List (Nd Pd)) : List Nat := l.map Subtype.val
theorem vals_snoc {Pd : Nat → Prop} (l : List (Nd Pd)) (x : Nd Pd) : vals (l ++ [x]) = vals l ++ [x.1] := by simp [vals]
theorem vals_len {Pd : Nat → Prop} (l : List (Nd Pd)) : (vals l).length = l.length := by simp [vals]
/-- The blocks of the marks are untouched. -/
def Quiets (Ds : List Nat) (W : World) : Prop := ∀ E ∈ Ds, W.heap[E]? = some (.deferred (some []))
/-- What follows a loop over a function, once for all the ways out of it. -/
theorem rfCut {F : Fence} {n : Nat} {P : Program} {g : Operand} {ps : Array Tmp} {asg body : Code} {Q : Exit → Act → World → Prop} {a : Act} {w : World} (Fc : Nat → List Nat → World → Prop) (tail : ∀ D way W, Fc D way W → Q .normal { a with defers := mark D :: a.defers } W)
    (main : (∀ D way W, Fc D way W → Q .normal { a with defers := mark D :: a.defers } W) → (Code.rangeFunc g ps asg body).wpIn F n P Q a w) : (Code.rangeFunc g ps asg body).wpIn F n P Q a w := main tail
theorem keeps_frm {W W' : World} {S : List Nat} (hf : Frm W W' S) (hS : ∀ g ∈ S, ∀ o, W.heap[g]? = some o → o.isCells = true) : KeepsOthers W W' :=
  ⟨hf.size, fun k o hk hc => (hf.block k (Array.getElem?_eq_some_iff.1 hk).1 (fun hm => by rw [hS k hm o hk] at hc; cases hc)).trans hk⟩
theorem own_cells {W : World} {base : Nat} {e : TypeId} {k : IntKind} {v : Value} {l : List Int} (h : Own W base e k v l) : ∀ g ∈ v.ownBlock.toList, ∀ o, W.heap[g]? = some o → o.isCells = true := fun g hg o ho => by
  rcases h.2 with ⟨e1, _⟩ | ⟨g', cap, cur, e1, _, hh, _⟩
  · rw [e1] at hg; simp [Value.ownBlock] at hg
  · rw [e1] at hg
    have : g' = g := by simpa [Value.ownBlock, eq_comm] using hg
    subst this
    rw [hh] at ho
    cases ho; rfl
theorem WSt.push {W w1 : World} {wb x : Nat} {wv v' : Value} {l : List Nat} {t : TypeId} {cs : Array Value} (h : WSt wb wv l W) (ho : Own w1 (wb + 3) 3 .i64 v' (ints l ++ [(x : Int)])) (hf : Frm (W.alloc (.cells cs t)) w1 wv.ownBlock.toList) : Whole w1 wb 28 #[wv] ∧ WSt wb v' (l ++ [x]) (w1.setCell ⟨wb, 0, none⟩ v') ∧ Frm W (w1.setCell ⟨wb, 0, none⟩ v') (wb :: wv.ownBlock.toList) ∧ KeepsOthers W (w1.setCell ⟨wb, 0, none⟩ v') := by
  have hin : ∀ g ∈ wv.ownBlock.toList, wb + 3 ≤ g := fun g hg => (h.own.size g (by simpa using hg)).1
  have hf1 : Frm W w1 wv.ownBlock.toList := ((Frm.refl W _).alloc _).trans hf
  have hw : Whole w1 wb 28 #[wv] := (hf1.block _ h.bx.lt (fun hm => by have := hin _ hm; omega)).trans h.bx
  have hf2 : Frm w1 (w1.setCell ⟨wb, 0, none⟩ v') [wb] := (Frm.refl w1 [wb]).setCell _ _ (.inl (by simp))
  refine ⟨hw, ⟨hw.set 0 v', ?_⟩, (hf1.mono (fun g hg => .inl (List.mem_cons_of_mem _ hg))).trans' hf2 (fun g hg => .inl (by rw [List.mem_singleton.1 hg]; simp)), (keeps_frm hf1 (own_cells h.own)).trans (KeepsOthers.setCell _ _ _)⟩
  rw [ints_snoc]
  exact ho.frmS hf2 (fun g hg hm => by have := (ho.size g hg).1; rw [List.mem_singleton.1 hm] at this; omega)
theorem kq_frm {W W' : World} {S : List Nat} {n₀ : Nat} {S' : List Nat} (hf : Frm W W' S) (hs : n₀ ≤ W.heap.size) (hS : ∀ g ∈ S, g ∈ S' ∨ n₀ ≤ g) : Kq n₀ S' W W' :=
  ⟨hf.size, fun i h1 h2 => hf.block i (by omega) (fun hm => by
    rcases hS i hm with h | h
    · exact h2 h
    · omega)⟩
theorem mk2_snoc {d : Nat → Int} {l : List Nat} {x : Nat} : mk2 d (l ++ [x]) x = -2 ∧ ∀ y, y ≠ x → mk2 d (l ++ [x]) y = mk2 d l y := by
  refine ⟨by simp [mk2], fun y hy => ?_⟩
  unfold mk2
  by_cases h : y ∈ l
  · rw [if_pos h, if_pos (by simp [h])]
  · rw [if_neg h, if_neg (by simp [h, hy])]
end Go.Proofs.Ytlgnmlhgghabkaa

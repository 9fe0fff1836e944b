/-
  Layer 8 (domtree): the order in which Preorder lists a tree, as mathematics.
-/
import Derived.Test.YtmopnceglnoncaaChildren
import Derived.Test.YtmopnceglnoncaaCompact
import Derived.Test.YtmopnceglnoncaaDepths
namespace Go.Proofs.Ytmopnceglnoncaa
open Go.RowKit

theorem kids_mem {f : Nat → Int} {n i x : Nat} : x ∈ kidsTo f n i ↔ x < n ∧ f x = (i : Int) ∧ x ≠ i := by simp [kidsTo]
theorem kids_nodup (f : Nat → Int) (n i : Nat) : (kidsTo f n i).Nodup := List.Nodup.sublist List.filter_sublist List.nodup_range
def preN (f : Nat → Int) (n : Nat) : Nat → Nat → List Nat
  | 0, _ => []
  | k + 1, i => i :: (kidsTo f n i).flatMap (preN f n k)
/-- i, and what is below it. -/
def pre (f : Nat → Int) (n : Nat) (dp : Nat → Nat) (i : Nat) : List Nat := preN f n (n - dp i) i
section
variable {n r : Nat} {f : Nat → Int} {dp : Nat → Nat}
theorem Tr.kid (T : Tr n f r dp) {i x : Nat} (h : x ∈ kidsTo f n i) : x < n ∧ f x ≠ -1 ∧ dp x = dp i + 1 ∧ i < n ∧ f i ≠ -1 ∧ pth f dp x = x :: pth f dp i := by
  obtain ⟨h1, h2, h3⟩ := kids_mem.1 h
  have hf : f x ≠ -1 := by rw [h2]; omega
  have hr : x ≠ r := fun e => by subst e; rw [T.root] at h2; omega
  obtain ⟨u, g1, g2, g3, g4, g5, g6, g7⟩ := T.node h1 hf hr
  have : u = i := by omega
  subst this
  exact ⟨h1, hf, g5, g3, g4, g7⟩
theorem Tr.pre_eq (T : Tr n f r dp) {i : Nat} (hi : i < n) (hf : f i ≠ -1) : pre f n dp i = i :: (kidsTo f n i).flatMap (pre f n dp) := by
  have hd := T.dlt hi hf
  obtain ⟨k, hk⟩ : ∃ k, n - dp i = k + 1 := ⟨n - dp i - 1, by omega⟩
  unfold pre
  rw [hk, preN]
  rw [List.flatMap_def, List.flatMap_def, List.map_congr_left (g := fun c => preN f n (n - dp c) c) (fun c hc => by rw [show n - dp c = k by have := (T.kid hc).2.2.1; omega])]
theorem Tr.level (T : Tr n f r dp) : ∀ k x, dp x = k → x < n → f x ≠ -1 → ∀ y ∈ pth f dp x, ∀ z ∈ pth f dp x, dp y = dp z → y = z := fun k => by
  induction k using Nat.strongRecOn with
  | _ k ih =>
    intro x hk hx hf y hy z hz hyz
    have my := (T.mem _ x rfl hx hf y hy).2.2.2.1
    have mz := (T.mem _ x rfl hx hf z hz).2.2.2.1
    by_cases e : x = r
    · subst e
      rw [T.ptop, List.mem_singleton] at hy hz
      rw [hy, hz]
    · obtain ⟨u, h1, h2, h3, h4, h5, h6, h7⟩ := T.node hx hf e
      rw [h7] at hy hz
      rcases List.mem_cons.1 hy with hy | hy
      · rcases mz with mz | mz
        · rw [hy, mz]
        · rw [hy] at hyz; omega
      · rcases List.mem_cons.1 hz with hz | hz
        · rcases my with my | my
          · rw [hz, my]
          · rw [hz] at hyz; omega
        · exact ih (dp u) (by omega) u rfl h3 h4 y hy z hz hyz
theorem Tr.mem_pre (T : Tr n f r dp) : ∀ k i, n - dp i = k → i < n → f i ≠ -1 → ∀ x, x ∈ pre f n dp i ↔ x < n ∧ f x ≠ -1 ∧ i ∈ pth f dp x := fun k => by
  induction k using Nat.strongRecOn with
  | _ k ih =>
    intro i hk hi hf x
    have hd := T.dlt hi hf
    rw [T.pre_eq hi hf, List.mem_cons, List.mem_flatMap]
    constructor
    · rintro (rfl | ⟨c, hc, hx⟩)
      · obtain ⟨q, hq⟩ := pth_head f dp x
        exact ⟨hi, hf, by rw [hq]; simp⟩
      · obtain ⟨h1, h2, h3, _, _, h6⟩ := T.kid hc
        obtain ⟨g1, g2, g3⟩ := (ih (n - dp c) (by omega) c rfl h1 h2 x).1 hx
        obtain ⟨q, hq⟩ := pth_head f dp i
        exact ⟨g1, g2, (T.mem _ x rfl g1 g2 c g3).2.2.2.2 i (by rw [h6, hq]; simp)⟩
    · rintro ⟨hx, hfx, hm⟩
      by_cases e : x = i
      · exact .inl e
      · refine .inr ?_
        obtain ⟨a, b, hab⟩ := List.append_of_mem hm
        rcases List.eq_nil_or_concat a with rfl | ⟨a', c, rfl⟩
        · obtain ⟨q, hq⟩ := pth_head f dp x
          rw [hq] at hab
          injection hab with h1 _
          exact absurd h1 e
        · rw [List.concat_eq_append, List.append_assoc] at hab
          obtain ⟨h1, h2, h3⟩ := T.suffix a' x c (i :: b) hx hfx hab
          have hcr : c ≠ r := fun e => by subst e; rw [T.ptop] at h3; injection h3 with _ h4; cases h4
          obtain ⟨u, g1, g2, g3, g4, g5, g6, g7⟩ := T.node h1 h2 hcr
          rw [h3] at g7
          injection g7 with _ g8
          obtain ⟨q, hq⟩ := pth_head f dp u
          rw [hq] at g8
          injection g8 with g8 _
          have hc : c ∈ kidsTo f n i := kids_mem.2 ⟨h1, by rw [g1, g8], by omega⟩
          exact ⟨c, hc, (ih (n - dp c) (by have := T.dlt h1 h2; rw [g5, ← g8]; omega) c rfl h1 h2 x).2 ⟨hx, hfx, by rw [hab]; simp⟩⟩
theorem Tr.nodup_pre (T : Tr n f r dp) : ∀ k i, n - dp i = k → i < n → f i ≠ -1 → (pre f n dp i).Nodup := fun k => by
  induction k using Nat.strongRecOn with
  | _ k ih =>
    intro i hk hi hf
    have hd := T.dlt hi hf
    rw [T.pre_eq hi hf, List.nodup_cons]
    refine ⟨fun hm => ?_, ?_⟩
    · obtain ⟨c, hc, hx⟩ := List.mem_flatMap.1 hm
      obtain ⟨h1, h2, h3, _, _, h6⟩ := T.kid hc
      have := (T.mem _ i rfl hi hf c ((T.mem_pre _ c rfl h1 h2 i).1 hx).2.2).2.2.1
      omega
    · unfold List.Nodup
      rw [List.pairwise_flatMap]
      refine ⟨fun c hc => ih (n - dp c) (by have := (T.kid hc).2.2.1; omega) c rfl (T.kid hc).1 (T.kid hc).2.1, ?_⟩
      refine List.Pairwise.imp_of_mem ?_ (kids_nodup f n i)
      intro c d hc hd' hne x hx y hy e
      subst e
      obtain ⟨h1, h2, h3, _, _, h6⟩ := T.kid hc
      obtain ⟨k1, k2, k3, _, _, k6⟩ := T.kid hd'
      obtain ⟨g1, g2, g3⟩ := (T.mem_pre _ c rfl h1 h2 x).1 hx
      exact hne (T.level _ x rfl g1 g2 c g3 d ((T.mem_pre _ d rfl k1 k2 x).1 hy).2.2 (by omega))
theorem Tr.pre_len (T : Tr n f r dp) {i : Nat} (hi : i < n) (hf : f i ≠ -1) : (pre f n dp i).length ≤ n :=
  nodup_len (T.nodup_pre _ i rfl hi hf) (fun y hy => ((T.mem_pre _ i rfl hi hf y).1 hy).1)
end
/-- Where Preorder stands: what it has listed, and what is to come, the next one last. -/
structure Pst (n : Nat) (f : Nat → Int) (dp : Nat → Nat) (r : Nat) (order next : List Nat) : Prop where
  eq : order ++ next.reverse.flatMap (pre f n dp) = pre f n dp r
  ok : ∀ x ∈ next, x < n ∧ f x ≠ -1
section
variable {n r : Nat} {f : Nat → Int} {dp : Nat → Nat} {order next : List Nat}
theorem Pst.start (T : Tr n f r dp) : Pst n f dp r [] [r] := ⟨by simp, fun x hx => by rw [List.mem_singleton.1 hx]; exact ⟨T.rlt, T.rin⟩⟩
theorem Pst.step (T : Tr n f r dp) {x : Nat} (h : Pst n f dp r order (next ++ [x])) : Pst n f dp r (order ++ [x]) (next ++ (kidsTo f n x).reverse) := by
  have hx := h.ok x (by simp)
  refine ⟨?_, fun y hy => ?_⟩
  · have := h.eq
    rw [List.reverse_append, List.reverse_singleton, List.singleton_append, List.flatMap_cons, T.pre_eq hx.1 hx.2] at this
    rw [← this, List.reverse_append, List.reverse_reverse, List.flatMap_append]
    simp
  · rcases List.mem_append.1 hy with hy | hy
    · exact h.ok y (by simp [hy])
    · have := T.kid (List.mem_reverse.1 hy)
      exact ⟨this.1, this.2.1⟩
theorem Tr.pre_pos (T : Tr n f r dp) {i : Nat} (hi : i < n) (hf : f i ≠ -1) : 1 ≤ (pre f n dp i).length := by rw [T.pre_eq hi hf]; simp
theorem flat_len (T : Tr n f r dp) : ∀ l : List Nat, (∀ x ∈ l, x < n ∧ f x ≠ -1) → l.length ≤ (l.flatMap (pre f n dp)).length
  | [], _ => by simp
  | x :: l, h => by
    have h1 := flat_len T l (fun y hy => h y (List.mem_cons_of_mem _ hy))
    have h2 := h x (by simp)
    have h3 := T.pre_pos h2.1 h2.2
    rw [List.flatMap_cons, List.length_append, List.length_cons]
    omega
theorem Pst.len (T : Tr n f r dp) (h : Pst n f dp r order next) : order.length + next.length ≤ n := by
  have h1 := congrArg List.length h.eq
  rw [List.length_append] at h1
  have h2 := T.pre_len T.rlt T.rin
  have h3 := flat_len T next.reverse (fun x hx => h.ok x (List.mem_reverse.1 hx))
  rw [List.length_reverse] at h3
  omega
theorem Pst.done (h : Pst n f dp r order []) : order = pre f n dp r := by simpa using h.eq
end
end Go.Proofs.Ytmopnceglnoncaa

namespace Go.Proofs.Ytmopnceglnoncaa
open Go.RowKit Go.Shelf

/-- In memory: the box of what is to come at q, its row and the row of what is listed, both from hi on; the rest is as it was in wc. -/
structure QSt (wc : World) (q : Nat) (nv ov : Value) (next order : List Nat) (W : World) : Prop where
  bx : Whole W q 28 #[nv]
  nx : Own W wc.heap.size 3 .i64 nv (ints next)
  od : Own W wc.heap.size 3 .i64 ov (ints order)
  ne : ∀ g, ov.ownBlock = some g → nv.ownBlock ≠ some g
  fr : Frm wc W [q]
section
variable {wc W W' w1 : World} {q x : Nat} {nv ov v' : Value} {next order : List Nat} {row : Option Nat}
theorem QSt.turn (h : QSt wc q nv ov next order W) (k : Turn wc.heap.size W W' row) : QSt wc q nv ov next order W' :=
  ⟨h.bx.turn k, h.nx.turn k, h.od.turn k, h.ne, h.fr.trans' (Frm.grown k.1) (fun g hg => .inr (k.2 g (by simpa using hg)).1)⟩
theorem QSt.frm (h : QSt wc q nv ov next order W) (hq : q < wc.heap.size) (hf : Frm W W' []) : QSt wc q nv ov next order W' :=
  ⟨(hf.block _ h.bx.lt (by simp)).trans h.bx, h.nx.frmS hf (fun _ _ => by simp), h.od.frmS hf (fun _ _ => by simp), h.ne, h.fr.trans' hf (fun _ hg => (by cases hg))⟩
theorem QSt.pushN (h : QSt wc q nv ov next order W) (hq : q < wc.heap.size) {t : TypeId} {cs : Array Value} (ho : Own w1 wc.heap.size 3 .i64 v' (ints next ++ [(x : Int)])) (hf : Frm (W.alloc (.cells cs t)) w1 nv.ownBlock.toList) (hb : v'.ownBlock = nv.ownBlock ∨ v'.ownBlock = some (W.alloc (.cells cs t)).heap.size) :
    Whole w1 q 28 #[nv] ∧ QSt wc q v' ov (next ++ [x]) order (w1.setCell ⟨q, 0, none⟩ v') ∧ Frm W (w1.setCell ⟨q, 0, none⟩ v') (q :: nv.ownBlock.toList) ∧ KeepsOthers W (w1.setCell ⟨q, 0, none⟩ v') := by
  have hin : ∀ g ∈ nv.ownBlock.toList, wc.heap.size ≤ g := fun g hg => (h.nx.size g (by simpa using hg)).1
  have hf1 : Frm W w1 nv.ownBlock.toList := ((Frm.refl W _).alloc _).trans hf
  have hw : Whole w1 q 28 #[nv] := (hf1.block _ h.bx.lt (fun hm => by have := hin _ hm; omega)).trans h.bx
  have hf2 : Frm w1 (w1.setCell ⟨q, 0, none⟩ v') [q] := (Frm.refl w1 [q]).setCell _ _ (.inl (by simp))
  have hfa : Frm W (w1.setCell ⟨q, 0, none⟩ v') (q :: nv.ownBlock.toList) := (hf1.mono (fun g hg => .inl (List.mem_cons_of_mem _ hg))).trans' hf2 (fun g hg => .inl (by rw [List.mem_singleton.1 hg]; simp))
  refine ⟨hw, ⟨hw.set 0 v', ?_, h.od.frmS hfa (fun g hg hm => ?_), fun g hg he => ?_, h.fr.trans' hfa (fun g hg => ?_)⟩, hfa, (keeps_frm hf1 (own_cells h.nx)).trans (KeepsOthers.setCell _ _ _)⟩
  · rw [ints_snoc]
    exact ho.frmS hf2 (fun g hg hm => by have := (ho.size g hg).1; rw [List.mem_singleton.1 hm] at this; omega)
  · rcases List.mem_cons.1 hm with rfl | hm
    · have := (h.od.size _ hg).1; omega
    · exact h.ne g hg (by simpa using hm)
  · rcases hb with hb | hb
    · exact h.ne g hg (by rw [← hb]; exact he)
    · rw [hb, World.size_alloc] at he
      injection he with he
      have := (h.od.size g hg).2; omega
  · rcases List.mem_cons.1 hg with rfl | hg
    · exact .inl (by simp)
    · exact .inr (hin g hg)
theorem QSt.pushO (h : QSt wc q nv ov next order W) (hq : q < wc.heap.size) {t : TypeId} {cs : Array Value} (ho : Own w1 wc.heap.size 3 .i64 v' (ints order ++ [(x : Int)])) (hf : Frm (W.alloc (.cells cs t)) w1 ov.ownBlock.toList) (hb : v'.ownBlock = ov.ownBlock ∨ v'.ownBlock = some (W.alloc (.cells cs t)).heap.size) :
    QSt wc q nv v' next (order ++ [x]) w1 ∧ KeepsOthers W w1 := by
  have hin : ∀ g ∈ ov.ownBlock.toList, wc.heap.size ≤ g := fun g hg => (h.od.size g (by simpa using hg)).1
  have hf1 : Frm W w1 ov.ownBlock.toList := ((Frm.refl W _).alloc _).trans hf
  refine ⟨⟨(hf1.block _ h.bx.lt (fun hm => by have := hin _ hm; omega)).trans h.bx, h.nx.frmS hf1 (fun g hg hm => h.ne g (by simpa using hm) hg), by rw [ints_snoc]; exact ho, fun g hg he => ?_, h.fr.trans' hf1 (fun g hg => .inr (hin g hg))⟩, keeps_frm hf1 (own_cells h.od)⟩
  rcases hb with hb | hb
  · exact h.ne g (by rw [← hb]; exact hg) he
  · rw [hb, World.size_alloc] at hg
    injection hg with hg
    have := (h.nx.size g he).2; omega
theorem QSt.pop {g c : Nat} {N : Nat} (h : QSt wc q (.slice (some ⟨g, 0, none⟩) N c) ov (next ++ [x]) order W) (hq : q < wc.heap.size) : QSt wc q (.slice (some ⟨g, 0, none⟩) next.length c) ov next order (W.setCell ⟨q, 0, none⟩ (.slice (some ⟨g, 0, none⟩) next.length c)) := by
  have hf : Frm W (W.setCell ⟨q, 0, none⟩ (.slice (some ⟨g, 0, none⟩) next.length c)) [q] := (Frm.refl W [q]).setCell _ _ (.inl (by simp))
  have h1 := h.nx.cut (q := next.length) (by simp [ints])
  have e : (ints (next ++ [x])).take next.length = ints next := by rw [ints_snoc]; simp [ints]
  rw [e] at h1
  exact ⟨h.bx.set 0 _, h1.frmS hf (fun g hg hm => by have := (h1.size g hg).1; rw [List.mem_singleton.1 hm] at this; omega), h.od.frmS hf (fun g hg hm => by have := (h.od.size g hg).1; rw [List.mem_singleton.1 hm] at this; omega), h.ne, h.fr.trans hf⟩
end
def lenV : Value → Nat
  | .slice _ n _ => n
  | _ => 0
def capV : Value → Nat
  | .slice _ _ c => c
  | _ => 0
end Go.Proofs.Ytmopnceglnoncaa

/-
  Layer 8 (domtree): Preorder: what it holds.
-/
import Derived.Test.YtlgnmlhgghabkaaPreM
import Derived.Test.YtlgnmlhgghabkaaDepths
import Derived.Test.YtlgnmlhgghabkaaCompact
namespace Go.Proofs.Ytlgnmlhgghabkaa
open Go.RowKit Go.Shelf

/-- In memory: the box of what is to come at q, its row and the row of what is listed, both from hi on; the rest is as it was in wc. -/
structure QSt (wc : World) (q : Nat) (nv ov : Value) (next order : List Nat) (W : World) : Prop where
  bx : Whole W q 28 #[nv]
  nx : Own W wc.heap.size 3 .i64 nv (ints next)
  od : Own W wc.heap.size 3 .i64 ov (ints order)
  ne : ∀ g, ov.ownBlock = some g → nv.ownBlock ≠ some g
  fr : Frm wc W [q]
section
variable {wc W W' w1 : World} {q x : Nat} {nv ov v' : Value} {next order : List Nat} {row : Option Nat}
theorem QSt.turn (h : QSt wc q nv ov next order W) (k : Turn wc.heap.size W W' row) : QSt wc q nv ov next order W' :=
  ⟨h.bx.turn k, h.nx.turn k, h.od.turn k, h.ne, h.fr.trans' (Frm.grown k.1) (fun g hg => .inr (k.2 g (by simpa using hg)).1)⟩
theorem QSt.frm (h : QSt wc q nv ov next order W) (hq : q < wc.heap.size) (hf : Frm W W' []) : QSt wc q nv ov next order W' :=
  ⟨(hf.block _ h.bx.lt (by simp)).trans h.bx, h.nx.frmS hf (fun _ _ => by simp), h.od.frmS hf (fun _ _ => by simp), h.ne, h.fr.trans' hf (fun _ hg => (by cases hg))⟩
theorem QSt.pushN (h : QSt wc q nv ov next order W) (hq : q < wc.heap.size) {t : TypeId} {cs : Array Value} (ho : Own w1 wc.heap.size 3 .i64 v' (ints next ++ [(x : Int)])) (hf : Frm (W.alloc (.cells cs t)) w1 nv.ownBlock.toList) (hb : v'.ownBlock = nv.ownBlock ∨ v'.ownBlock = some (W.alloc (.cells cs t)).heap.size) :
    Whole w1 q 28 #[nv] ∧ QSt wc q v' ov (next ++ [x]) order (w1.setCell ⟨q, 0, none⟩ v') ∧ Frm W (w1.setCell ⟨q, 0, none⟩ v') (q :: nv.ownBlock.toList) ∧ KeepsOthers W (w1.setCell ⟨q, 0, none⟩ v') := by
  have hin : ∀ g ∈ nv.ownBlock.toList, wc.heap.size ≤ g := fun g hg => (h.nx.size g (by simpa using hg)).1
  have hf1 : Frm W w1 nv.ownBlock.toList := ((Frm.refl W _).alloc _).trans hf
  have hw : Whole w1 q 28 #[nv] := (hf1.block _ h.bx.lt (fun hm => by have := hin _ hm; omega)).trans h.bx
  have hf2 : Frm w1 (w1.setCell ⟨q, 0, none⟩ v') [q] := (Frm.refl w1 [q]).setCell _ _ (.inl (by simp))
  have hfa : Frm W (w1.setCell ⟨q, 0, none⟩ v') (q :: nv.ownBlock.toList) := (hf1.mono (fun g hg => .inl (List.mem_cons_of_mem _ hg))).trans' hf2 (fun g hg => .inl (by rw [List.mem_singleton.1 hg]; simp))
  refine ⟨hw, ⟨hw.set 0 v', ?_, h.od.frmS hfa (fun g hg hm => ?_), fun g hg he => ?_, h.fr.trans' hfa (fun g hg => ?_)⟩, hfa, (keeps_frm hf1 (own_cells h.nx)).trans (KeepsOthers.setCell _ _ _)⟩
  · rw [ints_snoc]
    exact ho.frmS hf2 (fun g hg hm => by have := (ho.size g hg).1; rw [List.mem_singleton.1 hm] at this; omega)
  · rcases List.mem_cons.1 hm with rfl | hm
    · have := (h.od.size _ hg).1; omega
    · exact h.ne g hg (by simpa using hm)
  · rcases hb with hb | hb
    · exact h.ne g hg (by rw [← hb]; exact he)
    · rw [hb, World.size_alloc] at he
      injection he with he
      have := (h.od.size g hg).2; omega
  · rcases List.mem_cons.1 hg with rfl | hg
    · exact .inl (by simp)
    · exact .inr (hin g hg)
theorem QSt.pushO (h : QSt wc q nv ov next order W) (hq : q < wc.heap.size) {t : TypeId} {cs : Array Value} (ho : Own w1 wc.heap.size 3 .i64 v' (ints order ++ [(x : Int)])) (hf : Frm (W.alloc (.cells cs t)) w1 ov.ownBlock.toList) (hb : v'.ownBlock = ov.ownBlock ∨ v'.ownBlock = some (W.alloc (.cells cs t)).heap.size) :
    QSt wc q nv v' next (order ++ [x]) w1 ∧ KeepsOthers W w1 := by
  have hin : ∀ g ∈ ov.ownBlock.toList, wc.heap.size ≤ g := fun g hg => (h.od.size g (by simpa using hg)).1
  have hf1 : Frm W w1 ov.ownBlock.toList := ((Frm.refl W _).alloc _).trans hf
  refine ⟨⟨(hf1.block _ h.bx.lt (fun hm => by have := hin _ hm; omega)).trans h.bx, h.nx.frmS hf1 (fun g hg hm => h.ne g (by simpa using hm) hg), by rw [ints_snoc]; exact ho, fun g hg he => ?_, h.fr.trans' hf1 (fun g hg => .inr (hin g hg))⟩, keeps_frm hf1 (own_cells h.od)⟩
  rcases hb with hb | hb
  · exact h.ne g (by rw [← hb]; exact hg) he
  · rw [hb, World.size_alloc] at hg
    injection hg with hg
    have := (h.nx.size g he).2; omega
theorem QSt.pop {g c : Nat} {N : Nat} (h : QSt wc q (.slice (some ⟨g, 0, none⟩) N c) ov (next ++ [x]) order W) (hq : q < wc.heap.size) : QSt wc q (.slice (some ⟨g, 0, none⟩) next.length c) ov next order (W.setCell ⟨q, 0, none⟩ (.slice (some ⟨g, 0, none⟩) next.length c)) := by
  have hf : Frm W (W.setCell ⟨q, 0, none⟩ (.slice (some ⟨g, 0, none⟩) next.length c)) [q] := (Frm.refl W [q]).setCell _ _ (.inl (by simp))
  have h1 := h.nx.cut (q := next.length) (by simp [ints])
  have e : (ints (next ++ [x])).take next.length = ints next := by rw [ints_snoc]; simp [ints]
  rw [e] at h1
  exact ⟨h.bx.set 0 _, h1.frmS hf (fun g hg hm => by have := (h1.size g hg).1; rw [List.mem_singleton.1 hm] at this; omega), h.od.frmS hf (fun g hg hm => by have := (h.od.size g hg).1; rw [List.mem_singleton.1 hm] at this; omega), h.ne, h.fr.trans hf⟩
end
def lenV : Value → Nat
  | .slice _ n _ => n
  | _ => 0
def capV : Value → Nat
  | .slice _ _ c => c
  | _ => 0
end Go.Proofs.Ytlgnmlhgghabkaa

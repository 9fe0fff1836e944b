/-
  Layer 20 (cfg): an edge of a function of the call's own is replaced. No function of the program is named here.
-/
import Derived.Test.YthnehmfdadgklaaCfJ
namespace Go.Proofs.Ythnehmfdadgklaa
open Go.RowKit Go.Deep

theorem nodup_flat {α : Type} {f : α → List Nat} : ∀ {l : List α}, (l.flatMap f).Nodup → ∀ {i j : Nat} {x y : α}, i ≠ j → l[i]? = some x → l[j]? = some y → ∀ a ∈ f x, a ∉ f y
  | [], _, i, j, x, y, _, hx, _ => by simp at hx
  | z :: l, h, i, j, x, y, hij, hx, hy => by
    rw [List.flatMap_cons] at h
    have h3 := List.nodup_append.1 h
    intro a ha hb
    cases i with
    | zero =>
      cases j with
      | zero => exact hij rfl
      | succ j =>
        simp only [List.getElem?_cons_zero, Option.some.injEq] at hx
        simp only [List.getElem?_cons_succ] at hy
        subst hx
        exact h3.2.2 a ha a (List.mem_flatMap.2 ⟨y, List.mem_of_getElem? hy, hb⟩) rfl
    | succ i =>
      cases j with
      | zero =>
        simp only [List.getElem?_cons_zero, Option.some.injEq] at hy
        simp only [List.getElem?_cons_succ] at hx
        subst hy
        exact h3.2.2 a hb a (List.mem_flatMap.2 ⟨x, List.mem_of_getElem? hx, ha⟩) rfl
      | succ j =>
        simp only [List.getElem?_cons_succ] at hx hy
        exact nodup_flat h3.2.1 (fun e => hij (by rw [e])) hx hy a ha hb
theorem nodup_part {α : Type} {f : α → List Nat} : ∀ {l : List α}, (l.flatMap f).Nodup → ∀ {x : α}, x ∈ l → (f x).Nodup
  | [], _, x, hx => by cases hx
  | z :: l, h, x, hx => by
    rw [List.flatMap_cons] at h
    have h3 := List.nodup_append.1 h
    rcases List.mem_cons.1 hx with rfl | hx
    · exact h3.1
    · exact nodup_part h3.2.1 hx
theorem nodup_sep {l m : List Nat} (h : (l ++ m).Nodup) : ∀ a ∈ m, a ∉ l := fun a ha hb => (List.nodup_append.1 h).2.2 a hb a ha rfl
theorem nodup_sep' {l m : List Nat} (h : (l ++ m).Nodup) : ∀ a ∈ l, a ∉ m := fun a ha hb => (List.nodup_append.1 h).2.2 a ha a hb rfl
def TmD.setE (t : TmD) (j : Nat) (e : EdD) : TmD := { t with succs := t.succs.set j e }
def BkD.setE (b : BkD) (j : Nat) (e : EdD) : BkD := { b with term := b.term.setE j e }
theorem BkD.setE_cells (b : BkD) (j : Nat) (e : EdD) : (b.setE j e).cells = b.cells := by simp [BkD.cells, BkD.setE, TmD.cells, TmD.setE]
def FnD.setE (d : FnD) (i j : Nat) (b : BkD) (e : EdD) : FnD := { d with blocks := d.blocks.set i (b.setE j e) }
theorem set_map_same {α β : Type} {f : α → β} {l : List α} {i : Nat} {x y : α} (hx : l[i]? = some x) (h : f y = f x) : (l.set i y).map f = l.map f := by
  apply List.ext_getElem?
  intro k
  rw [List.getElem?_map, List.getElem?_map, List.getElem?_set]
  by_cases e : i = k
  · subst e
    rw [if_pos rfl, if_pos (List.getElem?_eq_some_iff.1 hx).1, hx]
    simp [h]
  · rw [if_neg e]
theorem FnD.setE_cells {d : FnD} {i j : Nat} {b : BkD} {e : EdD} : (d.setE i j b e).cells = d.cells := by simp [FnD.cells, FnD.setE]
theorem at_set {α : Type} {l : List α} {i k : Nat} {x y : α} (h : (l.set i x)[k]? = some y) : k = i ∧ y = x ∨ k ≠ i ∧ l[k]? = some y := by
  by_cases e : k = i
  · subst e
    have hk : k < l.length := by have := (List.getElem?_eq_some_iff.1 h).1; simpa using this
    rw [List.getElem?_set_self hk] at h
    injection h with h
    exact .inl ⟨rfl, h.symm⟩
  · rw [List.getElem?_set_ne (fun x => e x.symm)] at h
    exact .inr ⟨e, h⟩
/-- A store of an edge. -/
theorem FnD.own.edge {w : World} {base : Nat} {d : FnD} (h : d.own w base) (hn : d.fp.Nodup) {i j : Nat} {b : BkD} {e : EdD} (hb : d.blocks[i]? = some b) (he : b.term.succs[j]? = some e) :
    ∃ g, b.term.succsA = some ⟨g, 0, none⟩ ∧ w.rangeAt g (j * 2) e.cells ∧ w.there g (j * 2) 2 ∧ base ≤ g ∧ g < w.heap.size ∧ g ∈ d.fp ∧
      ∀ e1 : EdD, (∀ w', Frm w w' [g] → e1.ok w') → (d.setE i j b e1).ok (w.setCells g (j * 2) e1.cells) ∧ e.ok (w.setCells g (j * 2) e1.cells) := by
  have hbm := List.mem_of_getElem? hb
  have hem := List.mem_of_getElem? he
  have ho := h.blocksO b hbm
  have hj := (List.getElem?_eq_some_iff.1 he).1
  obtain ⟨c0, hown⟩ := ho.term.succs.get (by omega)
  obtain ⟨g, c1, e1, _, _, hg1, hg2⟩ := hown.form (by rw [List.length_map]; omega)
  injection e1 with e1 _ e3
  subst e3
  have hsl : slB b.term.succsA b.term.succs.length = [g] := by
    rw [e1]
    simp only [slB]
    rw [if_neg (by omega)]
  have hk : (b.term.succs.map EdD.cells)[j]? = some e.cells := by rw [List.getElem?_map, he]; rfl
  rw [e1] at hown
  -- where the row lies
  have hgt : g ∈ b.term.fp := b.term.fp_succs (by rw [hsl]; simp)
  have hgb : g ∈ b.fp := b.fp_term hgt
  have hgd : g ∈ d.fp := d.fp_blocksM hbm hgb
  unfold FnD.fp at hn
  have n1 := List.nodup_append.1 hn
  have n2 := List.nodup_append.1 n1.2.1
  have n3 := List.nodup_append.1 n2.2.1
  have hge : g ∈ d.blocks.flatMap BkD.fp := List.mem_flatMap.2 ⟨b, hbm, hgb⟩
  have s1 : g ∉ slB d.paramsA d.params.length := nodup_sep hn g (List.mem_append.2 (.inr (List.mem_append.2 (.inr hge))))
  have s2 : g ∉ slB d.regsA d.regs.length := nodup_sep n1.2.1 g (List.mem_append.2 (.inr hge))
  have s3 : g ∉ slB d.blocksA d.blocks.length := nodup_sep n2.2.1 g hge
  have nb := nodup_part n3.2.1 hbm
  unfold BkD.fp at nb
  have m1 := List.nodup_append.1 nb
  have m2 := List.nodup_append.1 m1.2.1
  have m3 := List.nodup_append.1 m2.2.1
  have t1 : g ∉ slB b.paramsA b.params.length := nodup_sep nb g (List.mem_append.2 (.inr (List.mem_append.2 (.inr hgt))))
  have t2 : g ∉ slB b.insA b.ins.length := nodup_sep m1.2.1 g (List.mem_append.2 (.inr hgt))
  have t3 : g ∉ b.ins.flatMap InD.fp := nodup_sep m2.2.1 g hgt
  have nt := m3.2.1
  unfold TmD.fp at nt
  have k1 := List.nodup_append.1 nt
  have k2 := List.nodup_append.1 k1.2.1
  have k3 := List.nodup_append.1 k2.2.1
  have hgs : g ∈ slB b.term.succsA b.term.succs.length := by rw [hsl]; simp
  have u1 : g ∉ slB b.term.argsA b.term.args.length := nodup_sep nt g (List.mem_append.2 (.inr (List.mem_append.2 (.inl hgs))))
  have u2 : g ∉ slB b.term.casesA b.term.cases.length := nodup_sep k1.2.1 g (List.mem_append.2 (.inl hgs))
  have u3 : g ∉ b.term.succs.flatMap EdD.fp := nodup_sep' k2.2.1 g hgs
  have far : ∀ {l : List Nat}, g ∉ l → ∀ x ∈ l, x ∉ [g] := fun hl x hx hx' => by rw [List.mem_singleton.1 hx'] at hx; exact hl hx
  refine ⟨g, e1, hown.at hk, hown.room (by rw [List.length_map]; exact hj), hg1, hg2, hgd, fun en hen => ?_⟩
  have hf := frm_setCells (g := g) en.cells (j * 2) w
  have hput := hown.put (i := j) (r' := en.cells) (by rw [List.length_map]; exact hj) en.len
  have hrd : RdN (w.setCells g (j * 2) en.cells) 2 (.slice b.term.succsA (b.term.succs.set j en).length b.term.succsc) ((b.term.succs.set j en).map EdD.cells) := by
    have := hput.rd
    rw [← List.map_set] at this
    rw [e1, List.length_set]
    exact this.cut (by have := ho.ok.term.succs.room.1; exact this) (by have := ho.ok.term.succs.room.2; exact this)
  have hb1 : (b.setE j en).ok (w.setCells g (j * 2) en.cells) := by
    refine ⟨ho.ok.params.frmB hf (far t1), ho.ok.paramsB, ho.ok.paramsI, ho.ok.ins.frmB hf (far t2), ho.ok.insB, fun x hx => (ho.ok.insO x hx).frm hf (fun y hy => far t3 y (List.mem_flatMap.2 ⟨x, hx, hy⟩)), ?_⟩
    refine ⟨ho.ok.term.kind, ho.ok.term.args.frmB hf (far u1), ho.ok.term.argsB, ho.ok.term.argsI, ho.ok.term.cases.frmB hf (far u2), ho.ok.term.casesB, ho.ok.term.casesI, hrd, ?_, fun x hx => ?_, ho.ok.term.sym⟩
    · show Fits (b.term.succs.set j en).length
      rw [List.length_set]
      exact ho.ok.term.succsB
    · obtain ⟨k, hkx⟩ := List.getElem?_of_mem hx
      rcases at_set hkx with ⟨_, rfl⟩ | ⟨_, hkx⟩
      · exact hen _ hf
      · exact (ho.ok.term.succsO x (List.mem_of_getElem? hkx)).frm hf (fun y hy => far u3 y (List.mem_flatMap.2 ⟨x, List.mem_of_getElem? hkx, hy⟩))
  refine ⟨⟨h.ok.nm, h.ok.params.frmB hf (far s1), h.ok.paramsB, h.ok.paramsI, h.ok.res, h.ok.regs.frmB hf (far s2), h.ok.regsB, h.ok.regsI, ?_, ?_, fun x hx => ?_⟩, (ho.ok.term.succsO e hem).frm hf (fun y hy => far u3 y (List.mem_flatMap.2 ⟨e, hem, hy⟩))⟩
  · show RdN _ 7 (.slice d.blocksA (d.blocks.set i (b.setE j en)).length d.blocksc) ((d.blocks.set i (b.setE j en)).map BkD.cells)
    rw [List.length_set, set_map_same hb (b.setE_cells j en)]
    exact h.ok.blocks.frmB hf (far s3)
  · show Fits (d.blocks.set i (b.setE j en)).length
    rw [List.length_set]
    exact h.ok.blocksB
  · obtain ⟨k, hkx⟩ := List.getElem?_of_mem hx
    rcases at_set hkx with ⟨_, rfl⟩ | ⟨hne, hkx⟩
    · exact hb1
    · refine (h.blocksO x (List.mem_of_getElem? hkx)).ok.frm hf (fun y hy hy' => ?_)
      rw [List.mem_singleton.1 hy'] at hy
      exact nodup_flat n3.2.1 (fun e => hne e.symm) hb hkx g hgb hy
end Go.Proofs.Ythnehmfdadgklaa

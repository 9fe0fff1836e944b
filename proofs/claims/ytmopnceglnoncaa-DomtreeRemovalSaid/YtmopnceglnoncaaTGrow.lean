/-
  A row of rows of integers whose outer row grows.
-/
import Derived.Test.YtmopnceglnoncaaMade
namespace Go.Proofs.Ytmopnceglnoncaa
open Go.RowKit

/-- The outer row sv may be nil, or may have room; the rows R lie in blocks of their own and hold L. -/
structure OwnG (w : World) (base : Nat) (sv : Value) (R : List Value) (L : List (List Int)) : Prop where
  own : OwnV w base 28 sv R
  len : R.length = L.length
  row : ∀ (i : Nat) (v : Value) (l : List Int), R[i]? = some v → L[i]? = some l → Own w base 3 .i64 v l
  apart : ∀ (i : Nat) (v : Value) (g : Nat), R[i]? = some v → v.ownBlock = some g → sv.ownBlock ≠ some g
  dis : ∀ (i j : Nat) (v u : Value) (g : Nat), i ≠ j → R[i]? = some v → R[j]? = some u → v.ownBlock = some g → u.ownBlock ≠ some g
section
variable {w w' : World} {base : Nat} {sv : Value} {R : List Value} {L : List (List Int)}
theorem OwnG.nil : OwnG w base (.slice none 0 0) [] [] := ⟨OwnV.nil, rfl, fun i v l h => by simp at h, fun i v g h => by simp at h, fun i j v u g _ h => by simp at h⟩
theorem OwnG.frm (h : OwnG w base sv R L) (hf : Frm w w' []) : OwnG w' base sv R L :=
  ⟨h.own.frm hf (fun _ _ => by simp), h.len, fun i v l hv hl => (h.row i v l hv hl).frmS hf (fun _ _ => by simp), h.apart, h.dis⟩
theorem OwnG.far (h : OwnG w base sv R L) {S : List Nat} (hf : Frm w w' S) (hs : ∀ g ∈ S, g < base) : OwnG w' base sv R L :=
  ⟨h.own.frm hf (fun g hg hg2 => by have h1 := (h.own.size g hg).1; have h2 := hs g hg2; omega), h.len, fun i v l hv hl => (h.row i v l hv hl).frmS hf (fun g hg hg2 => by have h1 := ((h.row i v l hv hl).size g hg).1; have h2 := hs g hg2; omega), h.apart, h.dis⟩
theorem OwnG.low (h : OwnG w base sv R L) {b : Nat} (hb : b ≤ base) : OwnG w b sv R L :=
  ⟨h.own.low hb, h.len, fun i v l hv hl => (h.row i v l hv hl).low hb, h.apart, h.dis⟩
theorem OwnG.form (h : OwnG w base sv R L) : ∃ A c, sv = .slice A L.length c ∧ L.length ≤ c ∧ c ≤ maxLen := by
  obtain ⟨A, c, e, h1, h2, -⟩ := h.own.rd
  rw [h.len] at e h1
  exact ⟨A, c, e, h1, h2⟩
theorem OwnG.rd {A : Option Addr} {n c : Nat} (h : OwnG w base (.slice A n c) R L) : RdL w A c L ∧ n = L.length := by
  obtain ⟨A', c', e, h1, h2, -⟩ := h.own.rd
  injection e with e1 e2 e3
  subst e1 e2 e3
  refine ⟨⟨R, h.len, ?_, fun i l hl => ?_⟩, h.len⟩
  · have := h.own.rd
    rw [← h.len]
    exact this
  · obtain ⟨v, hv⟩ : ∃ v, R[i]? = some v := ⟨_, List.getElem?_eq_getElem (by rw [h.len]; exact (List.getElem?_eq_some_iff.1 hl).1)⟩
    have := (h.row i v l hv hl).rd
    have h2 := this
    obtain ⟨B, d, rfl, -⟩ := this
    exact ⟨B, d, hv, h2⟩
/-- A further row at the end: without cells, or in a block that the rest does not have. -/
theorem OwnG.add (h : OwnG w base sv R L) {sv' v : Value} {l : List Int} (hf : Frm w w' sv.ownBlock.toList) (ho : OwnV w' base 28 sv' (R ++ [v])) (hr : Own w base 3 .i64 v l) (hb : sv'.ownBlock = sv.ownBlock ∨ ∀ x, sv'.ownBlock = some x → w.heap.size ≤ x) (hs : ∀ g, v.ownBlock = some g → sv.ownBlock ≠ some g) (hn : ∀ (i : Nat) (u : Value) (g : Nat), R[i]? = some u → u.ownBlock = some g → v.ownBlock ≠ some g) : OwnG w' base sv' (R ++ [v]) (L ++ [l]) := by
  have off : ∀ (i : Nat) (u : Value) (g : Nat), (R ++ [v])[i]? = some u → u.ownBlock = some g → sv.ownBlock ≠ some g ∧ g < w.heap.size ∧ (R[i]? = some u ∨ (i = R.length ∧ u = v)) := by
    intro i u g hu hg
    by_cases c : i < R.length
    · rw [List.getElem?_append_left c] at hu
      obtain ⟨m, hm⟩ : ∃ m, L[i]? = some m := ⟨_, List.getElem?_eq_getElem (by rw [← h.len]; exact c)⟩
      exact ⟨h.apart i u g hu hg, ((h.row i u m hu hm).size g hg).2, .inl hu⟩
    · have hil := (List.getElem?_eq_some_iff.1 hu).1
      rw [List.length_append, List.length_singleton] at hil
      obtain rfl : i = R.length := by omega
      rw [List.getElem?_append_right (Nat.le_refl _), Nat.sub_self, List.getElem?_cons_zero] at hu
      injection hu with hu
      subst hu
      exact ⟨hs g hg, (hr.size g hg).2, .inr ⟨rfl, rfl⟩⟩
  refine ⟨ho, by simp [h.len], fun i u m hu hm => ?_, fun i u g hu hg => ?_, fun i j u x g hij hu hx hg => ?_⟩
  · by_cases c : i < R.length
    · rw [List.getElem?_append_left c] at hu
      rw [List.getElem?_append_left (by rw [← h.len]; exact c)] at hm
      exact (h.row i u m hu hm).frmS hf (fun g hg hm => h.apart i u g hu hg (by simpa using hm))
    · have hil := (List.getElem?_eq_some_iff.1 hu).1
      rw [List.length_append, List.length_singleton] at hil
      obtain rfl : i = R.length := by omega
      rw [List.getElem?_append_right (Nat.le_refl _), Nat.sub_self, List.getElem?_cons_zero] at hu
      rw [h.len, List.getElem?_append_right (Nat.le_refl _), Nat.sub_self, List.getElem?_cons_zero] at hm
      injection hu with hu
      injection hm with hm
      subst hu hm
      exact hr.frmS hf (fun g hg hm => hs g hg (by simpa using hm))
  · obtain ⟨h1, h2, -⟩ := off i u g hu hg
    rcases hb with hb | hb
    · rw [hb]; exact h1
    · intro c; have := hb g c; omega
  · obtain ⟨-, -, h1⟩ := off i u g hu hg
    intro hg2
    obtain ⟨-, -, h2⟩ := off j x g hx hg2
    rcases h1 with h1 | ⟨e1, e2⟩ <;> rcases h2 with h2 | ⟨e3, e4⟩
    · exact h.dis i j u x g hij h1 h2 hg hg2
    · subst e4; exact hn i u g h1 hg hg2
    · subst e2; exact hn j x g h2 hg2 hg
    · omega
/-- A new list in place i: v' in the old block, or in a new one. -/
theorem OwnG.push {D n c : Nat} (h : OwnG w base (.slice (some ⟨D, 0, none⟩) n c) R L) {i : Nat} {v v' : Value} {l l' : List Int} (hv : R[i]? = some v) (hl : L[i]? = some l) (hf : Frm w w' v.ownBlock.toList) (ho : Own w' base 3 .i64 v' l') (hb : v'.ownBlock = v.ownBlock ∨ ∀ g, v'.ownBlock = some g → w.heap.size ≤ g) :
    OwnG (w'.setCell ⟨D, i, none⟩ v') base (.slice (some ⟨D, 0, none⟩) n c) (R.set i v') (L.set i l') := by
  have hD : D ∉ v.ownBlock.toList := fun hg => h.apart i v D hv (by simpa using hg) rfl
  have hlt := (h.own.size D rfl).2
  have hap : v'.ownBlock ≠ some D := by
    rcases hb with e | e
    · rw [e]; exact fun c => h.apart i v D hv c rfl
    · intro e2
      have := e D e2
      omega
  have hset : Frm w' (w'.setCell ⟨D, i, none⟩ v') [D] := (Frm.refl w' [D]).setCell _ _ (.inl (by simp))
  refine ⟨?_, by simp [h.len], fun j u m hu hm => ?_, fun j u g hu hg => ?_, fun j k u x g hjk hu hx hg => ?_⟩
  · exact (h.own.frm hf (fun g hg => by
      have : g = D := by simpa [Value.ownBlock] using hg.symm
      exact this ▸ hD)).set i v'
  · by_cases e : j = i
    · subst e
      rw [List.getElem?_set_self (by exact (List.getElem?_eq_some_iff.1 hv).1)] at hu
      rw [List.getElem?_set_self (by exact (List.getElem?_eq_some_iff.1 hl).1)] at hm
      injection hu with hu
      injection hm with hm
      subst hu hm
      exact ho.frmS hset (fun g hg => by simp; rintro rfl; exact hap hg)
    · rw [List.getElem?_set_ne (fun x => e x.symm)] at hu hm
      refine ((h.row j u m hu hm).frmS hf (fun g hg => ?_)).frmS hset (fun g hg => ?_)
      · intro hg2
        exact h.dis j i u v g e hu hv hg (by simpa using hg2)
      · simp; rintro rfl; exact h.apart j u g hu hg rfl
  · intro c
    have hgD : D = g := by simpa [Value.ownBlock] using c
    subst hgD
    by_cases e : j = i
    · subst e
      rw [List.getElem?_set_self (by exact (List.getElem?_eq_some_iff.1 hv).1)] at hu
      injection hu with hu
      subst hu
      exact hap hg
    · rw [List.getElem?_set_ne (fun x => e x.symm)] at hu
      exact h.apart j u D hu hg rfl
  · have key : ∀ (j : Nat) (u : Value) (g : Nat), j ≠ i → R[j]? = some u → u.ownBlock = some g → v'.ownBlock ≠ some g := by
      intro j u g hj hu hg e2
      obtain ⟨l2, hl2⟩ : ∃ l2, L[j]? = some l2 := ⟨_, List.getElem?_eq_getElem (by rw [← h.len]; exact (List.getElem?_eq_some_iff.1 hu).1)⟩
      have h1 := (h.row j u l2 hu hl2).size g hg
      rcases hb with e | e
      · exact h.dis j i u v g hj hu hv hg (e ▸ e2)
      · have := e g e2
        omega
    by_cases e : j = i
    · subst e
      rw [List.getElem?_set_self (by exact (List.getElem?_eq_some_iff.1 hv).1)] at hu
      injection hu with hu
      subst hu
      rw [List.getElem?_set_ne hjk] at hx
      intro hx2
      exact key k x g (fun e => hjk e.symm) hx hx2 hg
    · rw [List.getElem?_set_ne (fun x => e x.symm)] at hu
      by_cases e2 : k = i
      · subst e2
        rw [List.getElem?_set_self (by exact (List.getElem?_eq_some_iff.1 hv).1)] at hx
        injection hx with hx
        subst hx
        exact key j u g e hu hg
      · rw [List.getElem?_set_ne (fun x => e2 x.symm)] at hx
        exact h.dis j k u x g hjk hu hx hg
end
end Go.Proofs.Ytmopnceglnoncaa

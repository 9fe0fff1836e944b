/-
  Rows of rows of integers that a call makes. (The texts of layer 6, for this seat.)
-/
import Derived.Test.YthnehmfdadgklaaCfD
import Derived.Deep.QuietTactic
import Derived.BigQuiet
import Derived.Deep.RegionLaw
import Derived.StillTailTactics
import Derived.Deep.CutRange
namespace Go.Proofs.Ythnehmfdadgklaa
open Go.RowKit

/-- The rows of a slice of slices. -/
def RdL (w : World) (A : Option Addr) (c : Nat) (g : List (List Int)) : Prop :=
  ∃ rows : List Value, rows.length = g.length ∧ RdV w (.slice A g.length c) rows ∧ ∀ (i : Nat) (l : List Int), g[i]? = some l → ∃ (B : Option Addr) (d : Nat), rows[i]? = some (Value.slice B l.length d) ∧ Rd w .i64 (.slice B l.length d) l
theorem RdL.below' {w w' : World} {A : Option Addr} {c : Nat} {g : List (List Int)} (h : RdL w A c g) (hb : Below w.heap.size w w') : RdL w' A c g := by
  obtain ⟨rows, h1, h2, h3⟩ := h
  exact ⟨rows, h1, h2.below' hb, fun i l hi => by
    obtain ⟨B, d, h4, h5⟩ := h3 i l hi
    exact ⟨B, d, h4, h5.below' hb⟩⟩
theorem RdL.at {w : World} {A : Option Addr} {c : Nat} {g : List (List Int)} (h : RdL w A c g) {i : Nat} {l : List Int} (hi : g[i]? = some l) :
    ∃ b off B d, A = some ⟨b, off, none⟩ ∧ b < w.heap.size ∧ w.cell? ⟨b, off + i, none⟩ = some (Value.slice B l.length d) ∧ Rd w .i64 (.slice B l.length d) l := by
  obtain ⟨rows, h1, h2, h3⟩ := h
  obtain ⟨B, d, h4, h5⟩ := h3 i l hi
  obtain ⟨b, off, h6, h7, h8⟩ := h2.at i _ h4
  exact ⟨b, off, B, d, h6, h7, h8, h5⟩
theorem RdL.cap {w : World} {A : Option Addr} {c : Nat} {g : List (List Int)} (h : RdL w A c g) : g.length ≤ c ∧ c ≤ maxLen := by
  obtain ⟨rows, h1, ⟨A', c', h2, h3, h4, _⟩, _⟩ := h
  injection h2 with e1 e2 e3
  subst e3
  omega

theorem intsI : (Try.prog.info? 22).map (fun i => (i.zero, i.size, i.bytes)) = some (some (.slice none 0 0), 1, 24) := by kernel_rfl
theorem boolI : (Try.prog.info? 4).map (fun i => (i.zero, i.size, i.bytes)) = some (some (.bool false), 1, 1) := by kernel_rfl
theorem intEI : ElemI Try.prog 22 3 .i64 8 := ⟨Try.underlying22, Try.underlying3, infoN intI⟩
/-- What 'make' leaves: a row of n equal cells. -/
theorem run_made (w : World) (t e : TypeId) (z : Value) (bytes : Nat) (ht : Try.prog.underlying t = some (.slice e)) (hi : (Try.prog.info? e).map (fun i => (i.zero, i.size, i.bytes)) = some (some z, 1, bytes)) (hz1 : z.cells = #[z]) (hb : bytes ≤ 24) (n : Nat) (hn : n ≤ 131072) :
    (Instr.makeSlice t (.int .i64 n) (.int .i64 n)).run Try.prog w = .ok (.slice (some ⟨w.heap.size, 0, none⟩) n n) (w.alloc (.cells (madeCells #[z] n) e)) := by
  obtain ⟨i, hi, hz, hs1, hby⟩ := infoN hi
  have hb1 : bytes * n ≤ 24 * 131072 := Nat.mul_le_mul hb hn
  have hb2 : (bytes : Int) * (n : Int) ≤ 24 * 131072 := by rw [← Int.natCast_mul]; omega
  have h := run_make (P := Try.prog) (w := w) t e i z ht hi hz .i64 .i64 n n (by omega) (Int.le_refl _) (by rw [hby]; omega) (by omega)
  rw [hs1, Nat.mul_one, Int.toNat_natCast, hz1] at h
  exact h
theorem own_madeV (w : World) (e : TypeId) (z : Value) (n base : Nat) (hn : n ≤ maxLen) (hb : base ≤ w.heap.size) : OwnV (w.alloc (.cells (madeCells #[z] n) e)) base e (.slice (some ⟨w.heap.size, 0, none⟩) n n) (List.replicate n z) := by
  have e1 : (madeCells #[z] n).toList = List.replicate n z := toList_madeCells_one z n
  refine ⟨by simp, .inr ⟨w.heap.size, n, _, by rw [List.length_replicate], hb, heap_alloc_new w _, by simp, hn, ?_, ?_⟩⟩
  · rw [← Array.length_toList, e1]; simp
  · rw [e1]; simp

/-- A row of rows of integers, each in a block of its own: D the outer row's block. -/
structure OwnL (w : World) (base D : Nat) (R : List Value) (L : List (List Int)) : Prop where
  own : OwnV w base 22 (.slice (some ⟨D, 0, none⟩) R.length R.length) R
  len : R.length = L.length
  row : ∀ (i : Nat) (v : Value) (l : List Int), R[i]? = some v → L[i]? = some l → Own w base 3 .i64 v l
  apart : ∀ (i : Nat) (v : Value), R[i]? = some v → v.ownBlock ≠ some D
  dis : ∀ (i j : Nat) (v u : Value) (g : Nat), i ≠ j → R[i]? = some v → R[j]? = some u → v.ownBlock = some g → u.ownBlock ≠ some g
section
variable {w w' : World} {base D : Nat} {R : List Value} {L : List (List Int)}
theorem Own.frmS {S : List Nat} {k : IntKind} {e : TypeId} {v : Value} {l : List Int} (h : Own w base e k v l) (hf : Frm w w' S) (hv : ∀ g, v.ownBlock = some g → g ∉ S) : Own w' base e k v l := (h.toV.frm hf hv).toI
theorem OwnL.lt (h : OwnL w base D R L) : base ≤ D ∧ D < w.heap.size := h.own.size D rfl
theorem OwnL.frm (h : OwnL w base D R L) (hf : Frm w w' []) : OwnL w' base D R L :=
  ⟨h.own.frm hf (fun _ _ => by simp), h.len, fun i v l hv hl => (h.row i v l hv hl).frmS hf (fun _ _ => by simp), h.apart, h.dis⟩
theorem OwnL.far (h : OwnL w base D R L) {S : List Nat} (hf : Frm w w' S) (hs : ∀ g ∈ S, g < base) : OwnL w' base D R L :=
  ⟨h.own.frm hf (fun g hg hg2 => by have h1 := (h.own.size g hg).1; have h2 := hs g hg2; omega), h.len, fun i v l hv hl => (h.row i v l hv hl).frmS hf (fun g hg hg2 => by have h1 := ((h.row i v l hv hl).size g hg).1; have h2 := hs g hg2; omega), h.apart, h.dis⟩
theorem OwnL.low (h : OwnL w base D R L) {b : Nat} (hb : b ≤ base) : OwnL w b D R L :=
  ⟨h.own.low hb, h.len, fun i v l hv hl => (h.row i v l hv hl).low hb, h.apart, h.dis⟩
theorem OwnL.rd (h : OwnL w base D R L) : RdL w (some ⟨D, 0, none⟩) R.length L := by
  refine ⟨R, h.len, ?_, fun i l hl => ?_⟩
  · have := h.own.rd
    rw [← h.len]
    exact this
  · obtain ⟨v, hv⟩ : ∃ v, R[i]? = some v := ⟨_, List.getElem?_eq_getElem (by rw [h.len]; exact (List.getElem?_eq_some_iff.1 hl).1)⟩
    have := (h.row i v l hv hl).rd
    have h2 := this
    obtain ⟨B, d, rfl, -⟩ := this
    exact ⟨B, d, hv, h2⟩
/-- A new list in place i: v' in the old block, or in a new one. -/
theorem OwnL.push (h : OwnL w base D R L) {i : Nat} {v v' : Value} {l l' : List Int} (hv : R[i]? = some v) (hl : L[i]? = some l) (hf : Frm w w' v.ownBlock.toList) (ho : Own w' base 3 .i64 v' l') (hb : v'.ownBlock = v.ownBlock ∨ ∀ g, v'.ownBlock = some g → w.heap.size ≤ g) :
    OwnL (w'.setCell ⟨D, i, none⟩ v') base D (R.set i v') (L.set i l') := by
  have hD : D ∉ v.ownBlock.toList := fun hg => h.apart i v hv (by simpa using hg)
  have hlt := h.lt
  have hap : v'.ownBlock ≠ some D := by
    rcases hb with e | e
    · rw [e]; exact h.apart i v hv
    · intro e2
      have := e D e2
      omega
  have hset : Frm w' (w'.setCell ⟨D, i, none⟩ v') [D] := (Frm.refl w' [D]).setCell _ _ (.inl (by simp))
  refine ⟨?_, by simp [h.len], fun j u m hu hm => ?_, fun j u hu => ?_, fun j k u x g hjk hu hx hg => ?_⟩
  · have := (h.own.frm hf (fun g hg => by
      have : g = D := by simpa [Value.ownBlock] using hg.symm
      exact this ▸ hD)).set i v'
    rw [List.length_set]
    exact this
  · by_cases e : j = i
    · subst e
      rw [List.getElem?_set_self (by exact (List.getElem?_eq_some_iff.1 hv).1)] at hu
      rw [List.getElem?_set_self (by exact (List.getElem?_eq_some_iff.1 hl).1)] at hm
      injection hu with hu
      injection hm with hm
      subst hu hm
      exact ho.frmS hset (fun g hg => by simp; rintro rfl; exact hap hg)
    · rw [List.getElem?_set_ne (fun x => e x.symm)] at hu hm
      refine ((h.row j u m hu hm).frmS hf (fun g hg => ?_)).frmS hset (fun g hg => ?_)
      · intro hg2
        exact h.dis j i u v g e hu hv hg (by simpa using hg2)
      · simp; rintro rfl; exact h.apart j u hu hg
  · by_cases e : j = i
    · subst e
      rw [List.getElem?_set_self (by exact (List.getElem?_eq_some_iff.1 hv).1)] at hu
      injection hu with hu
      subst hu
      exact hap
    · rw [List.getElem?_set_ne (fun x => e x.symm)] at hu
      exact h.apart j u hu
  · have key : ∀ (j : Nat) (u : Value) (g : Nat), j ≠ i → R[j]? = some u → u.ownBlock = some g → v'.ownBlock ≠ some g := by
      intro j u g hj hu hg e2
      obtain ⟨l2, hl2⟩ : ∃ l2, L[j]? = some l2 := ⟨_, List.getElem?_eq_getElem (by rw [← h.len]; exact (List.getElem?_eq_some_iff.1 hu).1)⟩
      have h1 := (h.row j u l2 hu hl2).size g hg
      rcases hb with e | e
      · exact h.dis j i u v g hj hu hv hg (e ▸ e2)
      · have := e g e2
        omega
    by_cases e : j = i
    · subst e
      rw [List.getElem?_set_self (by exact (List.getElem?_eq_some_iff.1 hv).1)] at hu
      injection hu with hu
      subst hu
      rw [List.getElem?_set_ne hjk] at hx
      intro hx2
      exact key k x g (fun e => hjk e.symm) hx hx2 hg
    · rw [List.getElem?_set_ne (fun x => e x.symm)] at hu
      by_cases e2 : k = i
      · subst e2
        rw [List.getElem?_set_self (by exact (List.getElem?_eq_some_iff.1 hv).1)] at hx
        injection hx with hx
        subst hx
        exact key j u g e hu hg
      · rw [List.getElem?_set_ne (fun x => e2 x.symm)] at hx
        exact h.dis j k u x g hjk hu hx hg
theorem OwnL.made (w : World) (base n : Nat) (hn : n ≤ maxLen) (hb : base ≤ w.heap.size) : OwnL (w.alloc (.cells (madeCells #[.slice none 0 0] n) 22)) base w.heap.size (List.replicate n (.slice none 0 0)) (List.replicate n []) := by
  refine ⟨by rw [List.length_replicate]; exact own_madeV w 22 (.slice none 0 0) n base hn hb, by simp, fun i v l hv hl => ?_, fun i v hv => ?_, fun i j v u g _ hv _ hg => ?_⟩
  · have h1 := List.mem_of_getElem? hv
    have h2 := List.mem_of_getElem? hl
    rw [(List.mem_replicate.1 h1).2, (List.mem_replicate.1 h2).2]
    exact Own.nil
  · have h1 := List.mem_of_getElem? hv
    rw [(List.mem_replicate.1 h1).2]
    simp [Value.ownBlock]
  · have h1 := List.mem_of_getElem? hv
    rw [(List.mem_replicate.1 h1).2] at hg
    simp [Value.ownBlock] at hg
end
section
variable {w w' : World} {base D : Nat} {R : List Value} {L : List (List Int)}
/-- An element of a row stored. -/
theorem OwnL.poke (h : OwnL w base D R L) {i j : Nat} {g n c : Nat} {l : List Int} {z : Int} (hv : R[i]? = some (.slice (some ⟨g, 0, none⟩) n c)) (hl : L[i]? = some l) :
    OwnL (w.setCell ⟨g, j, none⟩ (.int .i64 z)) base D R (L.set i (l.set j z)) := by
  have hset : Frm w (w.setCell ⟨g, j, none⟩ (.int .i64 z)) [g] := (Frm.refl w [g]).setCell _ _ (.inl (by simp))
  refine ⟨h.own.frm hset (fun b hb hb2 => ?_), by simp [h.len], fun k u m hu hm => ?_, h.apart, h.dis⟩
  · simp only [List.mem_singleton] at hb2
    have : D = b := by simpa [Value.ownBlock] using hb
    subst this hb2
    exact h.apart i _ hv rfl
  · by_cases e : k = i
    · subst e
      rw [List.getElem?_set_self (by exact (List.getElem?_eq_some_iff.1 hl).1)] at hm
      injection hm with hm
      rw [hv] at hu
      injection hu with hu
      subst hm hu
      exact (h.row k _ l hv hl).set j z
    · rw [List.getElem?_set_ne (fun x => e x.symm)] at hm
      refine (h.row k u m hu hm).frmS hset (fun b hb hb2 => ?_)
      simp only [List.mem_singleton] at hb2
      subst hb2
      exact h.dis k i u _ b e hu hv hb rfl
theorem OwnL.next (h : OwnL w base D R L) (hb : Below w.heap.size w w') : OwnL w' base D R L := h.frm (Frm.below hb)
end
theorem own_made_ints (w : World) (base n : Nat) (hn : n ≤ maxLen) (hb : base ≤ w.heap.size) : Own (w.alloc (.cells (madeCells #[.int .i64 0] n) 3)) base 3 .i64 (.slice (some ⟨w.heap.size, 0, none⟩) n n) (List.replicate n 0) := by
  have := own_madeV w 3 (.int .i64 0) n base hn hb
  exact OwnV.toI (by rw [List.map_replicate]; exact this)
end Go.Proofs.Ythnehmfdadgklaa

/-
  Layer 20 (cfg): endsWith; rows of rows of positions.
-/
import Derived.Test.YthnehmfdadgklaaCfR
import Derived.IntWalk
import Derived.Laws.StructEq
namespace Go.Proofs.Ythnehmfdadgklaa
open Go.RowKit Go.Deep

/-- A position's cells. -/
def posC (p : Int × Int) : List Value := [.int .i64 p.1, .int .i64 p.2]
theorem pos_one {l : List (Int × Int)} : ∀ r ∈ l.map posC, ∀ x ∈ r, x.oneCell' = true := by
  intro r hr x hx
  obtain ⟨d, _, rfl⟩ := List.mem_map.1 hr
  exact List.all_eq_true.1 (show (posC d).all (·.oneCell') = true by rfl) x hx
theorem posI : (Try.prog.info? 37).map (fun i => (i.zero, i.size, i.bytes)) = some (some (.agg #[.int .i64 0, .int .i64 0]), 2, 16) := by kernel_rfl
theorem posE : ElemN Try.prog 64 37 2 (.agg #[.int .i64 0, .int .i64 0]) 16 := ⟨Try.underlying64, rfl, by omega, infoN posI⟩
theorem posG : Try.prog.eqGuardType Try.prog.depth 37 = false := by kernel_rfl
theorem eqpos (x1 x2 a b : Int) (W : World) : Sem.run Try.prog (binOp .eql 37 (.agg #[.int .i64 x1, .int .i64 x2]) (.agg #[.int .i64 a, .int .i64 b])) W = .ok (.bool ((x1 == a) && (x2 == b))) W := by
  rw [run_eql_struct]
  by_cases h1 : x1 = a
  · by_cases h2 : x2 = b
    · simp [go_sem, h1, h2]
    · simp [go_sem, h1, h2]
  · simp [go_sem, h1]
attribute [-go_sem] run_eql_struct run_equalIn_agg run_neq_struct
def endsB (l : List (Int × Int)) (p : Int × Int) : Bool := l.getLast? == some p
set_option maxRecDepth 100000 in
set_option maxHeartbeats 2000000 in
theorem ends_any (v : Value) (l : List (Int × Int)) (a b : Int) (w : World) (hv : RdN w 2 v (l.map posC)) :
    Calls Try.prog 52 #[v, .agg #[.int .i64 a, .int .i64 b]] w fun e w' => e = .returned (.bool (endsB l (a, b))) ∧ Below w.heap.size w w' := by
  obtain ⟨_, A, c, hv1, hc, hm, hr⟩ := id hv
  rw [List.length_map] at hv1 hc hr
  subst hv1
  have hc9 : c ≤ 9223372036854775807 := by unfold maxLen at hm; omega
  have hl9 : l.length ≤ 9223372036854775807 := by omega
  obtain ⟨w1, hw1⟩ : ∃ z, w.alloc (.cells #[.int .i64 a, .int .i64 b] 37) = z := ⟨_, rfl⟩
  have hB : Below w.heap.size w w1 := by rw [← hw1]; exact (Below.refl _ _).alloc (Nat.le_refl _) _
  have hP : Whole w1 w.heap.size 37 #[.int .i64 a, .int .i64 b] := by rw [← hw1]; exact Whole.new w _ _
  have p0 : w1.cell? ⟨w.heap.size, 0, none⟩ = some (.int .i64 a) := hP.cell 0
  have p1 : w1.cell? ⟨w.heap.size, 1, none⟩ = some (.int .i64 b) := hP.cell 1
  have HB := hide hB
  clear hB hP
  rcases Nat.eq_zero_or_pos l.length with h0 | h0
  · obtain rfl : l = [] := List.eq_nil_of_length_eq_zero h0
    clear hr hc h0 hv hl9
    go_enter Try.func52, Try.ntmps52
    go_upto_region 1 with fail
    clear hw1
    go_quiet (fail)
    go_wp2_with fail
    go_ret
    exact ⟨rfl, Below.drewN' HB.out _⟩
  · obtain ⟨x, hx⟩ : ∃ x, l[l.length - 1]? = some x := ⟨_, List.getElem?_eq_getElem (by omega)⟩
    obtain ⟨bb, off, rfl, hlb, hrow⟩ := hv.row (i := l.length - 1) (r := posC x) (by rw [List.getElem?_map, hx]; rfl)
    obtain ⟨x1, x2⟩ := x
    have q0 : w1.cell? ⟨bb, off + (l.length - 1) * 2, none⟩ = some (.int .i64 x1) := (HB.out.cell (p := ⟨bb, off + (l.length - 1) * 2, none⟩) hlb).trans (hrow 0 _ rfl)
    have q1 : w1.cell? ⟨bb, off + (l.length - 1) * 2 + 1, none⟩ = some (.int .i64 x2) := (HB.out.cell (p := ⟨bb, off + (l.length - 1) * 2 + 1, none⟩) hlb).trans (hrow 1 _ rfl)
    have hlast : endsB l (a, b) = ((x1 == a) && (x2 == b)) := by
      unfold endsB
      rw [List.getLast?_eq_getElem?, hx]
      rfl
    have HLa := hide hlast
    obtain ⟨m, hm2⟩ : ∃ m, l.length = m := ⟨_, rfl⟩
    obtain ⟨k, hk⟩ : ∃ k, m - 1 = k := ⟨_, rfl⟩
    rw [hm2, hk] at q0 q1
    rw [hm2] at hc hl9 h0 ⊢
    have hs1 : IntKind.i64.wrap ((m : Int) - 1) = (k : Int) := by rw [show ((m : Int) - 1) = (k : Int) by omega]; exact IntWalk.i64_in _ (by omega)
    have hs2 : 0 ≤ (k : Int) := by omega
    have hs3 : ((k : Int)).toNat = k := by omega
    have hs4 : k < m := by omega
    have hs5 : (k : Int) < (m : Int) := by omega
    have g0 : decide ((0 : Int) < (m : Int)) = true := by simp; omega
    have g1 : decide ((m : Int) > 0) = true := by simp; omega
    have g2 : decide (0 < m) = true := by simp; omega
    have heq := eqpos x1 x2 a b
    have hgt := posG
    clear hr hv hx hlb hrow hlast hm2 hk
    go_enter Try.func52, Try.ntmps52
    go_upto_region 1 with fail
    clear hw1
    go_region_held3 (fun w' => w'.cell? ⟨w.heap.size, 0, none⟩ = some (.int .i64 a) ∧ w'.cell? ⟨w.heap.size, 1, none⟩ = some (.int .i64 b) ∧ w'.cell? ⟨bb, off + k * 2, none⟩ = some (.int .i64 x1) ∧ w'.cell? ⟨bb, off + k * 2 + 1, none⟩ = some (.int .i64 x2)) (exact ⟨p0, p1, q0, q1⟩) (fail)
    go_wp2_with fail
    go_ret
    exact ⟨by rw [HLa.out]; simp, Below.drewN' HB.out 1⟩
/-- A row of rows of positions, each in a block of its own: D the outer row's block. -/
structure OwnP (w : World) (base D : Nat) (R : List Value) (L : List (List (Int × Int))) : Prop where
  own : OwnV w base 64 (.slice (some ⟨D, 0, none⟩) R.length R.length) R
  len : R.length = L.length
  row : ∀ (i : Nat) (v : Value) (l : List (Int × Int)), R[i]? = some v → L[i]? = some l → OwnN w base 37 2 v (l.map posC)
  apart : ∀ (i : Nat) (v : Value), R[i]? = some v → v.ownBlock ≠ some D
  dis : ∀ (i j : Nat) (v u : Value) (g : Nat), i ≠ j → R[i]? = some v → R[j]? = some u → v.ownBlock = some g → u.ownBlock ≠ some g
section
variable {w w' : World} {base D : Nat} {R : List Value} {L : List (List (Int × Int))}
theorem OwnP.lt (h : OwnP w base D R L) : base ≤ D ∧ D < w.heap.size := h.own.size D rfl
theorem OwnP.frm (h : OwnP w base D R L) (hf : Frm w w' []) : OwnP w' base D R L :=
  ⟨h.own.frm hf (fun _ _ => by simp), h.len, fun i v l hv hl => (h.row i v l hv hl).frm hf (fun _ _ => by simp), h.apart, h.dis⟩
theorem OwnP.far (h : OwnP w base D R L) {S : List Nat} (hf : Frm w w' S) (hs : ∀ g ∈ S, g < base) : OwnP w' base D R L :=
  ⟨h.own.frm hf (fun g hg hg2 => by have h1 := (h.own.size g hg).1; have h2 := hs g hg2; omega), h.len, fun i v l hv hl => (h.row i v l hv hl).frm hf (fun g hg hg2 => by have h1 := ((h.row i v l hv hl).lt g hg).1; have h2 := hs g hg2; omega), h.apart, h.dis⟩
theorem OwnP.low (h : OwnP w base D R L) {b : Nat} (hb : b ≤ base) : OwnP w b D R L :=
  ⟨h.own.low hb, h.len, fun i v l hv hl => (h.row i v l hv hl).low hb, h.apart, h.dis⟩
/-- A new list in place i: v' in the old block, or in a new one. -/
theorem OwnP.push (h : OwnP w base D R L) {i : Nat} {v v' : Value} {l l' : List (Int × Int)} (hv : R[i]? = some v) (hl : L[i]? = some l) (hf : Frm w w' v.ownBlock.toList) (ho : OwnN w' base 37 2 v' (l'.map posC)) (hb : v'.ownBlock = v.ownBlock ∨ ∀ g, v'.ownBlock = some g → w.heap.size ≤ g) :
    OwnP (w'.setCell ⟨D, i, none⟩ v') base D (R.set i v') (L.set i l') := by
  have hD : D ∉ v.ownBlock.toList := fun hg => h.apart i v hv (by simpa using hg)
  have hlt := h.lt
  have hap : v'.ownBlock ≠ some D := by
    rcases hb with e | e
    · rw [e]; exact h.apart i v hv
    · intro e2
      have := e D e2
      omega
  have hset : Frm w' (w'.setCell ⟨D, i, none⟩ v') [D] := (Frm.refl w' [D]).setCell _ _ (.inl (by simp))
  refine ⟨?_, by simp [h.len], fun j u m hu hm => ?_, fun j u hu => ?_, fun j k u x g hjk hu hx hg => ?_⟩
  · have := (h.own.frm hf (fun g hg => by
      have : g = D := by simpa [Value.ownBlock] using hg.symm
      exact this ▸ hD)).set i v'
    rw [List.length_set]
    exact this
  · by_cases e : j = i
    · subst e
      rw [List.getElem?_set_self (by exact (List.getElem?_eq_some_iff.1 hv).1)] at hu
      rw [List.getElem?_set_self (by exact (List.getElem?_eq_some_iff.1 hl).1)] at hm
      injection hu with hu
      injection hm with hm
      subst hu hm
      exact ho.frm hset (fun g hg => by simp; rintro rfl; exact hap hg)
    · rw [List.getElem?_set_ne (fun x => e x.symm)] at hu hm
      refine ((h.row j u m hu hm).frm hf (fun g hg => ?_)).frm hset (fun g hg => ?_)
      · intro hg2
        exact h.dis j i u v g e hu hv hg (by simpa using hg2)
      · simp; rintro rfl; exact h.apart j u hu hg
  · by_cases e : j = i
    · subst e
      rw [List.getElem?_set_self (by exact (List.getElem?_eq_some_iff.1 hv).1)] at hu
      injection hu with hu
      subst hu
      exact hap
    · rw [List.getElem?_set_ne (fun x => e x.symm)] at hu
      exact h.apart j u hu
  · have key : ∀ (j : Nat) (u : Value) (g : Nat), j ≠ i → R[j]? = some u → u.ownBlock = some g → v'.ownBlock ≠ some g := by
      intro j u g hj hu hg e2
      obtain ⟨l2, hl2⟩ : ∃ l2, L[j]? = some l2 := ⟨_, List.getElem?_eq_getElem (by rw [← h.len]; exact (List.getElem?_eq_some_iff.1 hu).1)⟩
      have h1 := (h.row j u l2 hu hl2).lt g hg
      rcases hb with e | e
      · exact h.dis j i u v g hj hu hv hg (e ▸ e2)
      · have := e g e2
        omega
    by_cases e : j = i
    · subst e
      rw [List.getElem?_set_self (by exact (List.getElem?_eq_some_iff.1 hv).1)] at hu
      injection hu with hu
      subst hu
      rw [List.getElem?_set_ne hjk] at hx
      intro hx2
      exact key k x g (fun e => hjk e.symm) hx hx2 hg
    · rw [List.getElem?_set_ne (fun x => e x.symm)] at hu
      by_cases e2 : k = i
      · subst e2
        rw [List.getElem?_set_self (by exact (List.getElem?_eq_some_iff.1 hv).1)] at hx
        injection hx with hx
        subst hx
        exact key j u g e hu hg
      · rw [List.getElem?_set_ne (fun x => e2 x.symm)] at hx
        exact h.dis j k u x g hjk hu hx hg
theorem OwnP.made (w : World) (base n : Nat) (hn : n ≤ maxLen) (hb : base ≤ w.heap.size) : OwnP (w.alloc (.cells (madeCells #[.slice none 0 0] n) 64)) base w.heap.size (List.replicate n (.slice none 0 0)) (List.replicate n []) := by
  refine ⟨by rw [List.length_replicate]; exact own_madeV w 64 (.slice none 0 0) n base hn hb, by simp, fun i v l hv hl => ?_, fun i v hv => ?_, fun i j v u g _ hv _ hg => ?_⟩
  · have h1 := List.mem_of_getElem? hv
    have h2 := List.mem_of_getElem? hl
    rw [(List.mem_replicate.1 h1).2, (List.mem_replicate.1 h2).2]
    exact OwnN.nil _ _ _ _
  · have h1 := List.mem_of_getElem? hv
    rw [(List.mem_replicate.1 h1).2]
    simp [Value.ownBlock]
  · have h1 := List.mem_of_getElem? hv
    rw [(List.mem_replicate.1 h1).2] at hg
    simp [Value.ownBlock] at hg
theorem OwnP.next (h : OwnP w base D R L) (hb : Below w.heap.size w w') : OwnP w' base D R L := h.frm (Frm.below hb)
end
end Go.Proofs.Ythnehmfdadgklaa

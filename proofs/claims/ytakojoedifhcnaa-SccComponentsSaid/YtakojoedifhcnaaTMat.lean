/-
  Layer 7 (scc), the reference: a matrix of bools in memory.
-/
import Derived.Test.YtakojoedifhcnaaTWarsh
namespace Go.Proofs.Ytakojoedifhcnaa
open Go.RowKit

def bl (n : Nat) (f : Nat → Bool) : List Value := (List.range n).map fun i => .bool (f i)
theorem bl_len (n : Nat) (f : Nat → Bool) : (bl n f).length = n := by simp [bl]
theorem bl_get {n i : Nat} (f : Nat → Bool) (h : i < n) : (bl n f)[i]? = some (.bool (f i)) := by simp [bl, h]
theorem bl_set {n x : Nat} {f g : Nat → Bool} {b : Bool} (hb : g x = b) (hg : ∀ j, j ≠ x → g j = f j) : (bl n f).set x (.bool b) = bl n g := by
  apply List.ext_getElem?
  intro i
  by_cases hi : i < n
  · rw [bl_get g hi]
    by_cases e : x = i
    · subst e
      rw [List.getElem?_set_self (by rw [bl_len]; exact hi), hb]
    · rw [List.getElem?_set_ne e, bl_get f hi, hg i (fun h => e h.symm)]
  · rw [List.getElem?_eq_none (by rw [List.length_set, bl_len]; omega), List.getElem?_eq_none (by rw [bl_len]; omega)]
theorem bl_false (n : Nat) : bl n (fun _ => false) = List.replicate n (.bool false) := by
  apply List.ext_getElem <;> simp [bl]

theorem bl_congr {n : Nat} {f h : Nat → Bool} (e : ∀ i, i < n → f i = h i) : bl n f = bl n h := by
  unfold bl
  exact List.map_congr_left fun i hi => by rw [e i (List.mem_range.1 hi)]
def rowsV (n : Nat) (rs : List Nat) : List Value := rs.map fun r => .slice (some ⟨r, 0, none⟩) n n
theorem rowsV_get {n : Nat} {rs : List Nat} {i r : Nat} (h : rs[i]? = some r) : (rowsV n rs)[i]? = some (.slice (some ⟨r, 0, none⟩) n n) := by simp [rowsV, h]
theorem rowsV_len (n : Nat) (rs : List Nat) : (rowsV n rs).length = rs.length := by simp [rowsV]
/-- The matrix sv: its rows lie in the blocks rs, and hold M. -/
structure BMat (w : World) (base : Nat) (sv : Value) (n : Nat) (rs : List Nat) (M : Nat → Nat → Bool) : Prop where
  own : OwnV w base 32 sv (rowsV n rs)
  row : ∀ i r, rs[i]? = some r → OwnV w base 4 (.slice (some ⟨r, 0, none⟩) n n) (bl n (M i))
  off : ∀ r ∈ rs, sv.ownBlock ≠ some r
  nd : rs.Nodup
section
variable {w w' : World} {base n : Nat} {sv : Value} {rs : List Nat} {M : Nat → Nat → Bool}
theorem BMat.nil : BMat w base (.slice none 0 0) n [] M := ⟨OwnV.nil, fun i r h => by simp at h, fun _ h => (by cases h), List.nodup_nil⟩
theorem BMat.frm {S : List Nat} (h : BMat w base sv n rs M) (hf : Frm w w' S) (h1 : ∀ x, sv.ownBlock = some x → x ∉ S) (h2 : ∀ r ∈ rs, r ∉ S) : BMat w' base sv n rs M :=
  ⟨h.own.frm hf h1, fun i r hr => (h.row i r hr).frm hf (fun x hx => by
    have e : r = x := by simpa [Value.ownBlock] using hx
    exact e ▸ h2 r (List.mem_of_getElem? hr)), h.off, h.nd⟩
theorem BMat.still (h : BMat w base sv n rs M) (hb : Below w.heap.size w w') : BMat w' base sv n rs M := h.frm (S := []) (Frm.below hb) (fun _ _ => by simp) (fun _ _ => by simp)
theorem BMat.far {S : List Nat} (h : BMat w base sv n rs M) (hf : Frm w w' S) (hs : ∀ g ∈ S, g < base) : BMat w' base sv n rs M :=
  h.frm hf (fun x hx hm => by have := (h.own.size x hx).1; have := hs x hm; omega) (fun r hr hm => by
    obtain ⟨i, hi⟩ := List.getElem?_of_mem hr
    have := ((h.row i r hi).size r rfl).1
    have := hs r hm
    omega)
theorem BMat.low (h : BMat w base sv n rs M) {b : Nat} (hb : b ≤ base) : BMat w b sv n rs M := ⟨h.own.low hb, fun i r hr => (h.row i r hr).low hb, h.off, h.nd⟩
theorem BMat.congr (h : BMat w base sv n rs M) {M' : Nat → Nat → Bool} (e : ∀ i, i < rs.length → ∀ j, j < n → M i j = M' i j) : BMat w base sv n rs M' :=
  ⟨h.own, fun i r hr => by rw [← bl_congr (e i (List.getElem?_eq_some_iff.1 hr).1)]; exact h.row i r hr, h.off, h.nd⟩
theorem BMat.bit (h : BMat w base sv n rs M) {i r j : Nat} (hr : rs[i]? = some r) (hj : j < n) : w.cell? ⟨r, j, none⟩ = some (.bool (M i j)) := (h.row i r hr).cellAt (bl_get (M i) hj)
theorem BMat.free (h : BMat w base sv n rs M) {i r : Nat} (hr : rs[i]? = some r) (j : Nat) : w.frozen? ⟨r, j, none⟩ = false := (h.row i r hr).freeAt j
theorem BMat.head {A : Option Addr} {k c : Nat} (h : BMat w base (.slice A k c) n rs M) {i r : Nat} (hr : rs[i]? = some r) : ∃ D, A = some ⟨D, 0, none⟩ ∧ w.cell? ⟨D, i, none⟩ = some (.slice (some ⟨r, 0, none⟩) n n) := by
  have hi := (List.getElem?_eq_some_iff.1 hr).1
  obtain ⟨D, c', e, -, -, -, -⟩ := h.own.form (by rw [rowsV_len]; omega)
  injection e with e1 e2 e3
  subst e1
  exact ⟨D, rfl, h.own.cellAt (rowsV_get hr)⟩
theorem BMat.set (h : BMat w base sv n rs M) {i r : Nat} (hr : rs[i]? = some r) (j : Nat) (b : Bool) {M' : Nat → Nat → Bool} (e1 : M' i j = b) (e2 : ∀ a c, ¬ (a = i ∧ c = j) → M' a c = M a c) : BMat (w.setCell ⟨r, j, none⟩ (.bool b)) base sv n rs M' := by
  have hf : Frm w (w.setCell ⟨r, j, none⟩ (.bool b)) [r] := (Frm.refl _ _).setCell _ _ (.inl (by simp))
  refine ⟨h.own.frm hf (fun x hx hm => h.off r (List.mem_of_getElem? hr) (by rw [hx, List.mem_singleton.1 hm])), fun a s hs => ?_, h.off, h.nd⟩
  by_cases ea : a = i
  · subst ea
    rw [hr] at hs
    injection hs with hs
    subst hs
    have := (h.row a r hr).set j (.bool b)
    rw [bl_set (g := M' a) e1 (fun c hc => e2 a c (fun q => hc q.2))] at this
    exact this
  · have e : M' a = M a := funext fun c => e2 a c (fun q => ea q.1)
    rw [e]
    refine (h.row a s hs).frm hf (fun x hx hm => ea ?_)
    have e1 : s = x := by simpa [Value.ownBlock] using hx
    have e2 : x = r := List.mem_singleton.1 hm
    subst e2
    subst e1
    exact nodup_get h.nd hs hr
/-- A further row, appended. -/
theorem BMat.push (h : BMat w base sv n rs M) {sv' : Value} {r : Nat} {f : Nat → Bool} (hf : Frm w w' sv.ownBlock.toList) (ho : OwnV w' base 32 sv' (rowsV n rs ++ [.slice (some ⟨r, 0, none⟩) n n])) (hr : OwnV w base 4 (.slice (some ⟨r, 0, none⟩) n n) (bl n f)) (hb : sv'.ownBlock = sv.ownBlock ∨ ∀ x, sv'.ownBlock = some x → w.heap.size ≤ x) (hn : r ∉ rs) (hs : sv.ownBlock ≠ some r) (e : ∀ c, M rs.length c = f c) : BMat w' base sv' n (rs ++ [r]) M := by
  have hlt := (hr.size r rfl).2
  refine ⟨by simpa [rowsV] using ho, fun i s his => ?_, fun s hsm => ?_, ?_⟩
  · by_cases c : i < rs.length
    · rw [List.getElem?_append_left c] at his
      exact (h.row i s his).frm hf (fun x hx hm => h.off s (List.mem_of_getElem? his) (by
        have e1 : s = x := by simpa [Value.ownBlock] using hx
        rw [e1]; simpa using hm))
    · have hil := (List.getElem?_eq_some_iff.1 his).1
      rw [List.length_append, List.length_singleton] at hil
      obtain rfl : i = rs.length := by omega
      rw [List.getElem?_append_right (Nat.le_refl _), Nat.sub_self, List.getElem?_cons_zero] at his
      injection his with his
      subst his
      rw [show M rs.length = f from funext e]
      exact hr.frm hf (fun x hx hm => hs (by
        have e1 : r = x := by simpa [Value.ownBlock] using hx
        rw [e1]; simpa using hm))
  · have hsl : s < w.heap.size ∧ sv.ownBlock ≠ some s := by
      rcases List.mem_append.1 hsm with hsm | hsm
      · obtain ⟨i, hi⟩ := List.getElem?_of_mem hsm
        exact ⟨((h.row i s hi).size s rfl).2, h.off s hsm⟩
      · rw [List.mem_singleton.1 hsm]; exact ⟨hlt, hs⟩
    rcases hb with hb | hb
    · rw [hb]; exact hsl.2
    · intro c; have := hb s c; omega
  · refine List.nodup_append.2 ⟨h.nd, by simp, fun a ha b hb => ?_⟩
    rw [List.mem_singleton.1 hb]
    exact fun q => hn (q ▸ ha)
end
/-- Warshall's matrix within round k: the rows below i are done, and of row i the first j. -/
def wk (e : Nat → Nat → Bool) (k i j a b : Nat) : Bool := if a < i ∨ (a = i ∧ b < j) then wz e (k + 1) a b else wz e k a b
section
variable {e : Nat → Nat → Bool} {k i j n : Nat}
theorem wz_own (b : Nat) : wz e (k + 1) k b = wz e k k b := by
  simp only [wz]
  cases wz e k k b <;> simp
theorem wk_own (b : Nat) : wk e k i j k b = wz e k k b := by
  unfold wk
  split
  · exact wz_own b
  · rfl
theorem wk_at : wk e k i 0 i k = wz e k i k := by unfold wk; rw [if_neg (by omega)]
theorem wk_zero (a b : Nat) : wk e k 0 0 a b = wz e k a b := by unfold wk; rw [if_neg (by omega)]
theorem wk_end (a b : Nat) (ha : a < n) : wk e k n 0 a b = wz e (k + 1) a b := by unfold wk; rw [if_pos (.inl ha)]
theorem wk_row (a b : Nat) (hb : b < n) : wk e k i n a b = wk e k (i + 1) 0 a b := by
  unfold wk
  by_cases h : a < i + 1
  · rw [if_pos (by omega), if_pos (.inl h)]
  · rw [if_neg (by omega), if_neg (by omega)]
theorem wk_skip (h : wz e k i k = false) (a b : Nat) : wk e k i 0 a b = wk e k (i + 1) 0 a b := by
  unfold wk
  by_cases c : a = i
  · subst c
    rw [if_neg (by omega), if_pos (by omega)]
    simp [wz, h]
  · by_cases d : a < i
    · rw [if_pos (.inl d), if_pos (by omega)]
    · rw [if_neg (by omega), if_neg (by omega)]
theorem wk_hit (h : wz e k i k = true) (h2 : wz e k k j = true) : wk e k i (j + 1) i j = true := by
  unfold wk; rw [if_pos (.inr ⟨rfl, by omega⟩)]; simp [wz, h, h2]
theorem wk_other (a b : Nat) (h : ¬ (a = i ∧ b = j)) : wk e k i (j + 1) a b = wk e k i j a b := by
  unfold wk
  by_cases c : a < i ∨ a = i ∧ b < j
  · rw [if_pos c, if_pos (by omega)]
  · rw [if_neg c, if_neg (by omega)]
theorem wk_miss (h2 : wz e k k j = false) (a b : Nat) : wk e k i j a b = wk e k i (j + 1) a b := by
  by_cases c : a = i ∧ b = j
  · obtain ⟨rfl, rfl⟩ := c
    unfold wk
    rw [if_neg (by omega), if_pos (by omega)]
    simp [wz, h2]
  · exact (wk_other a b c).symm
end
end Go.Proofs.Ytakojoedifhcnaa

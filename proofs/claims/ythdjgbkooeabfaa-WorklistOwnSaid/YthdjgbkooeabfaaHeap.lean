/-
  The heap of layer 5 (worklist) behind its pointer: its comparison, and the exchange of two places.
-/
import Derived.Test.YthdjgbkooeabfaaHeapMath
import Derived.BigRegion
namespace Go.Proofs.Ythdjgbkooeabfaa
open Go.RowKit

/-- The numbers, what lies unused, the ranks. -/
def hcells (h : List Nat) (junk l : List Int) : Array Value := ((ints h ++ (junk ++ l)).map (Value.int .i64)).toArray
theorem hcells_get (h : List Nat) (junk l : List Int) (j : Nat) (x : Int) (e : (ints h ++ (junk ++ l))[j]? = some x) : (hcells h junk l)[j]? = some (.int .i64 x) := by
  unfold hcells
  rw [List.getElem?_toArray, List.getElem?_map, e]; rfl
theorem hcells_set (h : List Nat) (junk l : List Int) (j x : Nat) (hj : j < h.length) : (hcells h junk l).setIfInBounds j (.int .i64 (x : Int)) = hcells (h.set j x) junk l := by
  unfold hcells
  rw [List.setIfInBounds_toArray, ← List.map_set, List.set_append_left _ _ (by rw [ints_len]; exact hj)]
  simp [ints, List.map_set]
/-- The comparison as a value. -/
def fv (B : Nat) : Value := .func (.func 24) #[] #[.pointer (some ⟨B + 1, 0, none⟩)]

/-- THE STORE: h lies in block B, the ranks behind it; blocks B + 1 and B + 2 say where. -/
structure RawBy (w : World) (B n : Nat) (l : List Int) (h : List Nat) (junk : List Int) : Prop where
  arr : Whole w B 3 (hcells h junk l)
  box : Whole w (B + 1) 30 #[.slice (some ⟨B, n, none⟩) n n]
  self : Whole w (B + 2) 57 #[.slice (some ⟨B, 0, none⟩) h.length n, fv B]
  fit : h.length + junk.length = n
  rk : l.length = n
  lt : ∀ x ∈ h, x < n
  big : n ≤ 65536
def RawAt (w : World) (B n : Nat) (l : List Int) (h : List Nat) : Prop := ∃ junk, RawBy w B n l h junk
theorem RawAt.frm {w w' : World} {B n : Nat} {l : List Int} {h S : List Nat} (r : RawAt w B n l h) (hf : Frm w w' S) (h0 : B ∉ S) (h1 : B + 1 ∉ S) (h2 : B + 2 ∉ S) : RawAt w' B n l h := by
  obtain ⟨junk, a, b, c, d1, d2, d3, d4⟩ := r
  exact ⟨junk, a.frm hf h0, b.frm hf h1, c.frm hf h2, d1, d2, d3, d4⟩
theorem RawAt.drewN {w : World} {B n : Nat} {l : List Int} {h : List Nat} (r : RawAt w B n l h) (m : Nat) : RawAt (w.drewN m) B n l h := r.frm (S := []) ((Frm.refl w []).drewN m) (by simp) (by simp) (by simp)
theorem RawBy.item {w : World} {B n : Nat} {l : List Int} {h : List Nat} {junk : List Int} (r : RawBy w B n l h junk) {i : Nat} (hi : i < h.length) : w.cell? ⟨B, i, none⟩ = some (.int .i64 (nth h i : Nat)) := by
  rw [r.arr.cell]
  refine hcells_get _ _ _ _ _ ?_
  rw [List.getElem?_append_left (by rw [ints_len]; exact hi), ints_get, List.getElem?_eq_getElem hi, nth_get (List.getElem?_eq_getElem hi)]; rfl
theorem RawBy.rank {w : World} {B n : Nat} {l : List Int} {h : List Nat} {junk : List Int} (r : RawBy w B n l h junk) {x : Nat} (hx : x < n) : w.cell? ⟨B, n + x, none⟩ = some (.int .i64 (l.getD x 0)) := by
  rw [r.arr.cell]
  have hf := r.fit
  have hl := r.rk
  refine hcells_get _ _ _ _ _ ?_
  rw [List.getElem?_append_right (by rw [ints_len]; omega), ints_len, List.getElem?_append_right (by omega), show n + x - h.length - junk.length = x by omega, List.getElem?_eq_getElem (by omega), List.getD_eq_getElem?_getD, List.getElem?_eq_getElem (by omega)]; rfl
theorem RawBy.nth_lt {w : World} {B n : Nat} {l : List Int} {h : List Nat} {junk : List Int} (r : RawBy w B n l h junk) {i : Nat} (hi : i < h.length) : nth h i < n := by
  rw [nth_get (List.getElem?_eq_getElem hi)]
  exact r.lt _ (List.getElem_mem hi)
theorem RawAt.nth_lt {w : World} {B n : Nat} {l : List Int} {h : List Nat} (r : RawAt w B n l h) {i : Nat} (hi : i < h.length) : nth h i < n := by
  obtain ⟨junk, r⟩ := r
  exact r.nth_lt hi

/-- The comparison. -/
theorem before_any (w : World) (B n : Nat) (l : List Int) (h : List Nat) (r : RawAt w B n l h) (a b : Nat) (ha : a < n) (hb : b < n) :
    Calls Try.prog 24 #[.int .i64 a, .int .i64 b, .pointer (some ⟨B + 1, 0, none⟩)] w fun en w' => en = .returned (.bool (decide (Bef l a b))) ∧ ∃ m, w' = w.drewN m := by
  obtain ⟨junk, r⟩ := r
  have c0 := r.box.cell 0
  have ra := r.rank ha
  have rb := r.rank hb
  have ha' : (a : Int) < n := by omega
  have hb' : (b : Int) < n := by omega
  have h65 := r.big
  obtain ⟨a1, ha1⟩ : ∃ a1, a1 = l.getD a 0 := ⟨_, rfl⟩
  obtain ⟨b1, hb1⟩ : ∃ b1, b1 = l.getD b 0 := ⟨_, rfl⟩
  have e : decide (Bef l a b) = decide (a1 < b1 ∨ (a1 = b1 ∧ a < b)) := decide_eq_decide.2 (by unfold Bef; rw [← ha1, ← hb1])
  rw [e]
  rw [← ha1] at ra
  rw [← hb1] at rb
  clear r ha1 hb1 e
  by_cases h1 : a1 < b1
  · go_enter Try.func24, Try.ntmps24
    go_wp2_with fail
    go_quiet (fail)
    go_wp2_with fail
    go_ret
    exact ⟨by simp [h1], _, rfl⟩
  · have e1 : decide (a1 < b1) = false := decide_eq_false h1
    by_cases h2 : a1 = b1
    · have e2 : (a1 == b1) = true := by simpa using h2
      have H1 := hide h1
      have H2 := hide h2
      clear h1 h2
      by_cases h3 : a < b
      · go_enter Try.func24, Try.ntmps24
        go_wp2_with fail
        go_quiet (fail)
        go_wp2_with fail
        go_ret
        exact ⟨by simp [H2.out, h3], _, rfl⟩
      · have e5 : decide (a < b) = false := by simpa using h3
        go_enter Try.func24, Try.ntmps24
        go_wp2_with fail
        go_quiet (fail)
        go_wp2_with fail
        go_ret
        exact ⟨by simp [H2.out, h3], _, rfl⟩
    · have e2 : (a1 == b1) = false := by simpa using h2
      have H1 := hide h1
      have H2 := hide h2
      clear h1 h2
      go_enter Try.func24, Try.ntmps24
      go_wp2_with fail
      go_quiet (fail)
      go_wp2_with fail
      go_ret
      exact ⟨by simp [H1.out, H2.out], _, rfl⟩

theorem swap_any (w : World) (B n : Nat) (l : List Int) (h : List Nat) (r : RawAt w B n l h) (i j : Nat) (hi : i < h.length) (hj : j < h.length) (hij : i ≠ j) :
    Calls Try.prog 51 #[.pointer (some ⟨B + 2, 0, none⟩), .int .i64 i, .int .i64 j] w fun en w' => en = .returned (.tuple #[]) ∧ RawAt w' B n l (swap h i j) ∧ Frm w w' [B] := by
  obtain ⟨junk, r⟩ := r
  have c0 := r.self.cell 0
  have ci := r.item hi
  have cj := r.item hj
  have fi := r.arr.free i
  have fj := r.arr.free j
  have hi' : (i : Int) < h.length := by omega
  have hj' : (j : Int) < h.length := by omega
  have hfit := r.fit
  have h65 := r.big
  have hij' : ¬ j = i := fun e => hij e.symm
  have HR := hide r
  clear r
  go_enter Try.func51, Try.ntmps51
  go_wp2_with fail
  go_region
  go_wp2_with fail
  go_end0
  have r := HR.out
  refine ⟨rfl, ⟨junk, ?_, ?_, ?_, by rw [swap_len]; exact hfit, r.rk, fun x hx => r.lt x ((swap_perm hi hj).mem_iff.1 hx), h65⟩, (((Frm.refl w [B]).drewN 1).setCell _ _ (.inl (by simp))).setCell _ _ (.inl (by simp))⟩
  · unfold swap
    rw [← hcells_set _ _ _ _ _ (by rw [List.length_set]; exact hj), ← hcells_set _ _ _ _ _ hi]
    exact Whole.set (Whole.set (w := w.drewN 1) r.arr i _) j _
  · exact Whole.far (Whole.far (w := w.drewN 1) r.box (p := ⟨B, i, none⟩) (by show B + 1 ≠ B; omega) _) (p := ⟨B, j, none⟩) (by show B + 1 ≠ B; omega) _
  · rw [swap_len]
    exact Whole.far (Whole.far (w := w.drewN 1) r.self (p := ⟨B, i, none⟩) (by show B + 2 ≠ B; omega) _) (p := ⟨B, j, none⟩) (by show B + 2 ≠ B; omega) _
end Go.Proofs.Ythdjgbkooeabfaa

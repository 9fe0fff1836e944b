/-
  Layer 6 (digraph): Reachable, and what it hands to depthFirst.
-/
import Derived.Test.YtaehfohljblmoaaDfsReach
namespace Go.Proofs.Ytaehfohljblmoaa
open Go.RowKit

def bl (n : Nat) (f : Nat → Bool) : List Value := (List.range n).map fun i => .bool (f i)
theorem bl_len (n : Nat) (f : Nat → Bool) : (bl n f).length = n := by simp [bl]
theorem bl_get {n i : Nat} (f : Nat → Bool) (h : i < n) : (bl n f)[i]? = some (.bool (f i)) := by simp [bl, h]
theorem bl_set {n x : Nat} {f g : Nat → Bool} {b : Bool} (hb : g x = b) (hg : ∀ j, j ≠ x → g j = f j) : (bl n f).set x (.bool b) = bl n g := by
  apply List.ext_getElem?
  intro i
  by_cases hi : i < n
  · rw [bl_get g hi]
    by_cases e : x = i
    · subst e
      rw [List.getElem?_set_self (by rw [bl_len]; exact hi), hb]
    · rw [List.getElem?_set_ne e, bl_get f hi, hg i (fun h => e h.symm)]
  · rw [List.getElem?_eq_none (by rw [List.length_set, bl_len]; omega), List.getElem?_eq_none (by rw [bl_len]; omega)]
theorem bl_false (n : Nat) : bl n (fun _ => false) = List.replicate n (.bool false) := by
  apply List.ext_getElem <;> simp [bl]

/-- Who has been left is marked in a row behind the captured cell. -/
def MarkJ (n base cb rb : Nat) (F out : List Nat) (W : World) : Prop :=
  F = [cb, rb] ∧ cb ≠ rb ∧ Whole W cb 33 #[.slice (some ⟨rb, 0, none⟩) n n] ∧ OwnV W base 4 (.slice (some ⟨rb, 0, none⟩) n n) (bl n (fun i => decide (i ∈ out)))
theorem mark_leave (n base cb rb : Nat) (_hn : n ≤ 65536) : Leave n 31 (.pointer (some ⟨cb, 0, none⟩)) (MarkJ n base cb rb) := by
  refine ⟨fun F out W u hJ hu _ => ?_, fun F out W W' S hJ hf hs => ?_, fun F out W hJ x hx => ?_⟩
  · obtain ⟨rfl, hne, hc, ho⟩ := hJ
    have hu' : (u : Int) < n := by omega
    have c0 : W.cell? ⟨cb, 0, none⟩ = some (.slice (some ⟨rb, 0, none⟩) n n) := hc.cell 0
    have c1 : W.cell? ⟨rb, u, none⟩ = some (.bool (decide (u ∈ out))) := ho.cellAt (bl_get _ hu)
    have f1 : W.frozen? ⟨rb, u, none⟩ = false := ho.freeAt u
    have HZ := hide (And.intro hne (And.intro hc ho))
    clear hne hc ho
    go_enter Try.func31, Try.ntmps31
    go_wp2_with fail
    go_end0
    have hf : Frm W (W.setCell ⟨rb, u, none⟩ (.bool true)) [rb] := (Frm.refl W [rb]).setCell _ _ (.inl (by simp))
    have ho2 := HZ.out.2.2.set u (.bool true)
    rw [bl_set (g := fun i => decide (i ∈ out ++ [u])) (by simp) (fun j hj => by simp [hj])] at ho2
    refine ⟨rfl, [cb, rb], ⟨rfl, HZ.out.1, HZ.out.2.1.frm hf (by simp; exact HZ.out.1), ho2⟩, hf.mono (by simp), fun x hx => .inl hx⟩
  · obtain ⟨rfl, hne, hc, ho⟩ := hJ
    exact ⟨rfl, hne, hc.frm hf (hs cb (by simp)), ho.frm hf (fun x hx => by
      have e : x = rb := by simpa [Value.ownBlock] using hx.symm
      rw [e]; exact hs rb (by simp))⟩
  · obtain ⟨rfl, hne, hc, ho⟩ := hJ
    have h1 := hc.lt
    have h2 := (ho.size rb rfl).2
    rcases List.mem_cons.1 hx with rfl | hx
    · exact h1
    · rw [List.mem_singleton.1 hx]; exact h2

set_option maxRecDepth 100000 in
set_option maxHeartbeats 2000000 in
theorem reach_bad (A : Option Addr) (c : Nat) (g : List (List Int)) (v : Int) (w : World) (hg : RdL w A c g) (hbad : codeG g ≠ 0 ∨ ¬ (0 ≤ v ∧ v < g.length)) :
    Calls Try.prog 17 #[.agg #[.slice A g.length c], .int .i64 v] w fun en w' => en = .returned (.slice none 0 0) ∧ Below w.heap.size w w' := by
  have HA : Hid (Below w.heap.size w (w.alloc (.cells #[.slice A g.length c] 24))) := hide ((Below.refl _ _).alloc (Nat.le_refl _) _)
  have HG : Hid (RdL (w.alloc (.cells #[.slice A g.length c] 24)) A c g) := hide (hg.below' HA.out)
  have hx : (w.alloc (.cells #[.slice A g.length c] 24)).cell? ⟨w.heap.size, 0, none⟩ = some (.slice A g.length c) := by simp [go_sem]
  clear hg
  by_cases hc : codeG g = 0
  · have hv : decide (0 ≤ v ∧ v < (g.length : Int)) = false := decide_eq_false (hbad.resolve_left (fun h => h hc))
    have HC := check_any A c g _ HG.out
    rw [hc] at HC
    have HCh := hide HC
    clear HC hbad hc
    go_enter Try.func17, Try.ntmps17
    go_wp2_with fail
    refine HCh.out.mono ?_
    rintro en w2 ⟨rfl, hb⟩
    have hx2 : w2.cell? ⟨w.heap.size, 0, none⟩ = some (.slice A g.length c) := (hb.cell (p := ⟨w.heap.size, 0, none⟩) (lt_of_cell hx)).trans hx
    have HB : Hid (Below w.heap.size w w2) := hide (HA.out.trans (hb.mono HA.out.size))
    clear hb HCh hx
    go_wp2_with fail
    refine (isNode_any _ _ _ _ _).mono ?_
    rintro en w3 ⟨rfl, hb⟩
    have HB3 : Hid (Below w.heap.size w w3) := hide (HB.out.trans (hb.mono HB.out.size))
    rw [hv]
    clear hb hx2 HB hv
    go_wp2_with fail
    go_ret
    exact ⟨rfl, HB3.out⟩
  · have hc' : (codeG g == 0) = false := by simpa using hc
    clear hbad
    go_enter Try.func17, Try.ntmps17
    go_wp2_with fail
    refine (check_any _ _ _ _ HG.out).mono ?_
    rintro en w2 ⟨rfl, hb⟩
    have HB : Hid (Below w.heap.size w w2) := hide (HA.out.trans (hb.mono HA.out.size))
    clear hb hx
    go_wp2_with fail
    go_ret
    exact ⟨rfl, HB.out⟩

set_option maxRecDepth 100000 in
set_option maxHeartbeats 2000000 in
theorem reach_any (A : Option Addr) (c : Nat) (g : List (List Int)) (v : Nat) (w : World) (hg : RdL w A c g) (hok : codeG g = 0) (hv : v < g.length) :
    Calls Try.prog 17 #[.agg #[.slice A g.length c], .int .i64 (v : Nat)] w fun en w' => (∃ D, en = .returned (.slice (some ⟨D, 0, none⟩) g.length g.length) ∧ OwnV w' w.heap.size 4 (.slice (some ⟨D, 0, none⟩) g.length g.length) (bl g.length (fun i => decide (i ∈ post g v)))) ∧ Below w.heap.size w w' := by
  have HA : Hid (Below w.heap.size w (w.alloc (.cells #[.slice A g.length c] 24))) := hide ((Below.refl _ _).alloc (Nat.le_refl _) _)
  have HG : Hid (RdL (w.alloc (.cells #[.slice A g.length c] 24)) A c g) := hide (hg.below' HA.out)
  have hx : (w.alloc (.cells #[.slice A g.length c] 24)).cell? ⟨w.heap.size, 0, none⟩ = some (.slice A g.length c) := by simp [go_sem]
  have hN := (code_ok hok).2
  have HK := hide (code_ok hok).1
  have hv' : decide (0 ≤ (v : Int) ∧ (v : Int) < (g.length : Int)) = true := decide_eq_true (by omega)
  have HC := check_any A c g _ HG.out
  rw [hok] at HC
  have HCh := hide HC
  clear hg HC hok
  go_enter Try.func17, Try.ntmps17
  go_wp2_with fail
  refine HCh.out.mono ?_
  rintro en w2 ⟨rfl, hb⟩
  have hx2 : w2.cell? ⟨w.heap.size, 0, none⟩ = some (.slice A g.length c) := (hb.cell (p := ⟨w.heap.size, 0, none⟩) (lt_of_cell hx)).trans hx
  have HB : Hid (Below w.heap.size w w2) := hide (HA.out.trans (hb.mono HA.out.size))
  have HG2 := hide (HG.out.below' hb)
  clear hb HCh hx HG HA
  go_wp2_with fail
  refine (isNode_any _ _ _ _ _).mono ?_
  rintro en w3 ⟨rfl, hb⟩
  have HB3 : Hid (Below w.heap.size w w3) := hide (HB.out.trans (hb.mono HB.out.size))
  have HG3 := hide (HG2.out.below' hb)
  have hx3 : w3.cell? ⟨w.heap.size, 0, none⟩ = some (.slice A g.length c) := (hb.cell (p := ⟨w.heap.size, 0, none⟩) (lt_of_cell hx2)).trans hx2
  rw [hv']
  clear hb hx2 HB hv' HG2
  have hmk := run_made w3 33 4 (.bool false) 1 Try.underlying33 infoBool rfl (by omega) g.length (by omega)
  obtain ⟨w5, hw5⟩ : ∃ x, (w3.alloc (.cells (madeCells #[.bool false] g.length) 4)).alloc (.cells #[.slice (some ⟨w3.heap.size, 0, none⟩) g.length g.length] 33) = x := ⟨_, rfl⟩
  have hs5 : w5.heap.size = w3.heap.size + 2 := by rw [← hw5, World.size_alloc, World.size_alloc]
  have hf5 : Frm w3 w5 [] := by rw [← hw5]; exact ((Frm.refl w3 []).alloc _).alloc _
  have HJ : Hid (MarkJ g.length w3.heap.size (w3.heap.size + 1) w3.heap.size [w3.heap.size + 1, w3.heap.size] [] w5) := hide (by
    refine ⟨rfl, by omega, ?_, ?_⟩
    · have := Whole.new (w3.alloc (.cells (madeCells #[.bool false] g.length) 4)) 33 #[.slice (some ⟨w3.heap.size, 0, none⟩) g.length g.length]
      rw [World.size_alloc, hw5] at this
      exact this
    · have := (own_madeV w3 4 (.bool false) g.length w3.heap.size (by unfold maxLen; omega) (Nat.le_refl _)).alloc (.cells #[.slice (some ⟨w3.heap.size, 0, none⟩) g.length g.length] 33)
      rw [hw5] at this
      have e : bl g.length (fun i => decide (i ∈ ([] : List Nat))) = List.replicate g.length (.bool false) := by rw [← bl_false]; simp
      rw [e]; exact this)
  have HG5 : Hid (∀ W, Frm w5 W [w3.heap.size + 1, w3.heap.size] → RdL W A c g) := hide fun W hW => HG3.out.below' (((hf5.mono (by simp)).trans hW |>.mono (T := []) (fun x hx => .inr (by simp at hx; omega))).toBelow (by simp) (Nat.le_refl _))
  have hx5 : w5.cell? ⟨w.heap.size, 0, none⟩ = some (.slice A g.length c) := (hf5.cell (p := ⟨w.heap.size, 0, none⟩) (lt_of_cell hx3) (by simp)).trans hx3
  have HF5 := hide hf5
  have HS5 := hide hs5
  clear hf5 hs5 HG3
  go_wp2_with fail
  refine (dfs_reach A c g w5 v _ _ (mark_leave g.length w3.heap.size (w3.heap.size + 1) w3.heap.size hN) HG5.out HK.out hN hv HJ.out).mono ?_
  rintro en w6 ⟨rfl, F', hJ, hf6, -⟩
  obtain ⟨rfl, -, hc, ho⟩ := hJ
  have c0 : w6.cell? ⟨w3.heap.size + 1, 0, none⟩ = some (.slice (some ⟨w3.heap.size, 0, none⟩) g.length g.length) := hc.cell 0
  have HZ : Hid (OwnV w6 w.heap.size 4 (.slice (some ⟨w3.heap.size, 0, none⟩) g.length g.length) (bl g.length (fun i => decide (i ∈ post g v))) ∧ Below w.heap.size w w6) := hide ⟨ho.low HB3.out.size, HB3.out.trans (((HF5.out.mono (by simp)).trans hf6).toBelow (fun x hx => by have := HB3.out.size; simp at hx; omega) HB3.out.size)⟩
  clear hc ho hf6 HJ hx3 hx5 hmk hw5
  go_wp2_with fail
  go_ret
  exact ⟨⟨w3.heap.size, rfl, HZ.out.1⟩, HZ.out.2⟩
end Go.Proofs.Ytaehfohljblmoaa

/-
  The reference's set of layer 3 (bitset) behind its pointer: ok, Cap, Has, Add, Remove, New, Of.
-/
import Derived.Test.YtbnikoomgeaboaaDoorNoneIter
namespace Go.Proofs.YtbnikoomgeaboaaDoor
open Go.RowKit

/-- Whether each number is an element, as cells. -/
def bl (n : Nat) (f : Nat → Bool) : List Value := (List.range n).map fun i => .bool (f i)
theorem bl_len (n : Nat) (f : Nat → Bool) : (bl n f).length = n := by simp [bl]
theorem bl_get {n i : Nat} (f : Nat → Bool) (h : i < n) : (bl n f)[i]? = some (.bool (f i)) := by simp [bl, h]
theorem bl_set {n x : Nat} {f g : Nat → Bool} {b : Bool} (hb : g x = b) (hg : ∀ j, j ≠ x → g j = f j) : (bl n f).set x (.bool b) = bl n g := by
  apply List.ext_getElem (by simp [bl])
  intro j h1 h2
  rw [List.getElem_set]
  by_cases e : x = j
  · subst e; simp [bl, hb]
  · simp [bl, e, hg j (fun h => e h.symm)]
theorem bl_congr {n : Nat} {f g : Nat → Bool} (h : ∀ j, j < n → f j = g j) : bl n f = bl n g := by
  unfold bl
  exact List.map_congr_left fun j hj => by rw [h j (List.mem_range.1 hj)]

/-- THE REFERENCE's SET in block R; its marks lie in a row of their own; F: the blocks that it uses. -/
def RAt (w : World) (L R n : Nat) (f : Nat → Bool) (F : List Nat) : Prop :=
  ∃ hv, Whole w R 55 #[.bool true, hv] ∧ OwnV w L 4 hv (bl n f) ∧ F = R :: hv.ownBlock.toList ∧ (∀ g, hv.ownBlock = some g → g ≠ R) ∧ L ≤ R ∧ n ≤ 65536
theorem RAt.frm {w w' : World} {L R n : Nat} {f : Nat → Bool} {F S : List Nat} (h : RAt w L R n f F) (hf : Frm w w' S) (hs : ∀ g ∈ F, g ∉ S) : RAt w' L R n f F := by
  obtain ⟨hv, h1, h2, rfl, h3⟩ := h
  exact ⟨hv, h1.frm hf (hs _ (by simp)), h2.frm hf (fun g hg => hs g (by simp [hg])), rfl, h3⟩
theorem RAt.low {w : World} {L R n : Nat} {f : Nat → Bool} {F : List Nat} (h : RAt w L R n f F) : ∀ g ∈ F, L ≤ g ∧ g < w.heap.size := by
  obtain ⟨hv, h1, h2, rfl, h3, h4, _⟩ := h
  have := h1.lt
  intro g hg
  simp only [List.mem_cons, Option.mem_toList] at hg
  rcases hg with rfl | hg
  · omega
  · have := h2.size g hg; omega
theorem RAt.congr {w : World} {L R n : Nat} {f g : Nat → Bool} {F : List Nat} (h : RAt w L R n f F) (e : ∀ j, j < n → f j = g j) : RAt w L R n g F := by
  obtain ⟨hv, h1, h2, h3⟩ := h
  rw [bl_congr e] at h2
  exact ⟨hv, h1, h2, h3⟩

section
variable (w : World) (L R n : Nat) (f : Nat → Bool) (F : List Nat) (h : RAt w L R n f F)
include h
theorem rok_set : Calls Tryd.prog 35 #[.pointer (some ⟨R, 0, none⟩)] w fun en w' => en = .returned (.bool true) ∧ w = w' := by
  obtain ⟨hv, h1, -⟩ := h
  have c0 := h1.cell 0
  clear h1
  go_enter Tryd.func35, Tryd.ntmps35
  go_wp2_with fail
  go_ret
  exact ⟨rfl, rfl⟩
theorem rcap_set : Calls Tryd.prog 42 #[.pointer (some ⟨R, 0, none⟩)] w fun en w' => en = .returned (.int .i64 n) ∧ w = w' := by
  have HV := hide (rok_set w L R n f F h)
  obtain ⟨hv, h1, h2, -, -, -, h65⟩ := h
  obtain ⟨A, c, rfl, hc, hm, -⟩ := h2.rd
  have hc9 : c ≤ 9223372036854775807 := by unfold maxLen at hm; omega
  rw [bl_len] at h1 hc
  have c1 := h1.cell 1
  clear h1 h2 hm
  go_enter Tryd.func42, Tryd.ntmps42
  go_wp2_with (go_at_call 35; refine HV.out.mono ?_; rintro en w' ⟨rfl, rfl⟩)
  go_ret
  exact ⟨rfl, rfl⟩
theorem rhas_set (i : Int) : Calls Tryd.prog 17 #[.pointer (some ⟨R, 0, none⟩), .int .i64 i] w fun en w' => en = .returned (.bool (decide (0 ≤ i ∧ i < n) && f i.toNat)) ∧ w = w' := by
  have HV := hide (rok_set w L R n f F h)
  obtain ⟨hv, h1, h2, -, -, -, h65⟩ := h
  obtain ⟨A, c, rfl, hc, hm, hr⟩ := h2.rd
  have hc9 : c ≤ 9223372036854775807 := by unfold maxLen at hm; omega
  rw [bl_len] at h1 hc hr
  have c1 := h1.cell 1
  by_cases h0 : i < 0
  · have h0' : ¬ (0 ≤ i) := by omega
    have e : (decide (0 ≤ i ∧ i < n) && f i.toNat) = false := by rw [decide_eq_false (fun h => h0' h.1)]; rfl
    rw [e]
    clear h1 h2 hm hr e
    go_enter Tryd.func17, Tryd.ntmps17
    go_wp2_with (go_at_call 35; refine HV.out.mono ?_; rintro en w' ⟨rfl, rfl⟩)
    go_ret
    exact ⟨by simp, rfl⟩
  · by_cases h3 : i < n
    · obtain ⟨k, rfl⟩ : ∃ k : Nat, i = k := ⟨i.toNat, by omega⟩
      have hk : k < n := by omega
      obtain ⟨b, off, rfl, hbl, hcell⟩ := hr (by omega)
      have ck := hcell k _ (bl_get f hk)
      have e : (decide (0 ≤ (k : Int) ∧ (k : Int) < n) && f (k : Int).toNat) = f k := by rw [decide_eq_true ⟨by omega, h3⟩]; simp
      rw [e]
      clear h1 h2 hm hr e hcell
      generalize f k = fk at ck ⊢
      go_enter Tryd.func17, Tryd.ntmps17
      go_wp2_with (go_at_call 35; refine HV.out.mono ?_; rintro en w' ⟨rfl, rfl⟩)
      go_ret
      exact ⟨by simp, rfl⟩
    · have h3' : ¬ (0 ≤ i ∧ i < n) := by omega
      have e : (decide (0 ≤ i ∧ i < n) && f i.toNat) = false := by rw [decide_eq_false h3']; rfl
      have h4 : 0 ≤ i := by omega
      have h5 : (n : Int) ≤ i := by omega
      rw [e]
      clear h1 h2 hm hr e h3'
      go_enter Tryd.func17, Tryd.ntmps17
      go_wp2_with (go_at_call 35; refine HV.out.mono ?_; rintro en w' ⟨rfl, rfl⟩)
      go_ret
      exact ⟨by simp, rfl⟩
end

/-- One mark turned. -/
theorem RAt.turn {w : World} {L R n : Nat} {f g : Nat → Bool} {F : List Nat} (h : RAt w L R n f F) {k : Nat} {b : Bool} (hk : k < n) (hb : g k = b) (hg : ∀ j, j ≠ k → g j = f j) :
    ∃ B c, w.cell? ⟨R, 1, none⟩ = some (.slice (some ⟨B, 0, none⟩) n c) ∧ n ≤ c ∧ c ≤ maxLen ∧ w.cell? ⟨B, k, none⟩ = some (.bool (f k)) ∧ w.frozen? ⟨B, k, none⟩ = false ∧ RAt (w.setCell ⟨B, k, none⟩ (.bool b)) L R n g F ∧ B ∈ F := by
  obtain ⟨hv, h1, h2, rfl, h3, h4, h5⟩ := h
  obtain ⟨B, c, rfl, hc, hm, hL, hlt⟩ := h2.form (by rw [bl_len]; omega)
  rw [bl_len] at *
  have hne : B ≠ R := h3 B rfl
  refine ⟨B, c, h1.cell 1, hc, hm, h2.cellAt (bl_get f hk), h2.freeAt k, ⟨_, h1.far (p := ⟨B, k, none⟩) (fun e => hne e.symm) _, ?_, rfl, h3, h4, h5⟩, by simp [Value.ownBlock]⟩
  have := h2.set k (.bool b)
  rw [bl_set hb hg] at this
  exact this

theorem radd_same (w : World) (L R n : Nat) (f : Nat → Bool) (F : List Nat) (h : RAt w L R n f F) (i : Int) (hi : i < 0 ∨ n ≤ i ∨ f i.toNat = true) :
    Calls Tryd.prog 13 #[.pointer (some ⟨R, 0, none⟩), .int .i64 i] w fun en w' => en = .returned (.bool false) ∧ w = w' := by
  have HV := hide (rok_set w L R n f F h)
  obtain ⟨hv, h1, h2, -, -, -, h65⟩ := h
  obtain ⟨A, c, rfl, hc, hm, hr⟩ := h2.rd
  have hc9 : c ≤ 9223372036854775807 := by unfold maxLen at hm; omega
  rw [bl_len] at h1 hc hr
  have c1 := h1.cell 1
  by_cases h0 : i < 0
  · clear h1 h2 hm hr hi
    go_enter Tryd.func13, Tryd.ntmps13
    go_wp2_with (go_at_call 35; refine HV.out.mono ?_; rintro en w' ⟨rfl, rfl⟩)
    go_ret
    exact ⟨rfl, rfl⟩
  · by_cases h3 : i < n
    · obtain ⟨k, rfl⟩ : ∃ k : Nat, i = k := ⟨i.toNat, by omega⟩
      have hk : k < n := by omega
      obtain ⟨b, off, rfl, hbl, hcell⟩ := hr (by omega)
      have ck := hcell k _ (bl_get f hk)
      have hfk : f k = true := by
        rcases hi with hi | hi | hi
        · omega
        · omega
        · simpa using hi
      rw [hfk] at ck
      clear h1 h2 hm hr hcell hi hfk
      go_enter Tryd.func13, Tryd.ntmps13
      go_wp2_with (go_at_call 35; refine HV.out.mono ?_; rintro en w' ⟨rfl, rfl⟩)
      go_ret
      exact ⟨rfl, rfl⟩
    · have h5 : (n : Int) ≤ i := by omega
      clear h1 h2 hm hr hi
      go_enter Tryd.func13, Tryd.ntmps13
      go_wp2_with (go_at_call 35; refine HV.out.mono ?_; rintro en w' ⟨rfl, rfl⟩)
      go_ret
      exact ⟨rfl, rfl⟩
theorem radd_new (w : World) (L R n : Nat) (f g : Nat → Bool) (F : List Nat) (h : RAt w L R n f F) (k : Nat) (hk : k < n) (hf : f k = false) (hg : ∀ j, g j = (decide (j = k) || f j)) :
    Calls Tryd.prog 13 #[.pointer (some ⟨R, 0, none⟩), .int .i64 k] w fun en w' => en = .returned (.bool true) ∧ RAt w' L R n g F ∧ Frm w w' F := by
  have HV := hide (rok_set w L R n f F h)
  obtain ⟨B, c, c1, hc, hm, ck, fk, hz, hBF⟩ := h.turn (g := g) (b := true) hk (by rw [hg]; simp) (fun j hj => by rw [hg]; simp [hj])
  have hc9 : c ≤ 9223372036854775807 := by unfold maxLen at hm; omega
  rw [hf] at ck
  have HZ := hide (And.intro hz (show Frm w (w.setCell ⟨B, k, none⟩ (.bool true)) F from (Frm.refl w F).setCell _ _ (.inl hBF)))
  have hk' : (k : Int) < n := by omega
  clear hz h hm hg hf hBF
  go_enter Tryd.func13, Tryd.ntmps13
  go_wp2_with (go_at_call 35; refine HV.out.mono ?_; rintro en w' ⟨rfl, rfl⟩)
  go_ret
  exact ⟨rfl, HZ.out⟩
theorem rremove_same (w : World) (L R n : Nat) (f : Nat → Bool) (F : List Nat) (h : RAt w L R n f F) (i : Int) (hi : (decide (0 ≤ i ∧ i < n) && f i.toNat) = false) :
    Calls Tryd.prog 15 #[.pointer (some ⟨R, 0, none⟩), .int .i64 i] w fun en w' => en = .returned (.bool false) ∧ w = w' := by
  have HH := hide (rhas_set w L R n f F h i)
  rw [hi] at HH
  clear h hi
  go_enter Tryd.func15, Tryd.ntmps15
  go_wp2_with (go_at_call 17; refine HH.out.mono ?_; rintro en w' ⟨rfl, rfl⟩)
  go_ret
  exact ⟨rfl, rfl⟩
theorem rremove_old (w : World) (L R n : Nat) (f g : Nat → Bool) (F : List Nat) (h : RAt w L R n f F) (k : Nat) (hk : k < n) (hf : f k = true) (hg : ∀ j, g j = (!decide (j = k) && f j)) :
    Calls Tryd.prog 15 #[.pointer (some ⟨R, 0, none⟩), .int .i64 k] w fun en w' => en = .returned (.bool true) ∧ RAt w' L R n g F ∧ Frm w w' F := by
  have HH := hide (rhas_set w L R n f F h k)
  have hk' : (k : Int) < n := by omega
  rw [decide_eq_true ⟨by omega, hk'⟩, Int.toNat_natCast, hf] at HH
  obtain ⟨B, c, c1, hc, hm, ck, fk, hz, hBF⟩ := h.turn (g := g) (b := false) hk (by rw [hg]; simp) (fun j hj => by rw [hg]; simp [hj])
  have hc9 : c ≤ 9223372036854775807 := by unfold maxLen at hm; omega
  have HZ := hide (And.intro hz (show Frm w (w.setCell ⟨B, k, none⟩ (.bool false)) F from (Frm.refl w F).setCell _ _ (.inl hBF)))
  rw [hf] at ck
  clear hz h hm hg hf hBF
  go_enter Tryd.func15, Tryd.ntmps15
  go_wp2_with (go_at_call 17; refine HH.out.mono ?_; rintro en w' ⟨rfl, rfl⟩)
  go_ret
  exact ⟨rfl, HZ.out⟩
end Go.Proofs.YtbnikoomgeaboaaDoor

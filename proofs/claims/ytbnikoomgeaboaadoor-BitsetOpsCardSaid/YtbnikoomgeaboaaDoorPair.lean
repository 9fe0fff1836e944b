/-
  A set and the reference's set side by side: each call on the one, then on the other, with the same answer. Layer 3 (bitset).
-/
import Derived.Test.YtbnikoomgeaboaaDoorSame
namespace Go.Proofs.YtbnikoomgeaboaaDoor
open Go.RowKit

/-- THE PAIR: both nil, or both made with the same elements; G: their blocks. -/
inductive Pr (w : World) (L : Nat) : Value → Value → Option (Nat × List Nat) → List Nat → Prop
  | none : Pr w L (.pointer none) (.pointer none) none []
  | some (B R M n : Nat) (ws F : List Nat) : SetAt w B n ws → RAt w M R n (bit ws) F → L ≤ B → L ≤ M → B ∉ F → B + 1 ∉ F →
      Pr w L (.pointer (some ⟨B + 1, 0, none⟩)) (.pointer (some ⟨R, 0, none⟩)) (some (n, ws)) (B :: (B + 1) :: F)
theorem Pr.frm {w w' : World} {L : Nat} {v u : Value} {o : Option (Nat × List Nat)} {G S : List Nat} (h : Pr w L v u o G) (hf : Frm w w' S) (hs : ∀ g ∈ G, g ∉ S) : Pr w' L v u o G := by
  cases h with
  | none => exact .none
  | some B R M n ws F h1 h2 h3 h4 h5 h6 => exact .some B R M n ws F (h1.frm hf (hs _ (by simp)) (hs _ (by simp))) (h2.frm hf (fun g hg => hs g (by simp [hg]))) h3 h4 h5 h6
theorem Pr.low {w : World} {L : Nat} {v u : Value} {o : Option (Nat × List Nat)} {G : List Nat} (h : Pr w L v u o G) : ∀ g ∈ G, L ≤ g ∧ g < w.heap.size := by
  cases h with
  | none => intro g hg; cases hg
  | some B R M n ws F h1 h2 h3 h4 h5 h6 =>
    intro g hg
    have := h1.lt
    simp only [List.mem_cons] at hg
    rcases hg with rfl | rfl | hg
    · omega
    · omega
    · have := h2.low g hg; omega

/-- What the second of two calls must answer. -/
def Then (w w' : World) (L : Nat) (f : FuncId) (args : Array Value) (v u : Value) (G : List Nat) (b : Bool) : Prop :=
  Calls Tryd.prog f args w' fun en w'' => en = .returned (.bool b) ∧ (∃ o, Pr w'' L v u o G) ∧ Frm w w'' G

theorem pair_has {w : World} {L : Nat} {v u : Value} {o : Option (Nat × List Nat)} {G : List Nat} (h : Pr w L v u o G) (i : Int) :
    Calls Tryd.prog 16 #[v, .int .i64 i] w fun en w' => ∃ b, en = .returned (.bool b) ∧ Frm w w' G ∧ Then w w' L 17 #[u, .int .i64 i] v u G b := by
  cases h with
  | none => exact (has_no w _ (.inl rfl) i).mono fun _ w' ⟨a, b⟩ => by subst b; exact ⟨false, a, Frm.refl _ _, (rhas_nil w i).mono fun _ _ ⟨c, d⟩ => by subst d; exact ⟨c, ⟨_, Pr.none⟩, Frm.refl _ _⟩⟩
  | some B R M n ws F h1 h2 h3 h4 h5 h6 =>
    refine (has_set w B n ws h1 i).mono fun _ w' ⟨a, b⟩ => ⟨_, a, b.mono (by simp), ?_⟩
    have h2' := h2.frm b (by simp)
    refine (rhas_set w' M R n _ F h2' i).mono fun _ w'' ⟨c, d⟩ => ?_
    subst d
    refine ⟨?_, ⟨_, Pr.some B R M n ws F (h1.frm b (by simp) (by simp)) h2' h3 h4 h5 h6⟩, b.mono (by simp)⟩
    rw [c]
    congr 2
    by_cases h0 : 0 ≤ i
    · by_cases h7 : i < n
      · rw [decide_eq_true ⟨h0, h7⟩, decide_eq_true h0]
      · rw [h1.2.2.1.top i.toNat (by omega), Bool.and_false, Bool.and_false]
    · rw [decide_eq_false h0, decide_eq_false (fun h => h0 h.1)]
theorem pair_add {w : World} {L : Nat} {v u : Value} {o : Option (Nat × List Nat)} {G : List Nat} (h : Pr w L v u o G) (i : Int) :
    Calls Tryd.prog 12 #[v, .int .i64 i] w fun en w' => ∃ b, en = .returned (.bool b) ∧ Frm w w' G ∧ Then w w' L 13 #[u, .int .i64 i] v u G b := by
  cases h with
  | none => exact (add_no w _ (.inl rfl) i).mono fun _ w' ⟨a, b⟩ => by subst b; exact ⟨false, a, Frm.refl _ _, (radd_nil w i).mono fun _ _ ⟨c, d⟩ => by subst d; exact ⟨c, ⟨_, Pr.none⟩, Frm.refl _ _⟩⟩
  | some B R M n ws F h1 h2 h3 h4 h5 h6 =>
    by_cases hold : i < 0 ∨ n ≤ i ∨ bit ws i.toNat = true
    · refine (add_same w B n ws h1 i hold).mono fun _ w' ⟨a, b⟩ => ⟨_, a, b.mono (by simp), ?_⟩
      have h2' := h2.frm b (by simp)
      exact (radd_same w' M R n _ F h2' i hold).mono fun _ w'' ⟨c, d⟩ => by subst d; exact ⟨c, ⟨_, Pr.some B R M n ws F (h1.frm b (by simp) (by simp)) h2' h3 h4 h5 h6⟩, b.mono (by simp)⟩
    · obtain ⟨k, rfl⟩ : ∃ k : Nat, i = k := ⟨i.toNat, by omega⟩
      have hk : k < n := by omega
      have hb : bit ws k = false := by
        cases hb : bit ws k with
        | false => rfl
        | true => exact absurd (.inr (.inr hb)) hold
      refine (add_new w B n ws h1 k hk hb).mono fun _ w' ⟨a, us, b, c, d⟩ => ⟨_, a, d.mono (fun g hg => .inl (by simp at hg; simp [hg])), ?_⟩
      have h2' := h2.frm d (fun g hg => by simp; rintro rfl; exact h5 hg)
      refine (radd_new w' M R n _ (bit us) F h2' k hk hb c).mono fun _ w'' ⟨e, f, g⟩ => ⟨e, ⟨_, Pr.some B R M n us F (b.frm g h5 h6) f h3 h4 h5 h6⟩, ?_⟩
      exact (d.mono (fun g hg => .inl (by simp at hg; simp [hg]))).trans (g.mono (fun g hg => .inl (by simp [hg])))
theorem pair_remove {w : World} {L : Nat} {v u : Value} {o : Option (Nat × List Nat)} {G : List Nat} (h : Pr w L v u o G) (i : Int) :
    Calls Tryd.prog 14 #[v, .int .i64 i] w fun en w' => ∃ b, en = .returned (.bool b) ∧ Frm w w' G ∧ Then w w' L 15 #[u, .int .i64 i] v u G b := by
  cases h with
  | none => exact (remove_no w _ (.inl rfl) i).mono fun _ w' ⟨a, b⟩ => by subst b; exact ⟨false, a, Frm.refl _ _, (rremove_nil w i).mono fun _ _ ⟨c, d⟩ => by subst d; exact ⟨c, ⟨_, Pr.none⟩, Frm.refl _ _⟩⟩
  | some B R M n ws F h1 h2 h3 h4 h5 h6 =>
    by_cases hold : i < 0 ∨ n ≤ i ∨ bit ws i.toNat = false
    · refine (remove_same w B n ws h1 i hold).mono fun _ w' ⟨a, b⟩ => ⟨_, a, b.mono (by simp), ?_⟩
      have h2' := h2.frm b (by simp)
      refine (rremove_same w' M R n _ F h2' i ?_).mono fun _ w'' ⟨c, d⟩ => by subst d; exact ⟨c, ⟨_, Pr.some B R M n ws F (h1.frm b (by simp) (by simp)) h2' h3 h4 h5 h6⟩, b.mono (by simp)⟩
      rcases hold with h7 | h7 | h7
      · rw [decide_eq_false (by omega)]; rfl
      · rw [decide_eq_false (by omega)]; rfl
      · rw [h7, Bool.and_false]
    · obtain ⟨k, rfl⟩ : ∃ k : Nat, i = k := ⟨i.toNat, by omega⟩
      have hk : k < n := by omega
      have hb : bit ws k = true := by
        cases hb : bit ws k with
        | true => rfl
        | false => exact absurd (.inr (.inr hb)) hold
      refine (remove_old w B n ws h1 k hk hb).mono fun _ w' ⟨a, us, b, c, d⟩ => ⟨_, a, d.mono (fun g hg => .inl (by simp at hg; simp [hg])), ?_⟩
      have h2' := h2.frm d (fun g hg => by simp; rintro rfl; exact h5 hg)
      refine (rremove_old w' M R n _ (bit us) F h2' k hk hb c).mono fun _ w'' ⟨e, f, g⟩ => ⟨e, ⟨_, Pr.some B R M n us F (b.frm g h5 h6) f h3 h4 h5 h6⟩, ?_⟩
      exact (d.mono (fun g hg => .inl (by simp at hg; simp [hg]))).trans (g.mono (fun g hg => .inl (by simp [hg])))
end Go.Proofs.YtbnikoomgeaboaaDoor

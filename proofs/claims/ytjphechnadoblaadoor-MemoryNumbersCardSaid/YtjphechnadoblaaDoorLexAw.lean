/-
  Layer 13 (lexer): rows of tokens as they are read; IsIdent; the chapter's examples.
-/
import Derived.Test.YtjphechnadoblaaDoorLexF
namespace Go.Proofs.YtjphechnadoblaaDoor
open Go.RowKit Go.ChangeShapes Go.WideShapes

/-- The slice value v reads as the tokens ts. -/
def RdT (w : World) (v : Value) (ts : List Tok) : Prop :=
  ∃ A c, v = .slice A ts.length c ∧ (0 < ts.length → ∃ b off, A = some ⟨b, off, none⟩ ∧ b < w.heap.size ∧
    ∀ i t, ts[i]? = some t → w.cell? ⟨b, off + i * 4, none⟩ = some (.int .i64 t.kind) ∧ w.cell? ⟨b, off + i * 4 + 1, none⟩ = some (.int .i64 (t.off : Int)) ∧ w.cell? ⟨b, off + i * 4 + 2, none⟩ = some (.int .i64 t.n) ∧ w.cell? ⟨b, off + i * 4 + 3, none⟩ = some (.string (Bs t.text)))
theorem flat_at : ∀ (ts : List Tok) (i : Nat) (t : Tok), ts[i]? = some t → ∀ j u, t.cells[j]? = some u → (ts.flatMap Tok.cells)[i * 4 + j]? = some u
  | [], i, t, h, _, _, _ => by simp at h
  | s :: r, 0, t, h, j, u, hu => by
    simp at h; subst h
    have hj : j < 4 := by
      rcases Nat.lt_or_ge j 4 with h | h
      · exact h
      · rw [List.getElem?_eq_none (by simpa [Tok.cells] using h)] at hu; cases hu
    rw [List.flatMap_cons, List.getElem?_append_left (by simp [Tok.cells]; omega), Nat.zero_mul, Nat.zero_add]
    exact hu
  | s :: r, i + 1, t, h, j, u, hu => by
    have := flat_at r i t (by simpa using h) j u hu
    rw [List.flatMap_cons, List.getElem?_append_right (by simp [Tok.cells]; omega)]
    rw [← this]; congr 1; simp [Tok.cells]; omega
theorem RdT.below {w w' : World} {v : Value} {ts : List Tok} (h : RdT w v ts) (hb : Below w.heap.size w w') : RdT w' v ts := by
  obtain ⟨A, c, e, hr⟩ := h
  refine ⟨A, c, e, fun hn => ?_⟩
  obtain ⟨b, off, e2, hlt, hc⟩ := hr hn
  refine ⟨b, off, e2, Nat.lt_of_lt_of_le hlt hb.size, fun i t ht => ?_⟩
  obtain ⟨a0, a1, a2, a3⟩ := hc i t ht
  exact ⟨(hb.cell (p := ⟨b, _, none⟩) hlt).trans a0, (hb.cell (p := ⟨b, _, none⟩) hlt).trans a1, (hb.cell (p := ⟨b, _, none⟩) hlt).trans a2, (hb.cell (p := ⟨b, _, none⟩) hlt).trans a3⟩
theorem OwnT.rd {w : World} {base : Nat} {e : TypeId} {v : Value} {ts : List Tok} (h : OwnT w base e v ts) : RdT w v ts := by
  have h' := h
  rcases h.2 with ⟨rfl, h0⟩ | ⟨g, cap, cur, rfl, hg⟩
  · exact ⟨none, 0, by rw [h0], fun hn => by omega⟩
  · refine ⟨_, cap, rfl, fun _ => ⟨g, 0, rfl, (World.ownsRow.lt h' g rfl).2, fun i t ht => ?_⟩⟩
    have key : ∀ j u, t.cells[j]? = some u → w.cell? ⟨g, 0 + i * 4 + j, none⟩ = some u := fun j u hu => by
      have := World.ownsRow.cells h' (g := g) rfl (i * 4 + j) u (flat_at ts i t ht j u hu)
      rw [add_plain] at this
      rw [Nat.add_assoc]; exact this
    exact ⟨key 0 _ rfl, key 1 _ rfl, key 2 _ rfl, key 3 _ rfl⟩

set_option maxRecDepth 100000 in
theorem isIdent_any (l : List UInt8) (hm : l.length ≤ 1000000) (w : World) : Calls Tryd.prog 69 #[.string (Bs l)] w fun e w' => e = .returned (.bool (!l.isEmpty && decide (l.length ≤ 24) && decide (identLen l = l.length))) ∧ Below w.heap.size w w' := by
  have hlen := lenS l (by unfold maxLen; omega)
  have hI := identLength_any l hm
  have hT := Bs_toList
  have hB := Below.refl w.heap.size w
  obtain ⟨m, hmn⟩ : ∃ m, identLen l = m := ⟨_, rfl⟩
  rw [hmn] at hI ⊢
  have hm0 : l = [] → m = 0 := by rintro rfl; rw [← hmn]; rfl
  clear hmn
  by_cases h0 : l = []
  · subst h0
    go_enter Tryd.func69, Tryd.ntmps69
    go_wp2
    go_ret
    exact ⟨rfl, hB⟩
  have h1 : l.isEmpty = false := by simpa using h0
  by_cases h24 : (l.length : Int) ≤ 24
  · have h25 : l.length ≤ 24 := by omega
    clear hm0
    go_enter Tryd.func69, Tryd.ntmps69
    go_wp2_with (go_at_call 95; refine (hI _).mono ?_; rintro en w' ⟨rfl, hb⟩)
    go_ret
    refine ⟨?_, hb⟩
    simp [h1, h25, Bool.beq_eq_decide_eq]
    omega
  · have h25 : ¬ l.length ≤ 24 := by omega
    clear hm0
    go_enter Tryd.func69, Tryd.ntmps69
    go_wp2
    go_ret
    exact ⟨by simp, hB⟩
end Go.Proofs.YtjphechnadoblaaDoor

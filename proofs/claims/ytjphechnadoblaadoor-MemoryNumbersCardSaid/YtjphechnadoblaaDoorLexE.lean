/-
  Layer 13 (lexer): firstToken of the program.
-/
import Derived.Test.YtjphechnadoblaaDoorLexD
namespace Go.Proofs.YtjphechnadoblaaDoor
open Go.RowKit

theorem bel {q : Nat} {w a b : World} {T : TypeId} {cs : Array Value} (h : Below q w a) (hW : Whole a q T cs) (hb : Below a.heap.size a b) : Below q w b := h.trans (hb.mono (Nat.le_of_lt hW.lt))
theorem cells4 {w : World} {g : Nat} {T : TypeId} {a b c d : Value} (h : Whole w g T #[a, b, c, d]) :
    w.cell? ⟨g, 0, none⟩ = some a ∧ w.cell? ⟨g, 1, none⟩ = some b ∧ w.cell? ⟨g, 2, none⟩ = some c ∧ w.cell? ⟨g, 3, none⟩ = some d ∧
    w.frozen? ⟨g, 0, none⟩ = false ∧ w.frozen? ⟨g, 1, none⟩ = false ∧ w.frozen? ⟨g, 2, none⟩ = false ∧ w.frozen? ⟨g, 3, none⟩ = false :=
  ⟨h.cell 0, h.cell 1, h.cell 2, h.cell 3, h.free 0, h.free 1, h.free 2, h.free 3⟩
theorem below4 {q : Nat} {w a : World} (h : Below q w a) (v0 v1 v2 v3 : Value) : Below q w ((((a.setCell ⟨q, 0, none⟩ v0).setCell ⟨q, 1, none⟩ v1).setCell ⟨q, 2, none⟩ v2).setCell ⟨q, 3, none⟩ v3) :=
  (((h.setCell (p := ⟨q, 0, none⟩) (Nat.le_refl _) v0).setCell (p := ⟨q, 1, none⟩) (Nat.le_refl _) v1).setCell (p := ⟨q, 2, none⟩) (Nat.le_refl _) v2).setCell (p := ⟨q, 3, none⟩) (Nat.le_refl _) v3

theorem minus_take {l : List UInt8} {n : Nat} (h : 0 < n) : minus (l.take n) = minus l := by
  obtain ⟨k, rfl⟩ : ∃ k, n = k + 1 := ⟨n - 1, by omega⟩
  cases l <;> rfl
theorem cut_take {l : List UInt8} {n : Nat} (h : 0 < n) : cut (l.take n) = (cut l).take (if minus l then n - 1 else n) := by
  unfold cut
  rw [minus_take h]
  obtain ⟨k, rfl⟩ : ∃ k, n = k + 1 := ⟨n - 1, by omega⟩
  cases hm : minus l
  · simp
  · cases l <;> simp
theorem span_take {p : UInt8 → Bool} : ∀ (l : List UInt8), span p (l.take (span p l)) = span p l
  | [] => rfl
  | c :: r => by
    rw [span_cons]
    cases hc : p c
    · rfl
    · simp only [if_true, List.take_succ_cons, span_cons, hc, span_take r]
/-- The integer at the front is an integer. -/
theorem int_take {l : List UInt8} (h : intLen l ≠ 0) : intLen (l.take (intLen l)) = intLen l ∧ (l.take (intLen l)).length = intLen l := by
  have hle := intLen_le l
  refine ⟨?_, by rw [List.length_take]; omega⟩
  obtain ⟨n, hn⟩ : ∃ n, intLen l = n := ⟨_, rfl⟩
  rw [hn] at h ⊢
  have hc := cut_take (l := l) (n := n) (by omega)
  have hm := minus_take (l := l) (n := n) (by omega)
  have hk : (if minus l then n - 1 else n) = digLen (cut l) := by
    rw [← hn]; unfold intLen at hn ⊢
    cases hx : minus l <;> simp [hx] at hn ⊢
    split at hn
    · rename_i h0; simp [h0]
    · rename_i h0; omega
  rw [hk] at hc
  have hd : digLen (cut (l.take n)) = digLen (cut l) := by rw [hc]; exact span_take _
  rw [← hn]
  unfold intLen at hn ⊢
  rw [hn, hd, hm, hn]
theorem int_take_cut {l : List UInt8} (h : intLen l ≠ 0) : cut (l.take (intLen l)) ≠ [] := by
  obtain ⟨h1, h2⟩ := int_take h
  exact (int_digits (l := l.take (intLen l)) (by rw [h1]; exact h) (by rw [h1, h2])).1

/-- What firstToken answers: the token's cells, its bytes, its error. -/
def ftCells (l : List UInt8) : Array Value := if tokE l = 0 then #[.int .i64 (tokK l), .int .i64 0, .int .i64 (tokN l), .string (Bs (tokT l))] else #[.int .i64 0, .int .i64 0, .int .i64 0, .string (Bs [])]
def ftLen (l : List UInt8) : Int := if tokE l = 0 then tokLen l else 0

end Go.Proofs.YtjphechnadoblaaDoor

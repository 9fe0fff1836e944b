/-
  Layer 13 (lexer): the scan's steps, and rows of tokens.
-/
import Derived.Test.YtjphechnadoblaaDoorLexE
namespace Go.Proofs.YtjphechnadoblaaDoor
open Go.RowKit

/-- What tokens and the rest of a scan come to. -/
def joinT (ts : List Tok) (x : List Tok × Nat × Int) : List Tok × Nat × Int := if x.2.2 = 0 then (ts ++ x.1, x.2) else ([], x.2)
theorem joinT_join (ts : List Tok) (t : Tok) (x : List Tok × Nat × Int) : joinT ts (joinT [t] x) = joinT (ts ++ [t]) x := by
  unfold joinT
  by_cases h : x.2.2 = 0 <;> simp [h]
theorem joinT_nil (x : List Tok × Nat × Int) (h : x.2.2 ≠ 0 → x.1 = []) : joinT [] x = x := by
  unfold joinT
  by_cases hx : x.2.2 = 0
  · simp [hx]
  · rw [if_neg hx, ← h hx]
theorem scan_err_nil : ∀ (n : Nat) (l : List UInt8) (i k : Nat), (scan n l i k).2.2 ≠ 0 → (scan n l i k).1 = []
  | 0, _, _, _, h => absurd rfl h
  | _ + 1, [], _, _, h => absurd rfl h
  | n + 1, c :: r, i, k, h => by
    unfold scan at h ⊢
    split
    · rename_i hb
      rw [if_pos hb] at h
      exact scan_err_nil n r _ _ h
    · rename_i hb
      rw [if_neg hb] at h
      split
      · rfl
      · rename_i hk
        rw [if_neg hk] at h
        split
        · rename_i he
          rw [if_pos he] at h
          dsimp only at h ⊢
          split
          · rename_i h0; rw [if_pos h0] at h; exact absurd h0 h
          · rfl
        · rfl
/-- The scan's state at offset i, tokens ts before it. -/
def At (l : List UInt8) (i : Nat) (ts : List Tok) : Prop := i ≤ l.length ∧ ts.length ≤ 20000 ∧ ∃ n, l.length - i ≤ n ∧ joinT ts (scan n (l.drop i) i ts.length) = scan l.length l 0 0
theorem At.start (l : List UInt8) : At l 0 [] := ⟨Nat.zero_le _, by simp, l.length, by omega, by
  rw [List.drop_zero, List.length_nil]
  exact joinT_nil _ (scan_err_nil _ _ _ _)⟩
theorem drop_at {l : List UInt8} {i : Nat} {c : UInt8} (hc : l[i]? = some c) : l.drop i = c :: l.drop (i + 1) := by
  obtain ⟨hlt, rfl⟩ := List.getElem?_eq_some_iff.1 hc
  exact List.drop_eq_getElem_cons hlt
theorem At.blank {l : List UInt8} {i : Nat} {ts : List Tok} {c : UInt8} (h : At l i ts) (hc : l[i]? = some c) (hb : isBl c = true) : At l (i + 1) ts := by
  obtain ⟨hi, hk, n, hn, e⟩ := h
  have hlt := (List.getElem?_eq_some_iff.1 hc).1
  obtain ⟨m, rfl⟩ : ∃ m, n = m + 1 := ⟨n - 1, by omega⟩
  rw [drop_at hc, scan, if_pos hb] at e
  exact ⟨by omega, hk, m, by omega, e⟩
theorem At.full {l : List UInt8} {i : Nat} {ts : List Tok} {c : UInt8} (h : At l i ts) (hc : l[i]? = some c) (hb : isBl c = false) (hk : ts.length = 20000) : scan l.length l 0 0 = ([], i, 11) := by
  obtain ⟨hi, _, n, hn, e⟩ := h
  have hlt := (List.getElem?_eq_some_iff.1 hc).1
  obtain ⟨m, rfl⟩ : ∃ m, n = m + 1 := ⟨n - 1, by omega⟩
  rw [drop_at hc, scan, if_neg (by simp [hb]), if_pos hk] at e
  rw [← e]; rfl
theorem At.err {l : List UInt8} {i : Nat} {ts : List Tok} {c : UInt8} (h : At l i ts) (hc : l[i]? = some c) (hb : isBl c = false) (hk : ts.length ≠ 20000) (he : tokE (l.drop i) ≠ 0) : scan l.length l 0 0 = ([], i, tokE (l.drop i)) := by
  obtain ⟨hi, _, n, hn, e⟩ := h
  have hlt := (List.getElem?_eq_some_iff.1 hc).1
  obtain ⟨m, rfl⟩ : ∃ m, n = m + 1 := ⟨n - 1, by omega⟩
  rw [drop_at hc] at he ⊢
  rw [drop_at hc, scan, if_neg (by simp [hb]), if_neg hk, if_neg he] at e
  rw [← e]; simp [joinT, he]
theorem At.token {l : List UInt8} {i : Nat} {ts : List Tok} {c : UInt8} (h : At l i ts) (hc : l[i]? = some c) (hb : isBl c = false) (hk : ts.length ≠ 20000) (he : tokE (l.drop i) = 0) :
    At l (i + tokLen (l.drop i)) (ts ++ [tokAt (l.drop i) i]) ∧ 0 < tokLen (l.drop i) ∧ i + tokLen (l.drop i) ≤ l.length := by
  obtain ⟨hi, hk2, n, hn, e⟩ := h
  have hlt := (List.getElem?_eq_some_iff.1 hc).1
  obtain ⟨m, rfl⟩ : ∃ m, n = m + 1 := ⟨n - 1, by omega⟩
  have h1 := tokLen_pos he
  have h2 : tokLen (l.drop i) ≤ (l.drop i).length := tokLen_le (by rw [drop_at hc]; simp)
  rw [List.length_drop] at h2
  refine ⟨⟨by omega, by simp; omega, m, by omega, ?_⟩, h1, by omega⟩
  obtain ⟨d, hd⟩ : ∃ d, l.drop i = d := ⟨_, rfl⟩
  have hdr : l.drop (i + tokLen d) = d.drop (tokLen d) := by rw [← hd, List.drop_drop]
  rw [hd] at he e ⊢
  rw [hdr, ← joinT_join, List.length_append]
  rw [drop_at hc] at hd
  subst hd
  rw [scan, if_neg (by simp [hb]), if_neg hk, if_pos he] at e
  exact e
theorem At.done {l : List UInt8} {ts : List Tok} (h : At l l.length ts) : scan l.length l 0 0 = (ts, 0, 0) := by
  obtain ⟨_, _, n, _, e⟩ := h
  rw [List.drop_length] at e
  rw [← e]
  cases n <;> simp [scan, joinT]

/-- The slice value v is a row of tokens of the call's own. -/
def OwnT (w : World) (base : Nat) (e : TypeId) (v : Value) (ts : List Tok) : Prop := w.ownsRow base e 4 v ts.length (ts.flatMap Tok.cells)
section
variable {w w' : World} {base : Nat} {e : TypeId} {v : Value} {ts : List Tok}
theorem OwnT.nil : OwnT w base e (.slice none 0 0) [] := World.ownsRow_nil _ _ _ _
theorem OwnT.form (h : OwnT w base e v ts) : ∃ A cap, v = .slice A ts.length cap := by
  rcases h.2 with ⟨rfl, h0⟩ | ⟨g, cap, cur, rfl, _⟩
  · exact ⟨none, 0, by rw [h0]⟩
  · exact ⟨_, _, rfl⟩
theorem OwnT.below' (h : OwnT w base e v ts) (hb : Below w.heap.size w w') : OwnT w' base e v ts :=
  World.ownsRow.kept (row := none) h ⟨hb.os, hb.tape, hb.output, hb.size, fun i hi _ => hb.block i hi⟩ (by
    cases hv : v.ownBlock with
    | none => exact .inl rfl
    | some g => exact .inr (by simp))
theorem OwnT.alloc (h : OwnT w base e v ts) (o : Obj) : OwnT (w.alloc o) base e v ts := World.ownsRow.alloc h o
theorem OwnT.snoc {t : Tok} {n : Nat} (h : w'.ownsRow base e 4 v n (ts.flatMap Tok.cells ++ t.cells)) (hn : n = ts.length + 1) : OwnT w' base e v (ts ++ [t]) := by
  unfold OwnT
  rw [List.length_append, List.flatMap_append]
  subst hn
  simpa using h
end

theorem new4 (w : World) (g : Nat) (hg : w.heap.size = g) (T : TypeId) (a b c d : Value) (j : Nat) (u : Value) (h : [a, b, c, d][j]? = some u) : (w.alloc (.cells #[a, b, c, d] T)).cell? ((⟨g, 0, none⟩ : Addr).add j) = some u := by
  subst hg
  have hw := Whole.new w T #[a, b, c, d]
  match j, h with
  | 0, h => simp at h; subst h; exact hw.cell 0
  | 1, h => simp at h; subst h; exact hw.cell 1
  | 2, h => simp at h; subst h; exact hw.cell 2
  | 3, h => simp at h; subst h; exact hw.cell 3
  | j + 4, h => simp at h
theorem one4 (a b c : Int) (s : ByteArray) : ∀ u ∈ [Value.int .i64 a, .int .i64 b, .int .i64 c, .string s], u.oneCell' = true := by
  intro u hu
  simp only [List.mem_cons, List.not_mem_nil, or_false] at hu
  rcases hu with rfl | rfl | rfl | rfl <;> rfl

/-- '[]byte(s)' and back: the same bytes. -/
theorem strNums (l : List UInt8) : Bs l = strOfNums (l.map fun c => (c.toNat : Int)) := by
  unfold Bs strOfNums
  congr 2
  rw [List.map_map]
  conv => lhs; rw [← List.map_id l]
  apply List.map_congr_left
  intro c _
  simp
theorem copy_str (l : List UInt8) (hl : l.length ≤ maxLen) (w : World) : ∃ v w', (convert 9 54 (.string (Bs l))).run Tryd.prog w = .ok v w' ∧ Below w.heap.size w w' ∧
    ∀ W, Below w'.heap.size w' W → (convert 54 9 v).run Tryd.prog W = .ok (.string (Bs l)) W := by
  rw [strNums]
  obtain ⟨cap, w', h1, h2, h3, _⟩ := run_bytes_buf (P := Tryd.prog) w 9 54 5 (l.map fun c => (c.toNat : Int))
    (fun z hz => by
      simp only [List.mem_map] at hz
      obtain ⟨c, _, rfl⟩ := hz
      have := c.toNat_lt
      omega) (by simpa using hl) Tryd.underlying9 Tryd.underlying54 Tryd.underlying5
  refine ⟨_, w', h1, h3.toBelow (fun _ h => by cases h) (Nat.le_refl _), fun W hW => ?_⟩
  exact run_convert_rd W 54 9 5 Tryd.underlying54 Tryd.underlying5 Tryd.underlying9 (h2.rd.below' hW)
end Go.Proofs.YtjphechnadoblaaDoor

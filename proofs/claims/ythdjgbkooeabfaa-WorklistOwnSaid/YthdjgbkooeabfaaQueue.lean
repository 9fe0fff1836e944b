/-
  A queue of layer 5 (worklist) behind its pointer: the marks of what it holds, and what does not hang on its order.
-/
import Derived.Test.YthdjgbkooeabfaaRing
namespace Go.Proofs.Ythdjgbkooeabfaa
open Go.RowKit

/-- The marks as cells. -/
def bcells (n : Nat) (q : List Nat) : Array Value := ((List.range n).map fun i => Value.bool (decide (i ∈ q))).toArray
theorem bcells_get {n i : Nat} (q : List Nat) (h : i < n) : (bcells n q)[i]? = some (.bool (decide (i ∈ q))) := by simp [bcells, h]
theorem bcells_set {n x : Nat} {q p : List Nat} {b : Bool} (_ : x < n) (h : ∀ j, j < n → decide (j ∈ p) = if j = x then b else decide (j ∈ q)) : (bcells n q).setIfInBounds x (.bool b) = bcells n p := by
  apply Array.ext
  · simp [bcells]
  · intro j h1 h2
    have hj : j < n := by simpa [bcells] using h2
    have h3 : j < (bcells n q).size := by simpa [bcells] using hj
    rw [Array.getElem_setIfInBounds h3]
    have e := h j hj
    by_cases hx : x = j
    · subst hx
      rw [if_pos rfl] at e
      simp [bcells, e]
    · rw [if_neg (fun e => hx e.symm)] at e
      simp [bcells, hx, e]
theorem bcells_add {n x : Nat} {q : List Nat} (h : x < n) : (bcells n q).setIfInBounds x (.bool true) = bcells n (q ++ [x]) :=
  bcells_set h fun j _ => by
    by_cases e : j = x
    · subst e; simp
    · simp [e]
theorem bcells_del {n x : Nat} {q p : List Nat} (h : x < n) (hp : ∀ j, j ∈ p ↔ j ∈ q ∧ j ≠ x) : (bcells n q).setIfInBounds x (.bool false) = bcells n p :=
  bcells_set h fun j _ => by
    by_cases e : j = x
    · subst e; simp [hp]
    · simp [e, hp]
theorem bcells_nil (n : Nat) : bcells n [] = Array.replicate n (.bool false) := by
  apply Array.ext <;> simp [bcells]

theorem few : ∀ (n : Nat) (q : List Nat), q.Nodup → (∀ x ∈ q, x < n) → q.length ≤ n
  | 0, q, _, h => by
    cases q with
    | nil => simp
    | cons a r => have := h a (by simp); omega
  | n + 1, q, hn, h => by
    have := few n (q.erase n) (hn.erase n) (fun x hx => by
      have h1 := (hn.mem_erase_iff).1 hx
      have := h x h1.2
      omega)
    rw [List.length_erase] at this
    split at this <;> omega

/-- THE QUEUE: its marks in block D, itself in block D + 1; its order is a value of type O behind block o. -/
structure QAt (w : World) (D n : Nat) (O : TypeId) (o : Nat) (q : List Nat) : Prop where
  marks : Whole w D 4 (bcells n q)
  self : Whole w (D + 1) 44 #[.slice (some ⟨D, 0, none⟩) n n, .iface O (.pointer (some ⟨o, 0, none⟩)), .pointer (some ⟨D + 1, 0, none⟩)]
  once : q.Nodup
  lt : ∀ x ∈ q, x < n
  big : n ≤ 65536
theorem QAt.frm {w w' : World} {D n : Nat} {O : TypeId} {o : Nat} {q S : List Nat} (h : QAt w D n O o q) (hf : Frm w w' S) (h0 : D ∉ S) (h1 : D + 1 ∉ S) : QAt w' D n O o q := ⟨h.marks.frm hf h0, h.self.frm hf h1, h.once, h.lt, h.big⟩
theorem QAt.len {w : World} {D n : Nat} {O : TypeId} {o : Nat} {q : List Nat} (h : QAt w D n O o q) : q.length ≤ n := few n q h.once h.lt
/-- One more mark. -/
theorem QAt.mark {w : World} {D n : Nat} {O : TypeId} {o x : Nat} {q : List Nat} (h : QAt w D n O o q) (hx : x < n) (hq : x ∉ q) : QAt (w.setCell ⟨D, x, none⟩ (.bool true)) D n O o (q ++ [x]) := by
  refine ⟨?_, h.self.far (by show D + 1 ≠ D; omega) _, ?_, ?_, h.big⟩
  · rw [← bcells_add hx]; exact h.marks.set x _
  · rw [List.nodup_append]
    refine ⟨h.once, by simp, ?_⟩
    intro a ha b hb e
    obtain rfl : b = x := by simpa using hb
    exact hq (e ▸ ha)
  · intro y hy
    rcases List.mem_append.1 hy with h1 | h1
    · exact h.lt y h1
    · obtain rfl : y = x := by simpa using h1
      exact hx
/-- One mark less. -/
theorem QAt.strike {w : World} {D n : Nat} {O : TypeId} {o x : Nat} {q p : List Nat} (h : QAt w D n O o q) (hx : x < n) (hn : p.Nodup) (hp : ∀ j, j ∈ p ↔ j ∈ q ∧ j ≠ x) : QAt (w.setCell ⟨D, x, none⟩ (.bool false)) D n O o p :=
  ⟨by rw [← bcells_del hx hp]; exact h.marks.set x _, h.self.far (by show D + 1 ≠ D; omega) _, hn, fun y hy => h.lt y ((hp y).1 hy).1, h.big⟩

theorem ptrSame (w : World) (a : Addr) : (binOp .eql 25 (.pointer (some a)) (.pointer (some a))).run Try.prog w = .ok (.bool true) w := by
  obtain ⟨i, hi, _⟩ := info_parts (P := Try.prog) (e := 44) (z := .agg #[.slice none 0 0, .nilIface, .pointer none]) (size := 3) (bytes := 48) (by kernel_rfl)
  exact run_eql_ptr_same w a Try.underlying25 hi

section
variable (w : World) (D n : Nat) (O : TypeId) (o : Nat) (q : List Nat) (h : QAt w D n O o q)
include h
theorem valid_q : Calls Try.prog 26 #[.pointer (some ⟨D + 1, 0, none⟩)] w fun en w' => en = .returned (.bool true) ∧ w = w' := by
  have c2 := h.self.cell 2
  have heq := ptrSame w ⟨D + 1, 0, none⟩
  go_enter Try.func26, Try.ntmps26
  go_wp2_with fail
  go_ret
  exact ⟨rfl, rfl⟩
theorem range_q (i : Int) : Calls Try.prog 25 #[.pointer (some ⟨D + 1, 0, none⟩), .int .i64 i] w fun en w' => en = .returned (.bool (decide (0 ≤ i ∧ i < n))) ∧ w = w' := by
  have HV := hide (valid_q w D n O o q h)
  have c0 := h.self.cell 0
  by_cases h0 : i < 0
  · have h1 : ¬ (i ≥ 0) := by omega
    have h2 : ¬ (0 ≤ i) := by omega
    have e : decide (0 ≤ i ∧ i < n) = false := by rw [decide_eq_false_iff_not]; omega
    rw [e]
    go_enter Try.func25, Try.ntmps25
    go_wp2_with (go_at_call 26; refine HV.out.mono ?_; rintro en w' ⟨rfl, rfl⟩)
    go_ret
    exact ⟨by simp, rfl⟩
  · have h1 : 0 ≤ i := by omega
    have e : decide (0 ≤ i ∧ i < n) = decide (i < n) := decide_eq_decide.2 (by omega)
    rw [e]
    go_enter Try.func25, Try.ntmps25
    go_wp2_with (go_at_call 26; refine HV.out.mono ?_; rintro en w' ⟨rfl, rfl⟩)
    go_ret
    exact ⟨by simp, rfl⟩
theorem has_q (i : Int) : Calls Try.prog 17 #[.pointer (some ⟨D + 1, 0, none⟩), .int .i64 i] w fun en w' => en = .returned (.bool (decide (0 ≤ i ∧ i.toNat ∈ q))) ∧ w = w' := by
  have HR := hide (range_q w D n O o q h i)
  have c0 := h.self.cell 0
  have h65 := h.big
  by_cases hin : 0 ≤ i ∧ i < n
  · obtain ⟨k, rfl⟩ : ∃ k : Nat, i = k := ⟨i.toNat, by omega⟩
    have hk : k < n := by omega
    have ca : w.cell? ⟨D, k, none⟩ = some (.bool (decide (k ∈ q))) := by rw [h.marks.cell, bcells_get q hk]
    have e : decide (0 ≤ (k : Int) ∧ (k : Int).toNat ∈ q) = decide (k ∈ q) := decide_eq_decide.2 (by simp)
    rw [decide_eq_true hin] at HR
    have hk' : (k : Int) < n := by omega
    rw [e]
    clear hin h e
    go_enter Try.func17, Try.ntmps17
    go_wp2_with (go_at_call 25; refine HR.out.mono ?_; rintro en w' ⟨rfl, rfl⟩)
    go_ret
    exact ⟨rfl, rfl⟩
  · have e : decide (0 ≤ i ∧ i.toNat ∈ q) = false := by
      rw [decide_eq_false_iff_not]
      rintro ⟨h1, h2⟩
      have := h.lt _ h2
      omega
    rw [decide_eq_false hin] at HR
    rw [e]
    clear hin h e
    go_enter Try.func17, Try.ntmps17
    go_wp2_with (go_at_call 25; refine HR.out.mono ?_; rintro en w' ⟨rfl, rfl⟩)
    go_ret
    exact ⟨rfl, rfl⟩
end

theorem infoBool : (Try.prog.info? 4).map (fun i => (i.zero, i.size, i.bytes)) = some (some (.bool false), 1, 1) := by kernel_rfl
theorem made_marks (n : Nat) : madeCells #[.bool false] n = bcells n [] := by
  apply Array.toList_inj.1
  rw [toList_madeCells_one, bcells_nil, Array.toList_replicate]
theorem run_marks (w : World) (n : Nat) (hn : n ≤ 65536) : (Instr.makeSlice 40 (.int .i64 n) (.int .i64 n)).run Try.prog w = .ok (.slice (some ⟨w.heap.size, 0, none⟩) n n) (w.alloc (.cells (bcells n []) 4)) := by
  obtain ⟨i, hi, hz, hs1, hby⟩ := info_parts infoBool
  have h := run_make (P := Try.prog) (w := w) 40 4 i (.bool false) Try.underlying40 hi hz .i64 .i64 n n (by omega) (Int.le_refl _) (by rw [hby]; omega) (by omega)
  rw [hs1, Nat.mul_one, Int.toNat_natCast] at h
  rw [← made_marks]
  exact h
theorem newQueue_any (w : World) (n : Nat) (O : TypeId) (o : Nat) (hn : n ≤ 65536) :
    Calls Try.prog 22 #[.int .i64 n, .iface O (.pointer (some ⟨o, 0, none⟩))] w fun en w' => en = .returned (.pointer (some ⟨w.heap.size + 1, 0, none⟩)) ∧ QAt w' w.heap.size n O o [] ∧ Frm w w' [] := by
  have hmk := run_marks w n hn
  go_enter Try.func22, Try.ntmps22
  go_wp2_with fail
  go_ret
  have k1 := (Whole.new w 4 (bcells n [])).alloc (.cells #[.slice (some ⟨w.heap.size, 0, none⟩) n n, .iface O (.pointer (some ⟨o, 0, none⟩)), .pointer (some ⟨w.heap.size + 1, 0, none⟩)] 44)
  have k2 := Whole.new (w.alloc (.cells (bcells n []) 4)) 44 #[.slice (some ⟨w.heap.size, 0, none⟩) n n, .iface O (.pointer (some ⟨o, 0, none⟩)), .pointer (some ⟨w.heap.size + 1, 0, none⟩)]
  rw [World.size_alloc] at k2
  exact ⟨rfl, ⟨k1, k2, List.nodup_nil, fun x hx => (by cases hx), hn⟩, ((Frm.refl w []).alloc _).alloc _⟩
end Go.Proofs.Ythdjgbkooeabfaa

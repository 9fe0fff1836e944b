/-
  Layer 6 (digraph): what each function and its reference return, whatever the graph and the nodes.
-/
import Derived.Test.YtaehfohljblmoaaTShort
import Derived.Test.YtaehfohljblmoaaTPreds
import Derived.Test.YtaehfohljblmoaaTPost
import Derived.Test.YtaehfohljblmoaaTSame
import Derived.Test.YtaehfohljblmoaaRevPost
import Derived.Test.YtaehfohljblmoaaShort
import Derived.Test.YtaehfohljblmoaaOrderMath
namespace Go.Proofs.Ytaehfohljblmoaa
open Go.RowKit

theorem RdL.nil (w : World) : RdL w none 0 [] := ⟨[], rfl, ⟨none, 0, rfl, Nat.le_refl _, Nat.zero_le _, fun h => absurd h (by simp)⟩, fun i l h => by simp at h⟩
theorem OwnL.rdl {w : World} {base D n : Nat} {R : List Value} {L : List (List Int)} (h : OwnL w base D R L) (e : L.length = n) : RdL w (some ⟨D, 0, none⟩) n L := by
  have := h.rd
  rw [h.len, e] at this
  exact this
def isN (g : List (List Int)) (v : Int) : Prop := codeG g = 0 ∧ 0 ≤ v ∧ v < g.length
instance (g : List (List Int)) (v : Int) : Decidable (isN g v) := inferInstanceAs (Decidable (_ ∧ _ ∧ _))
theorem notN {g : List (List Int)} {v : Int} (h : ¬ isN g v) : codeG g ≠ 0 ∨ ¬ (0 ≤ v ∧ v < g.length) := by
  by_cases c : codeG g = 0
  · exact .inr fun d => h ⟨c, d.1, d.2⟩
  · exact .inl c
def LP (g : List (List Int)) : List (List Int) := if codeG g = 0 then preds g else []
def LR (g : List (List Int)) : List (List Int) := if codeG g = 0 then rev g else []
def NR (g : List (List Int)) (v : Int) : Nat := if isN g v then g.length else 0
def PO (g : List (List Int)) (v : Int) : List Nat := if isN g v then post g v.toNat else []
def SO (g : List (List Int)) (s t : Int) : List Nat := if isN g s ∧ isN g t then short g s.toNat t.toNat else []

theorem nodup_len : ∀ {n : Nat} {l : List Nat}, l.Nodup → (∀ x ∈ l, x < n) → l.length ≤ n
  | 0, l, _, hl => by
    cases l with
    | nil => simp
    | cons x r => exact absurd (hl x (List.mem_cons_self ..)) (by omega)
  | n + 1, l, h, hl => by
    by_cases c : n ∈ l
    · have h1 := nodup_len (n := n) (h.erase n) (fun x hx => by
        have h2 := (List.Nodup.mem_erase_iff h).1 hx
        have h3 := hl x h2.2
        have h4 : x ≠ n := h2.1
        omega)
      rw [List.length_erase_of_mem c] at h1
      omega
    · have h1 := nodup_len (n := n) h (fun x hx => by
        have h3 := hl x hx
        have h4 : x ≠ n := fun e => c (e ▸ hx)
        omega)
      omega
section
variable {A : Option Addr} {c : Nat} {g : List (List Int)} {W : World} (hg : RdL W A c g)
include hg
theorem u_preds (hE : edges g ≤ 1000000) : Calls Try.prog 12 #[.agg #[.slice A g.length c]] W fun en w' => ∃ B d, en = .returned (.slice B (LP g).length d) ∧ RdL w' B d (LP g) ∧ Below W.heap.size W w' := by
  unfold LP
  by_cases h : codeG g = 0
  · rw [if_pos h]
    have hl : (preds g).length = g.length := by simp [preds]
    refine (preds_any A c g W hg h hE).mono ?_
    rintro en w' ⟨D, rfl, ⟨R, hL⟩, hb⟩
    exact ⟨_, _, by rw [hl], hL.rdl hl, hb⟩
  · rw [if_neg h]
    refine (preds_bad A c g W hg h).mono ?_
    rintro en w' ⟨rfl, hb⟩
    exact ⟨_, _, rfl, RdL.nil _, hb⟩
theorem ur_preds (hE : edges g ≤ 1000000) : Calls Try.prog 13 #[.agg #[.slice A g.length c]] W fun en w' => ∃ B d, en = .returned (.slice B (LP g).length d) ∧ RdL w' B d (LP g) ∧ Below W.heap.size W w' := by
  unfold LP
  by_cases h : codeG g = 0
  · rw [if_pos h]
    have hl : (preds g).length = g.length := by simp [preds]
    refine (rpreds_any A c g W hg h hE).mono ?_
    rintro en w' ⟨D, rfl, ⟨R, hL⟩, hb⟩
    exact ⟨_, _, by rw [hl], hL.rdl hl, hb⟩
  · rw [if_neg h]
    refine (rpreds_bad A c g W hg h).mono ?_
    rintro en w' ⟨rfl, hb⟩
    exact ⟨_, _, rfl, RdL.nil _, hb⟩
theorem u_rev (hE : edges g ≤ 1000000) : Calls Try.prog 14 #[.agg #[.slice A g.length c]] W fun en w' => ∃ B d, en = .returned (.agg #[.slice B (LR g).length d]) ∧ RdL w' B d (LR g) ∧ Below W.heap.size W w' := by
  unfold LR
  by_cases h : codeG g = 0
  · rw [if_pos h]
    refine (reverse_any A c g W hg h hE).mono ?_
    rintro en w' ⟨D, rfl, ⟨R, hL⟩, hb⟩
    exact ⟨_, _, by rw [rev_len], hL.rdl (rev_len g), hb⟩
  · rw [if_neg h]
    refine (reverse_bad A c g W hg h).mono ?_
    rintro en w' ⟨rfl, hb⟩
    exact ⟨_, _, rfl, RdL.nil _, hb⟩
theorem ur_rev (hE : edges g ≤ 1000000) : Calls Try.prog 15 #[.agg #[.slice A g.length c]] W fun en w' => ∃ B d, en = .returned (.agg #[.slice B (LR g).length d]) ∧ RdL w' B d (LR g) ∧ Below W.heap.size W w' := by
  unfold LR
  by_cases h : codeG g = 0
  · rw [if_pos h]
    refine (rreverse_any A c g W hg h hE).mono ?_
    rintro en w' ⟨D, rfl, ⟨R, hL⟩, hb⟩
    exact ⟨_, _, by rw [rev_len], hL.rdl (rev_len g), hb⟩
  · rw [if_neg h]
    refine (rreverse_bad A c g W hg h).mono ?_
    rintro en w' ⟨rfl, hb⟩
    exact ⟨_, _, rfl, RdL.nil _, hb⟩
theorem u_reach (v : Int) : Calls Try.prog 17 #[.agg #[.slice A g.length c], .int .i64 v] W fun en w' => ∃ B d, en = .returned (.slice B (NR g v) d) ∧ RdV w' (.slice B (NR g v) d) (bl (NR g v) (fun i => decide (i ∈ post g v.toNat))) ∧ Below W.heap.size W w' := by
  unfold NR
  by_cases h : isN g v
  · rw [if_pos h]
    obtain ⟨n, rfl⟩ : ∃ n : Nat, v = n := ⟨v.toNat, by have := h.2.1; omega⟩
    refine (reach_any A c g n W hg h.1 (by have := h.2.2; omega)).mono ?_
    rintro en w' ⟨⟨D, rfl, ho⟩, hb⟩
    have h9 := ho.rd
    exact ⟨_, _, rfl, h9, hb⟩
  · rw [if_neg h]
    refine (reach_bad A c g v W hg (notN h)).mono ?_
    rintro en w' ⟨rfl, hb⟩
    exact ⟨_, _, rfl, ⟨none, 0, rfl, Nat.le_refl _, Nat.zero_le _, fun h => absurd h (by simp [bl])⟩, hb⟩
theorem ur_reach (v : Int) : Calls Try.prog 18 #[.agg #[.slice A g.length c], .int .i64 v] W fun en w' => ∃ B d, en = .returned (.slice B (NR g v) d) ∧ RdV w' (.slice B (NR g v) d) (bl (NR g v) (fun i => decide (i ∈ post g v.toNat))) ∧ Below W.heap.size W w' := by
  unfold NR
  by_cases h : isN g v
  · rw [if_pos h]
    obtain ⟨n, rfl⟩ : ∃ n : Nat, v = n := ⟨v.toNat, by have := h.2.1; omega⟩
    refine (rreach_any A c g n W hg h.1 (by have := h.2.2; omega)).mono ?_
    rintro en w' ⟨⟨D, rfl, ho⟩, hb⟩
    have h9 := ho.rd
    exact ⟨_, _, rfl, h9, hb⟩
  · rw [if_neg h]
    refine (rreach_bad A c g v W hg h).mono ?_
    rintro en w' ⟨rfl, hb⟩
    exact ⟨_, _, rfl, ⟨none, 0, rfl, Nat.le_refl _, Nat.zero_le _, fun h => absurd h (by simp [bl])⟩, hb⟩
theorem u_post (v : Int) : Calls Try.prog 20 #[.agg #[.slice A g.length c], .int .i64 v] W fun en w' => ∃ ov, en = .returned ov ∧ Rd w' .i64 ov (ints (PO g v)) ∧ Below W.heap.size W w' := by
  unfold PO
  by_cases h : isN g v
  · rw [if_pos h]
    obtain ⟨n, rfl⟩ : ∃ n : Nat, v = n := ⟨v.toNat, by have := h.2.1; omega⟩
    refine (posto_any A c g n W hg h.1 (by have := h.2.2; omega)).mono ?_
    rintro en w' ⟨⟨ov, rfl, ho⟩, hb⟩
    exact ⟨_, rfl, ho.rd, hb⟩
  · rw [if_neg h]
    refine (posto_bad A c g v W hg (notN h)).mono ?_
    rintro en w' ⟨rfl, hb⟩
    exact ⟨_, rfl, Rd.nil, hb⟩
theorem ur_posto (v : Int) : Calls Try.prog 21 #[.agg #[.slice A g.length c], .int .i64 v] W fun en w' => (∃ ov, en = .returned ov ∧ Own w' W.heap.size 3 .i64 ov (ints (PO g v))) ∧ Below W.heap.size W w' := by
  unfold PO
  by_cases h : isN g v
  · rw [if_pos h]
    obtain ⟨n, rfl⟩ : ∃ n : Nat, v = n := ⟨v.toNat, by have := h.2.1; omega⟩
    exact rpost_any A c g n W hg h.1 (by have := h.2.2; omega)
  · rw [if_neg h]
    refine (rpost_bad A c g v W hg h).mono ?_
    rintro en w' ⟨rfl, hb⟩
    exact ⟨⟨_, rfl, Own.nil⟩, hb⟩
theorem ur_post (v : Int) : Calls Try.prog 21 #[.agg #[.slice A g.length c], .int .i64 v] W fun en w' => ∃ ov, en = .returned ov ∧ Rd w' .i64 ov (ints (PO g v)) ∧ Below W.heap.size W w' := by
  refine (ur_posto hg v).mono ?_
  rintro en w' ⟨⟨ov, rfl, ho⟩, hb⟩
  exact ⟨_, rfl, ho.rd, hb⟩
theorem u_rpost (v : Int) : Calls Try.prog 22 #[.agg #[.slice A g.length c], .int .i64 v] W fun en w' => ∃ ov, en = .returned ov ∧ Rd w' .i64 ov (ints (PO g v).reverse) ∧ Below W.heap.size W w' := by
  unfold PO
  by_cases h : isN g v
  · rw [if_pos h]
    obtain ⟨n, rfl⟩ : ∃ n : Nat, v = n := ⟨v.toNat, by have := h.2.1; omega⟩
    refine (revpost_any A c g n W hg h.1 (by have := h.2.2; omega)).mono ?_
    rintro en w' ⟨⟨ov, rfl, ho⟩, hb⟩
    exact ⟨_, rfl, ho.rd, hb⟩
  · rw [if_neg h]
    refine (revpost_bad A c g v W hg (notN h)).mono ?_
    rintro en w' ⟨rfl, hb⟩
    exact ⟨_, rfl, Rd.nil, hb⟩
theorem ur_rpost (v : Int) : Calls Try.prog 23 #[.agg #[.slice A g.length c], .int .i64 v] W fun en w' => ∃ ov, en = .returned ov ∧ Rd w' .i64 ov (ints (PO g v).reverse) ∧ Below W.heap.size W w' := by
  have hl : (PO g v).length ≤ 65536 := by
    unfold PO
    by_cases h : isN g v
    · rw [if_pos h]
      have hv : v.toNat < g.length := by have := h.2.2; have := h.2.1; omega
      have h1 := (post_ord (code_ok h.1).1 hv).1
      have h2 := nodup_len h1 (fun x hx => post_lt (code_ok h.1).1 hv x hx)
      have h3 := (code_ok h.1).2
      omega
    · rw [if_neg h]; simp
  refine (rrpost_any A c g v W hg (PO g v) hl (fun W' h => ur_posto h v)).mono ?_
  rintro en w' ⟨⟨ov, rfl, ho⟩, hb⟩
  exact ⟨_, rfl, ho.rd, hb⟩
theorem u_short (hE : edges g ≤ 1000000) (s t : Int) : Calls Try.prog 24 #[.agg #[.slice A g.length c], .int .i64 s, .int .i64 t] W fun en w' => ∃ ov, en = .returned ov ∧ Rd w' .i64 ov (ints (SO g s t)) ∧ Below W.heap.size W w' := by
  unfold SO
  by_cases h : isN g s ∧ isN g t
  · rw [if_pos h]
    obtain ⟨n, rfl⟩ : ∃ n : Nat, s = n := ⟨s.toNat, by have := h.1.2.1; omega⟩
    obtain ⟨m, rfl⟩ : ∃ m : Nat, t = m := ⟨t.toNat, by have := h.2.2.1; omega⟩
    refine (short_any A c g n m W hg h.1.1 hE (by have := h.1.2.2; omega) (by have := h.2.2.2; omega)).mono ?_
    rintro en w' ⟨⟨ov, rfl, ho⟩, hb⟩
    exact ⟨_, rfl, ho.rd, hb⟩
  · rw [if_neg h]
    refine (short_bad A c g s t W hg ?_).mono ?_
    · by_cases h1 : isN g s
      · exact (notN (fun h2 => h ⟨h1, h2⟩)).imp id .inr
      · exact (notN h1).imp id .inl
    rintro en w' ⟨rfl, hb⟩
    exact ⟨_, rfl, Rd.nil, hb⟩
theorem ur_short (s t : Int) : Calls Try.prog 25 #[.agg #[.slice A g.length c], .int .i64 s, .int .i64 t] W fun en w' => ∃ ov, en = .returned ov ∧ Rd w' .i64 ov (ints (SO g s t)) ∧ Below W.heap.size W w' := by
  unfold SO
  by_cases h : isN g s ∧ isN g t
  · rw [if_pos h]
    obtain ⟨n, rfl⟩ : ∃ n : Nat, s = n := ⟨s.toNat, by have := h.1.2.1; omega⟩
    obtain ⟨m, rfl⟩ : ∃ m : Nat, t = m := ⟨t.toNat, by have := h.2.2.1; omega⟩
    refine (rshort_any A c g n m W hg h.1.1 (by have := h.1.2.2; omega) (by have := h.2.2.2; omega)).mono ?_
    rintro en w' ⟨⟨ov, rfl, ho⟩, hb⟩
    exact ⟨_, rfl, ho.rd, hb⟩
  · rw [if_neg h]
    refine (rshort_bad A c g s t W hg ?_).mono ?_
    · by_cases h1 : isN g s
      · exact .inr (fun h2 => h ⟨h1, h2⟩)
      · exact .inl h1
    rintro en w' ⟨rfl, hb⟩
    exact ⟨_, rfl, Rd.nil, hb⟩
end
end Go.Proofs.Ytaehfohljblmoaa

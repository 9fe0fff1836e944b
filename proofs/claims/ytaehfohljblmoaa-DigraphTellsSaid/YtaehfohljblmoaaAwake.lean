/-
  Layer 6 (digraph): the results that the document fixes.
-/
import Derived.Test.YtaehfohljblmoaaShort
import Derived.Test.YtaehfohljblmoaaReachable
import Derived.Test.YtaehfohljblmoaaSameL
namespace Go.Proofs.Ytaehfohljblmoaa
open Go.RowKit

def dia : List (List Int) := [[2, 1], [3], [3], []]
theorem rdv_block (w : World) (t : TypeId) (vs : List Value) (hl : vs.length ≤ maxLen) : RdV (w.alloc (.cells vs.toArray t)) (.slice (some ⟨w.heap.size, 0, none⟩) vs.length vs.length) vs :=
  ⟨_, _, rfl, Nat.le_refl _, hl, fun _ => ⟨w.heap.size, 0, rfl, by simp, fun j z hz => by
    have h := (Whole.new w t vs.toArray).cell (0 + j)
    rw [h, Nat.zero_add]
    simpa using hz⟩⟩
theorem diamond_any (w : World) :
    Calls Try.prog 28 #[] w fun en w' => (∃ A c, en = .returned (.agg #[.slice A 4 c]) ∧ RdL w' A c dia) ∧ Below w.heap.size w w' := by
  go_enter Try.func28, Try.ntmps28
  go_wp2_with fail
  obtain ⟨a, ha⟩ : ∃ x, w.alloc (.cells #[.slice (some ⟨w.heap.size + 1 + 1 + 1 + 1, 0, none⟩) 4 4] 24) = x := ⟨_, rfl⟩
  have sa : a.heap.size = w.heap.size + 1 := by rw [← ha, World.size_alloc]
  have ba : Below w.heap.size w a := by rw [← ha]; exact (Below.refl _ _).alloc (Nat.le_refl _) _
  have ca : a.cell? ⟨w.heap.size, 0, none⟩ = some (.slice (some ⟨w.heap.size + 1 + 1 + 1 + 1, 0, none⟩) 4 4) := by rw [← ha]; simp [go_sem]
  rw [ha]
  obtain ⟨b, hb⟩ : ∃ x, a.alloc (.cells #[.int .i64 2, .int .i64 1] 3) = x := ⟨_, rfl⟩
  have sb : b.heap.size = w.heap.size + 1 + 1 := by rw [← hb, World.size_alloc, sa]
  have bb : Below a.heap.size a b := by rw [← hb]; exact (Below.refl _ _).alloc (Nat.le_refl _) _
  have r1 : Rd b .i64 (.slice (some ⟨a.heap.size, 0, none⟩) 2 2) [2, 1] := by rw [← hb]; exact rd_block a 3 [2, 1] (by unfold maxLen; decide)
  rw [hb]
  obtain ⟨c, hc⟩ : ∃ x, b.alloc (.cells #[.int .i64 3] 3) = x := ⟨_, rfl⟩
  have sc : c.heap.size = w.heap.size + 1 + 1 + 1 := by rw [← hc, World.size_alloc, sb]
  have bc : Below b.heap.size b c := by rw [← hc]; exact (Below.refl _ _).alloc (Nat.le_refl _) _
  have r2 : Rd c .i64 (.slice (some ⟨b.heap.size, 0, none⟩) 1 1) [3] := by rw [← hc]; exact rd_block b 3 [3] (by unfold maxLen; decide)
  rw [hc]
  obtain ⟨d, hd⟩ : ∃ x, c.alloc (.cells #[.int .i64 3] 3) = x := ⟨_, rfl⟩
  have sd : d.heap.size = w.heap.size + 1 + 1 + 1 + 1 := by rw [← hd, World.size_alloc, sc]
  have bd : Below c.heap.size c d := by rw [← hd]; exact (Below.refl _ _).alloc (Nat.le_refl _) _
  have r3 : Rd d .i64 (.slice (some ⟨c.heap.size, 0, none⟩) 1 1) [3] := by rw [← hd]; exact rd_block c 3 [3] (by unfold maxLen; decide)
  rw [hd]
  rw [← sd, ← sc, ← sb, ← sa]
  obtain ⟨e, he⟩ : ∃ x, d.alloc (.cells #[.slice (some ⟨a.heap.size, 0, none⟩) 2 2, .slice (some ⟨b.heap.size, 0, none⟩) 1 1, .slice (some ⟨c.heap.size, 0, none⟩) 1 1, .slice none 0 0] 36) = x := ⟨_, rfl⟩
  have be : Below d.heap.size d e := by rw [← he]; exact (Below.refl _ _).alloc (Nat.le_refl _) _
  have r4 : RdV e (.slice (some ⟨d.heap.size, 0, none⟩) 4 4) [.slice (some ⟨a.heap.size, 0, none⟩) 2 2, .slice (some ⟨b.heap.size, 0, none⟩) 1 1, .slice (some ⟨c.heap.size, 0, none⟩) 1 1, .slice none 0 0] := by rw [← he]; exact rdv_block d 36 [.slice (some ⟨a.heap.size, 0, none⟩) 2 2, .slice (some ⟨b.heap.size, 0, none⟩) 1 1, .slice (some ⟨c.heap.size, 0, none⟩) 1 1, .slice none 0 0] (by show 4 ≤ maxLen; unfold maxLen; decide)
  rw [he]
  have hB : Below w.heap.size w e := (((ba.trans (bb.mono ba.size)).trans (bc.mono (by omega))).trans (bd.mono (by omega))).trans (be.mono (by omega))
  have ce : e.cell? ⟨w.heap.size, 0, none⟩ = some (.slice (some ⟨d.heap.size, 0, none⟩) 4 4) := by
    have h1 := (bb.cell (p := ⟨w.heap.size, 0, none⟩) (lt_of_cell ca)).trans ca
    have h2 := (bc.cell (p := ⟨w.heap.size, 0, none⟩) (lt_of_cell h1)).trans h1
    have h3 := (bd.cell (p := ⟨w.heap.size, 0, none⟩) (lt_of_cell h2)).trans h2
    have h4 := (be.cell (p := ⟨w.heap.size, 0, none⟩) (lt_of_cell h3)).trans h3
    rw [sd]
    exact h4
  refine bodyPost_ret (v := .agg #[.slice (some ⟨d.heap.size, 0, none⟩) 4 4]) ?_ rfl ⟨⟨some ⟨d.heap.size, 0, none⟩, 4, rfl, ⟨_, rfl, r4, fun i l hi => ?_⟩⟩, hB⟩
  · simp [results, Try.f28, go_sem, ce]
  · match i, hi with
    | 0, hi => obtain rfl : [2, 1] = l := by simpa [dia] using hi
               exact ⟨_, _, rfl, ((r1.below' bc).below' bd).below' be⟩
    | 1, hi => obtain rfl : [3] = l := by simpa [dia] using hi
               exact ⟨_, _, rfl, (r2.below' bd).below' be⟩
    | 2, hi => obtain rfl : [3] = l := by simpa [dia] using hi
               exact ⟨_, _, rfl, r3.below' be⟩
    | 3, hi => obtain rfl : [] = l := by simpa [dia] using hi
               exact ⟨_, _, rfl, Rd.nil⟩
    | i + 4, hi => simp [dia] at hi

/-- What awake holds: the graph in its cell, and what it has asked for. -/
structure Woken (w0 w : World) (tb : Nat) (A : Option Addr) (c base D1 D2 D3 : Nat) (R2 R3 : List Value) : Prop where
  gr : RdL w A c dia
  cell : w.cell? ⟨tb, 0, none⟩ = some (.slice A 4 c)
  reach : OwnV w base 4 (.slice (some ⟨D1, 0, none⟩) 4 4) [.bool false, .bool true, .bool false, .bool true]
  pre : OwnL w base D2 R2 [[], [0], [0], [1, 2]]
  rv : OwnL w base D3 R3 [[], [0], [0], [1, 2]]
  below : Below w0.heap.size w0 w
theorem Woken.next {w0 w w' : World} {tb : Nat} {A : Option Addr} {c base D1 D2 D3 : Nat} {R2 R3 : List Value} (h : Woken w0 w tb A c base D1 D2 D3 R2 R3) (hb : Below w.heap.size w w') : Woken w0 w' tb A c base D1 D2 D3 R2 R3 :=
  ⟨h.gr.below' hb, (hb.cell (p := ⟨tb, 0, none⟩) (lt_of_cell h.cell)).trans h.cell, h.reach.below' hb, h.pre.frm (Frm.below hb), h.rv.frm (Frm.below hb), h.below.trans (hb.mono h.below.size)⟩

theorem dia_code : codeG dia = 0 := by decide
theorem dia_edges : edges dia ≤ 1000000 := by decide
theorem dia_reach : bl 4 (fun i => decide (i ∈ post dia 1)) = [.bool false, .bool true, .bool false, .bool true] := by
  have e : post dia 1 = [3, 1] := by rfl
  rw [e]; rfl
theorem dia_preds : preds dia = [[], [0], [0], [1, 2]] := by rfl
theorem dia_rev : rev dia = [[], [0], [0], [1, 2]] := by rfl
theorem dia_post : ints (post dia 0) = [3, 2, 1, 0] := by rfl
theorem dia_rpost : ints (post dia 0).reverse = [0, 1, 2, 3] := by rfl
theorem dia_short : ints (short dia 0 3) = [0, 1, 3] := by decide
theorem dia_short2 : ints (short dia 3 0) = [] := by decide

section
variable (A : Option Addr) (c : Nat) (W : World)
theorem k_reach (hg : RdL W A c dia) : Calls Try.prog 17 #[.agg #[.slice A 4 c], .int .i64 1] W fun en w' => (∃ D, en = .returned (.slice (some ⟨D, 0, none⟩) 4 4) ∧ OwnV w' W.heap.size 4 (.slice (some ⟨D, 0, none⟩) 4 4) [.bool false, .bool true, .bool false, .bool true]) ∧ Below W.heap.size W w' := by
  have h := reach_any A c dia 1 W hg dia_code (by decide)
  rw [show dia.length = 4 from rfl, dia_reach] at h
  exact h
theorem k_preds (hg : RdL W A c dia) : Calls Try.prog 12 #[.agg #[.slice A 4 c]] W fun en w' => ∃ D, en = .returned (.slice (some ⟨D, 0, none⟩) 4 4) ∧ (∃ R, OwnL w' W.heap.size D R [[], [0], [0], [1, 2]]) ∧ Below W.heap.size W w' := by
  have h := preds_any A c dia W hg dia_code dia_edges
  rw [show dia.length = 4 from rfl, dia_preds] at h
  exact h
theorem k_rev (hg : RdL W A c dia) : Calls Try.prog 14 #[.agg #[.slice A 4 c]] W fun en w' => ∃ D, en = .returned (.agg #[.slice (some ⟨D, 0, none⟩) 4 4]) ∧ (∃ R, OwnL w' W.heap.size D R [[], [0], [0], [1, 2]]) ∧ Below W.heap.size W w' := by
  have h := reverse_any A c dia W hg dia_code dia_edges
  rw [show dia.length = 4 from rfl, dia_rev] at h
  exact h
theorem k_check (hg : RdL W A c dia) : Calls Try.prog 7 #[.agg #[.slice A 4 c]] W fun en w' => en = .returned (.int .i64 0) ∧ Below W.heap.size W w' := by
  have h := check_any A c dia W hg
  rw [dia_code] at h
  exact h
theorem k_check1 (hg : RdL W A c [[1]]) : Calls Try.prog 7 #[.agg #[.slice A 1 c]] W fun en w' => en = .returned (.int .i64 10) ∧ Below W.heap.size W w' := by
  have h := check_any A c [[1]] W hg
  rw [show codeG [[1]] = 10 by decide] at h
  exact h
theorem k_post (hg : RdL W A c dia) : Calls Try.prog 20 #[.agg #[.slice A 4 c], .int .i64 0] W fun en w' => (∃ ov, en = .returned ov ∧ Own w' W.heap.size 3 .i64 ov [3, 2, 1, 0]) ∧ Below W.heap.size W w' := by
  have h := posto_any A c dia 0 W hg dia_code (by decide)
  rw [dia_post] at h
  exact h
theorem k_rpost (hg : RdL W A c dia) : Calls Try.prog 22 #[.agg #[.slice A 4 c], .int .i64 0] W fun en w' => (∃ ov, en = .returned ov ∧ Own w' W.heap.size 3 .i64 ov [0, 1, 2, 3]) ∧ Below W.heap.size W w' := by
  have h := revpost_any A c dia 0 W hg dia_code (by decide)
  rw [dia_rpost] at h
  exact h
theorem k_short (hg : RdL W A c dia) : Calls Try.prog 24 #[.agg #[.slice A 4 c], .int .i64 0, .int .i64 3] W fun en w' => (∃ ov, en = .returned ov ∧ Own w' W.heap.size 3 .i64 ov [0, 1, 3]) ∧ Below W.heap.size W w' := by
  have h := short_any A c dia 0 3 W hg dia_code dia_edges (by decide) (by decide)
  rw [dia_short] at h
  exact h
theorem k_short2 (hg : RdL W A c dia) : Calls Try.prog 24 #[.agg #[.slice A 4 c], .int .i64 3, .int .i64 0] W fun en w' => (∃ ov, en = .returned ov ∧ Own w' W.heap.size 3 .i64 ov []) ∧ Below W.heap.size W w' := by
  have h := short_any A c dia 3 0 W hg dia_code dia_edges (by decide) (by decide)
  rw [dia_short2] at h
  exact h
theorem k_post2 (hg : RdL W A c dia) : Calls Try.prog 20 #[.agg #[.slice A 4 c], .int .i64 4] W fun en w' => en = .returned (.slice none 0 0) ∧ Below W.heap.size W w' :=
  posto_bad A c dia 4 W hg (.inr (by decide))
end
end Go.Proofs.Ytaehfohljblmoaa

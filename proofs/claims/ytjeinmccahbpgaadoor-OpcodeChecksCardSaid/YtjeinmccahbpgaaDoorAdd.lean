import Derived.Test.YtjeinmccahbpgaaDoorLeaf
import Derived.Deep.QuietTactic
import Derived.BigQuiet
namespace Go.Proofs.YtjeinmccahbpgaaDoor
open Go.RowKit

/-- The table is still there after a store into another block. -/
theorem Tab.setCell {w : World} (h : Tab w) {a : Addr} (ha : 4 < a.block) (v : Value) : Tab (w.setCell a v) := by
  obtain ⟨c0, c1, c2, c3, c4⟩ := h
  have k : ∀ o, (w.setCell a v).cell? ⟨4, o, none⟩ = w.cell? ⟨4, o, none⟩ := fun o =>
    (Below.setCell (Below.refl (4 + 1) w) (p := a) ha v).cell (p := ⟨4, o, none⟩) (Nat.lt_succ_self _)
  exact ⟨(k _).trans c0, (k _).trans c1, (k _).trans c2, (k _).trans c3, (k _).trans c4⟩
theorem Tab.pos {w : World} (h : Tab w) : 4 < w.heap.size := by
  rcases Nat.lt_or_ge 4 w.heap.size with h0 | h0
  · exact h0
  · have := h.c0
    simp [World.cell?, Array.getElem?_eq_none (show w.heap.size ≤ 4 by omega)] at this
theorem Tab.below {w w' : World} (h : Tab w) (hb : Below w.heap.size w w') : Tab w' := by
  obtain ⟨c0, c1, c2, c3, c4⟩ := h
  have hp := Tab.pos ⟨c0, c1, c2, c3, c4⟩
  have k : ∀ o, w'.cell? ⟨4, o, none⟩ = w.cell? ⟨4, o, none⟩ := fun o => hb.cell (p := ⟨4, o, none⟩) hp
  exact ⟨(k _).trans c0, (k _).trans c1, (k _).trans c2, (k _).trans c3, (k _).trans c4⟩

theorem wrapAll_two (t a b : Int) (w : World) (hT : Tab w) (s p q : Nat) (hs0 : w.cell? ⟨s, 0, none⟩ = some (.pointer (some ⟨p, 0, none⟩))) (hs1 : w.cell? ⟨s, 1, none⟩ = some (.pointer (some ⟨q, 0, none⟩)))
    (hp : w.cell? ⟨p, 0, none⟩ = some (.int .i64 a)) (hq : w.cell? ⟨q, 0, none⟩ = some (.int .i64 b)) (fp : w.frozen? ⟨p, 0, none⟩ = false) (fq : w.frozen? ⟨q, 0, none⟩ = false)
    (h1 : 4 < p) (h2 : p < q) (h3 : q < s) :
    Calls Tryd.prog 115 #[.int .i64 t, .slice (some ⟨s, 0, none⟩) 2 2] w fun e w' => e = .returned (.tuple #[]) ∧ (w.setCell ⟨p, 0, none⟩ (.int .i64 (wrapI t a))).setCell ⟨q, 0, none⟩ (.int .i64 (wrapI t b)) = w' := by
  have n1 : ¬ p = q := by omega
  have n2 : ¬ q = p := by omega
  have n3 : ¬ p = s := by omega
  have n4 : ¬ s = p := by omega
  go_enter Tryd.func115, Tryd.ntmps115
  go_wp2
  refine wp_loop_rounds 3 ?_
  rw [rounds_succ]
  go_wp2_with (go_at_call 51; refine (wrap_any _ _ _ hT).mono ?_; rintro e w' ⟨rfl, rfl⟩)
  rw [rounds_succ]
  go_wp2_with (go_at_call 51; refine (wrap_any _ _ _ (hT.setCell h1 _)).mono ?_; rintro e w' ⟨rfl, rfl⟩)
  rw [rounds_succ]
  go_wp2_with fail
  go_end0
  exact ⟨rfl, rfl⟩

/-- The two boxes of the operands, and the list of their addresses. -/
theorem wrapAll_boxes (t a b : Int) (w : World) (hT : Tab w) :
    Calls Tryd.prog 115 #[.int .i64 t, .slice (some ⟨w.heap.size + 1 + 1, 0, none⟩) 2 2]
      (((w.alloc (.cells #[.int .i64 a] 2)).alloc (.cells #[.int .i64 b] 2)).alloc (.cells #[.pointer (some ⟨w.heap.size, 0, none⟩), .pointer (some ⟨w.heap.size + 1, 0, none⟩)] 118))
      fun e w' => e = .returned (.tuple #[]) ∧ (((w.alloc (.cells #[.int .i64 (wrapI t a)] 2)).alloc (.cells #[.int .i64 (wrapI t b)] 2)).alloc (.cells #[.pointer (some ⟨w.heap.size, 0, none⟩), .pointer (some ⟨w.heap.size + 1, 0, none⟩)] 118)) = w' := by
  have hpos := hT.pos
  refine (wrapAll_two t a b _ (hT.below ((((Below.refl _ _).alloc (Nat.le_refl _) _).alloc (by simp) _).alloc (by simp; omega) _)) (w.heap.size + 1 + 1) w.heap.size (w.heap.size + 1) ?_ ?_ ?_ ?_ ?_ ?_ hpos (by omega) (by omega)).mono ?_
  · simp [go_sem]
  · simp [go_sem]
  · simp [go_sem]
  · simp [go_sem]
  · simp [go_sem]
  · simp [go_sem]
  · rintro e w' ⟨rfl, rfl⟩
    refine ⟨rfl, ?_⟩
    simp [go_sem]

theorem ret_ib {k : IntKind} {a b : Int} {p q : Bool} (h : a = b) (g : p = q) : Ending.returned (.tuple #[.int k a, .bool p]) = .returned (.tuple #[.int k b, .bool q]) := by rw [h, g]
theorem boxes_below (a b : Value) (c : Array Value) (t1 t2 t3 : TypeId) (w : World) (n : Nat) : Below w.heap.size w ((((w.alloc (.cells #[a] t1)).alloc (.cells #[b] t2)).alloc (.cells c t3)).drewN n) :=
  have h := (((Below.refl w.heap.size w).alloc (Nat.le_refl _) (.cells #[a] t1)).alloc (by simp) (.cells #[b] t2)).alloc (by simp; omega) (.cells c t3)
  ⟨h.os, h.tape, h.output, h.size, h.block⟩
theorem boxes_below0 (a b : Value) (c : Array Value) (t1 t2 t3 : TypeId) (w : World) : Below w.heap.size w (((w.alloc (.cells #[a] t1)).alloc (.cells #[b] t2)).alloc (.cells c t3)) :=
  boxes_below a b c t1 t2 t3 w 0

/-- What Add says besides: true if the wrapped sum is another number than the 64-bit sum. -/
theorem add_case1 {t a b : Int} (hs : ¬ wrapI t (wrap64 (wrapI t a + wrapI t b)) = wrap64 (wrapI t a + wrapI t b)) : true = addO t a b := by
  have h := add_over t _ _ (wrap_in t a) (wrap_in t b)
  exact (outI_true (by
    rcases Classical.em (minI t ≤ wrapI t a + wrapI t b ∧ wrapI t a + wrapI t b ≤ maxI t) with g | g
    · exact absurd (h.2 g).1 hs
    · omega)).symm
theorem add_case2 {t a b : Int} (hs : wrapI t (wrap64 (wrapI t a + wrapI t b)) = wrap64 (wrapI t a + wrapI t b)) (hb : Bool)
    (hd : hb = false ↔ ((wrapI t a < 0 ↔ wrapI t b < 0) → (wrap64 (wrapI t a + wrapI t b) < 0 ↔ wrapI t a < 0))) : hb = addO t a b := by
  have h := add_over t _ _ (wrap_in t a) (wrap_in t b)
  cases hb
  · exact (outI_false (h.1 ⟨hs, hd.1 rfl⟩)).symm
  · refine (outI_true ?_).symm
    rcases Classical.em (minI t ≤ wrapI t a + wrapI t b ∧ wrapI t a + wrapI t b ≤ maxI t) with g | g
    · exact absurd (hd.2 (h.2 g).2) (by simp)
    · omega

theorem add_any (t a b : Int) (w : World) (hT : Tab w) :
    Calls Tryd.prog 109 #[.int .i64 t, .int .i64 a, .int .i64 b] w fun e w' => e = .returned (.tuple #[.int .i64 (addS t a b), .bool (addO t a b)]) ∧ Below w.heap.size w w' := by
  have hpos := hT.pos
  go_enter Tryd.func109, Tryd.ntmps109
  go_wp2_with fail
  refine (wrapAll_boxes t a b w hT).mono ?_
  rintro e w' ⟨rfl, rfl⟩
  have hT' := hT.below (boxes_below0 (.int .i64 (wrapI t a)) (.int .i64 (wrapI t b)) #[.pointer (some ⟨w.heap.size, 0, none⟩), .pointer (some ⟨w.heap.size + 1, 0, none⟩)] 2 2 118 w)
  go_wp2_with (go_at_call 51; refine (wrap_any _ _ _ hT').mono ?_; rintro e w' ⟨rfl, rfl⟩)
  clear hT' hT
  by_cases hs : wrapI t (wrap64 (wrapI t a + wrapI t b)) = wrap64 (wrapI t a + wrapI t b)
  · have hs1 : (!(wrapI t (wrap64 (wrapI t a + wrapI t b)) == wrap64 (wrapI t a + wrapI t b))) = false := by simpa using hs
    have hs2 : (wrapI t (wrap64 (wrapI t a + wrapI t b)) != wrap64 (wrapI t a + wrapI t b)) = false := by simpa using hs
    have HS := hide hs
    clear hs
    by_cases hx : wrapI t a < 0 <;> by_cases hy : wrapI t b < 0
    all_goals
      go_quiet (fail)
      go_wp2
      go_ret2
      exact ⟨ret_ib (wrap_wrap64 _ _) (add_case2 HS.out _ (by simp [*]; try omega)), boxes_below _ _ _ _ _ _ _ _⟩
  · have hs1 : (!(wrapI t (wrap64 (wrapI t a + wrapI t b)) == wrap64 (wrapI t a + wrapI t b))) = true := by simpa using hs
    have hs2 : (wrapI t (wrap64 (wrapI t a + wrapI t b)) != wrap64 (wrapI t a + wrapI t b)) = true := by simpa using hs
    have HS := hide hs
    clear hs
    go_quiet (fail)
    go_wp2
    go_ret2
    exact ⟨ret_ib (wrap_wrap64 _ _) (add_case1 HS.out), boxes_below _ _ _ _ _ _ _ _⟩

end Go.Proofs.YtjeinmccahbpgaaDoor

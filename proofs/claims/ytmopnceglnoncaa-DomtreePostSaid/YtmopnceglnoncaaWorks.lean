/-
  Layer 8 (domtree): the chapter's examples.
-/
import Derived.Test.YtmopnceglnoncaaCommon
import Derived.Test.YtmopnceglnoncaaDomins
import Derived.Test.YtmopnceglnoncaaOut
import Derived.Test.YtmopnceglnoncaaPost
import Derived.Test.YtmopnceglnoncaaPreorder
import Derived.Test.YtmopnceglnoncaaTEqI
namespace Go.Proofs.Ytmopnceglnoncaa
open Go.RowKit

def gA : List (List Int) := [[1, 2], [3], [3], [1]]
def gB : List (List Int) := [[1], [2], []]
theorem gB_pg : pg gB = [[], [0], [1], [2]] := by decide
section
variable {g : List (List Int)} {e : Nat} {L P : List Nat} {dm : Nat → Nat}
/-- The immediate dominator: above the node, and whoever else dominates the node is above it. -/
theorem Bt.imm (B : Bt g e L P dm) {x : Nat} (hx : Way g e x) (hne : x ≠ e) : ∃ u : Nat, bf L dm x = (u : Int) ∧ u ∈ L ∧ u ≠ x ∧ ¬ AvG g e u x ∧ pth (bf L dm) (bd L dm) x = x :: pth (bf L dm) (bd L dm) u := by
  have hxL := (B.sp.reach x).2 hx
  have T := B.tree
  obtain ⟨u, h1, h2, h3, h4, h5, h6, h7⟩ := T.node (B.sp.tail.bnd x hxL) ((Bt.in_ x).2 hxL) hne
  refine ⟨u, h1, (Bt.in_ u).1 h4, h6, (B.dom hxL u).1 ?_, h7⟩
  obtain ⟨q, hq⟩ := pth_head (bf L dm) (bd L dm) u
  rw [h7, hq]; simp
end
theorem avA (u : Nat) : (u ≠ 0 → AvG gA 0 u 0) ∧ (u ≠ 0 → u ≠ 1 → AvG gA 0 u 1) ∧ (u ≠ 0 → u ≠ 2 → AvG gA 0 u 2) := by
  have h0 : u ≠ 0 → AvG gA 0 u 0 := fun h => .root h.symm
  exact ⟨h0, fun h k => .step (h0 h) (by decide) k.symm, fun h k => .step (h0 h) (by decide) k.symm⟩
theorem wayA : Way gA 0 1 ∧ Way gA 0 2 ∧ Way gA 0 3 := by
  have h1 : Way gA 0 1 := .step .here (by decide)
  exact ⟨h1, .step .here (by decide), .step h1 (by decide)⟩
theorem works_a {L P : List Nat} {dm : Nat → Nat} (B : Bt gA 0 L P dm) : bf L dm 0 = 0 ∧ bf L dm 1 = 0 ∧ bf L dm 2 = 0 ∧ bf L dm 3 = 0 := by
  refine ⟨B.tree.root, ?_, ?_, ?_⟩
  · obtain ⟨u, h1, h2, h3, h4, -⟩ := B.imm wayA.1 (by decide)
    have : u = 0 := Classical.byContradiction fun h => h4 ((avA u).2.1 h h3)
    rw [h1, this]; rfl
  · obtain ⟨u, h1, h2, h3, h4, -⟩ := B.imm wayA.2.1 (by decide)
    have : u = 0 := Classical.byContradiction fun h => h4 ((avA u).2.2 h h3)
    rw [h1, this]; rfl
  · obtain ⟨u, h1, h2, h3, h4, -⟩ := B.imm wayA.2.2 (by decide)
    have : u = 0 := Classical.byContradiction fun h => by
      by_cases h5 : u = 1
      · subst h5; exact h4 (.step ((avA 1).2.2 h (by decide)) (by decide) (by decide))
      · exact h4 (.step ((avA u).2.1 h h5) (by decide) h3.symm)
    rw [h1, this]; rfl
theorem works_list {L P : List Nat} {dm : Nat → Nat} (B : Bt gA 0 L P dm) : fz 4 (bf L dm) = [0, 0, 0, 0] := by
  obtain ⟨h0, h1, h2, h3⟩ := works_a B
  simp [fz, List.range_succ, h0, h1, h2, h3]
theorem works_cd {L P : List Nat} {dm : Nat → Nat} (B : Bt gA 0 L P dm) : cd (bf L dm) (bd L dm) 1 2 = 0 := by
  have T := B.tree
  obtain ⟨h0, h1, h2, h3⟩ := works_a B
  have hr : pth (bf L dm) (bd L dm) 0 = [0] := T.ptop
  obtain ⟨u, e1, -, -, -, p1⟩ := B.imm wayA.1 (by decide)
  obtain ⟨v, e2, -, -, -, p2⟩ := B.imm wayA.2.1 (by decide)
  obtain rfl : u = 0 := by rw [h1] at e1; omega
  obtain rfl : v = 0 := by rw [h2] at e2; omega
  unfold cd
  rw [p1, p2, hr]
  decide
theorem works_pre {L P : List Nat} {dm : Nat → Nat} (B : Bt gA 0 L P dm) : pre (bf L dm) 4 (bd L dm) 0 = [0, 1, 2, 3] := by
  have T := B.tree
  obtain ⟨h0, h1, h2, h3⟩ := works_a B
  have k : ∀ i, kidsTo (bf L dm) 4 i = if i = 0 then [1, 2, 3] else [] := fun i => by
    unfold kidsTo
    by_cases h : i = 0
    · subst h; simp [List.range_succ, List.filter_cons, h0, h1, h2, h3]
    · have h' : ¬ (0 : Int) = (i : Int) := by omega
      rw [if_neg h]
      simp [List.range_succ, List.filter_cons, h0, h1, h2, h3, h']
  have p : ∀ i, i < 4 → bf L dm i = 0 → pre (bf L dm) 4 (bd L dm) i = i :: (kidsTo (bf L dm) 4 i).flatMap (pre (bf L dm) 4 (bd L dm)) := fun i hi hb => T.pre_eq hi (by rw [hb]; decide)
  rw [p 0 (by decide) h0, k 0]
  simp only [if_true, List.flatMap_cons, List.flatMap_nil]
  rw [p 1 (by decide) h1, p 2 (by decide) h2, p 3 (by decide) h3, k 1, k 2, k 3]
  rfl
def gC : List (List Int) := [[], [0], [1], [2]]
theorem avC (u : Nat) : (u ≠ 3 → AvG gC 3 u 3) ∧ (u ≠ 3 → u ≠ 2 → AvG gC 3 u 2) ∧ (u ≠ 3 → u ≠ 2 → u ≠ 1 → AvG gC 3 u 1) := by
  have h0 : u ≠ 3 → AvG gC 3 u 3 := fun h => .root h.symm
  have h1 : u ≠ 3 → u ≠ 2 → AvG gC 3 u 2 := fun h k => .step (h0 h) (by decide) k.symm
  exact ⟨h0, h1, fun h k l => .step (h1 h k) (by decide) l.symm⟩
theorem wayC : Way gC 3 2 ∧ Way gC 3 1 ∧ Way gC 3 0 := by
  have h2 : Way gC 3 2 := .step .here (by decide)
  have h1 : Way gC 3 1 := .step h2 (by decide)
  exact ⟨h2, h1, .step h1 (by decide)⟩
theorem cutC {x : Nat} (h : AvG gC 3 2 x) : x = 3 := by
  induction h with
  | root _ => rfl
  | step _ hx hne ih =>
    subst ih
    rw [show succs gC 3 = [2] by decide, List.mem_singleton] at hx
    exact absurd hx hne
theorem cutC1 {x : Nat} (h : AvG gC 3 1 x) : x = 3 ∨ x = 2 := by
  induction h with
  | root _ => exact .inl rfl
  | step _ hx hne ih =>
    rcases ih with rfl | rfl
    · rw [show succs gC 3 = [2] by decide, List.mem_singleton] at hx; exact .inr hx
    · rw [show succs gC 2 = [1] by decide, List.mem_singleton] at hx; exact absurd hx hne
theorem works_c {L P : List Nat} {dm : Nat → Nat} (B : Bt gC 3 L P dm) : fz 4 (bf L dm) = [1, 2, 3, 3] := by
  have T := B.tree
  have h3 : bf L dm 3 = 3 := T.root
  have p3 : pth (bf L dm) (bd L dm) 3 = [3] := T.ptop
  obtain ⟨u2, e2, -, n2, a2, p2⟩ := B.imm wayC.1 (by decide)
  have h2 : u2 = 3 := Classical.byContradiction fun h => a2 ((avC u2).2.1 h n2)
  subst h2
  obtain ⟨u1, e1, -, n1, a1, p1⟩ := B.imm wayC.2.1 (by decide)
  have m1 := (B.dom ((B.sp.reach 1).2 wayC.2.1) 2).2 (fun h => absurd (cutC h) (by decide))
  have h1 : u1 = 2 := Classical.byContradiction fun h => by
    by_cases h5 : u1 = 3
    · subst h5; rw [p1, p3] at m1; revert m1; decide
    · exact a1 ((avC u1).2.2 h5 h n1)
  subst h1
  obtain ⟨u0, e0, -, n0, a0, p0⟩ := B.imm wayC.2.2 (by decide)
  have m0 := (B.dom ((B.sp.reach 0).2 wayC.2.2) 2).2 (fun h => absurd (cutC h) (by decide))
  have m01 := (B.dom ((B.sp.reach 0).2 wayC.2.2) 1).2 (fun h => by
    rcases cutC1 h with h | h <;> exact absurd h (by decide))
  have h0 : u0 = 1 := Classical.byContradiction fun h => by
    by_cases h5 : u0 = 3
    · subst h5; rw [p0, p3] at m0; revert m0; decide
    · by_cases h6 : u0 = 2
      · subst h6; rw [p0, p2, p3] at m01; revert m01; decide
      · exact a0 (.step ((avC u0).2.2 h5 h6 h) (by decide) n0.symm)
  subst h0
  have e0' : bf L dm 0 = 1 := e0
  have e1' : bf L dm 1 = 2 := e1
  have e2' : bf L dm 2 = 3 := e2
  simp [fz, List.range_succ, e0', e1', e2', h3]
end Go.Proofs.Ytmopnceglnoncaa

namespace Go.Proofs.Ytmopnceglnoncaa
open Go.RowKit Go.Shelf

theorem rdv_block (w : World) (t : TypeId) (vs : List Value) (hl : vs.length ≤ maxLen) : RdV (w.alloc (.cells vs.toArray t)) (.slice (some ⟨w.heap.size, 0, none⟩) vs.length vs.length) vs :=
  ⟨_, _, rfl, Nat.le_refl _, hl, fun _ => ⟨w.heap.size, 0, rfl, by simp, fun j z hz => by
    have h := (Whole.new w t vs.toArray).cell (0 + j)
    rw [h, Nat.zero_add]
    simpa using hz⟩⟩
theorem rdi_block (w : World) (l : List Int) (hl : l.length ≤ maxLen) : Rd (w.alloc (.cells (l.map (Value.int .i64)).toArray 3)) .i64 (.slice (some ⟨w.heap.size, 0, none⟩) l.length l.length) l := by
  have := rdv_block w 3 (l.map (Value.int .i64)) (by simpa using hl)
  rw [List.length_map] at this
  exact this.toI
theorem eq_same {u v : Value} {l : List Int} {w : World} (hu : Rd w .i64 u l) (hv : Rd w .i64 v l) : Calls Try.prog 11 #[u, v] w fun e w' => e = .returned (.bool true) ∧ Below w.heap.size w w' :=
  (eqi_any u v l l w hu hv).mono fun _ _ ⟨a, b⟩ => ⟨by rw [a, decide_eq_true rfl], b⟩
section
variable (A : Option Addr) (c : Nat) (W : World)
theorem t_build (hg : RdL W A c gA) : Calls Try.prog 12 #[.agg #[.slice A 4 c], .int .i64 0] W fun en w' => ∃ D L P dm, en = .returned (.slice (some ⟨D, 0, none⟩) 4 4) ∧ Bt gA 0 L P dm ∧ Own w' W.heap.size 3 .i64 (.slice (some ⟨D, 0, none⟩) 4 4) (fz 4 (bf L dm)) ∧ Below W.heap.size W w' :=
  (build_any A c gA 0 W hg (by decide) (by decide) (by decide)).mono fun _ _ ⟨D, L, P, dm, h1, h2, h3, h4, h5, h6⟩ => ⟨D, L, P, dm, h1, ⟨h2, h3, h4⟩, h5, h6⟩
theorem t_post (hg : RdL W A c gB) : Calls Try.prog 14 #[.agg #[.slice A 3 c]] W fun en w' => ∃ D, en = .returned (.slice (some ⟨D, 0, none⟩) 4 4) ∧ Own w' W.heap.size 3 .i64 (.slice (some ⟨D, 0, none⟩) 4 4) [1, 2, 3, 3] ∧ Below W.heap.size W w' :=
  (post_any A c gB W hg (by decide) (by decide) (by rw [gB_pg]; decide) (by rw [gB_pg]; decide)).mono fun _ _ ⟨D, L, P, dm, h1, h2, h3, h4⟩ => ⟨D, h1, by
    have h2' : Bt gC 3 L P dm := by have := h2; rw [gB_pg] at this; exact this
    rw [← works_c h2']; exact h3, h4⟩
theorem t_common {L P : List Nat} {dm : Nat → Nat} (B : Bt gA 0 L P dm) (hI : Rd W .i64 (.slice A 4 c) (fz 4 (bf L dm))) : Calls Try.prog 18 #[.slice A 4 c, .int .i64 1, .int .i64 2] W fun en w' => en = .returned (.int .i64 0) ∧ Below W.heap.size W w' := by
  have h := works_a B
  have := callsIn_wide.1 (common_in B.tree (by decide) 3 (Nat.le_refl _) A c 1 2 (by decide) (by rw [h.2.1]; decide) (by decide) (by rw [h.2.2.1]; decide) W hI)
  rw [works_cd B] at this
  exact this
theorem t_pre {L P : List Nat} {dm : Nat → Nat} (B : Bt gA 0 L P dm) (hI : Rd W .i64 (.slice A 4 c) (fz 4 (bf L dm))) : Calls Try.prog 25 #[.slice A 4 c] W fun en w' => ∃ v, en = .returned v ∧ Own w' W.heap.size 3 .i64 v [0, 1, 2, 3] ∧ Below W.heap.size W w' := by
  have := callsIn_wide.1 (preorder_in B.tree (by decide) 3 (Nat.le_refl _) A c W hI)
  rw [show gA.length = 4 from rfl, works_pre B] at this
  exact this
end

set_option maxRecDepth 100000 in
set_option maxHeartbeats 4000000 in
theorem works_any (w : World) : Calls Try.prog 10 #[] w fun en w' => en = .returned (.bool true) ∧ Below w.heap.size w w' := by
  obtain ⟨q, hq⟩ : ∃ q, w.heap.size = q := ⟨_, rfl⟩
  obtain ⟨a1, h1⟩ : ∃ x, w.alloc (.cells #[.int .i64 1, .int .i64 2] 3) = x := ⟨_, rfl⟩
  have s1 : a1.heap.size = q + 1 := by rw [← h1, World.size_alloc, hq]
  have b1 : Below w.heap.size w a1 := by rw [← h1]; exact (Below.refl _ _).alloc (Nat.le_refl _) _
  have r1 : Rd a1 .i64 (.slice (some ⟨q, 0, none⟩) 2 2) [1, 2] := by rw [← h1, ← hq]; exact rdi_block w [1, 2] (by unfold maxLen; decide)
  obtain ⟨a2, h2⟩ : ∃ x, a1.alloc (.cells #[.int .i64 3] 3) = x := ⟨_, rfl⟩
  have s2 : a2.heap.size = q + 1 + 1 := by rw [← h2, World.size_alloc, s1]
  have b2 : Below a1.heap.size a1 a2 := by rw [← h2]; exact (Below.refl _ _).alloc (Nat.le_refl _) _
  have r2 : Rd a2 .i64 (.slice (some ⟨q + 1, 0, none⟩) 1 1) [3] := by rw [← h2, ← s1]; exact rdi_block a1 [3] (by unfold maxLen; decide)
  obtain ⟨a3, h3⟩ : ∃ x, a2.alloc (.cells #[.int .i64 3] 3) = x := ⟨_, rfl⟩
  have s3 : a3.heap.size = q + 1 + 1 + 1 := by rw [← h3, World.size_alloc, s2]
  have b3 : Below a2.heap.size a2 a3 := by rw [← h3]; exact (Below.refl _ _).alloc (Nat.le_refl _) _
  have r3 : Rd a3 .i64 (.slice (some ⟨q + 1 + 1, 0, none⟩) 1 1) [3] := by rw [← h3, ← s2]; exact rdi_block a2 [3] (by unfold maxLen; decide)
  obtain ⟨a4, h4⟩ : ∃ x, a3.alloc (.cells #[.int .i64 1] 3) = x := ⟨_, rfl⟩
  have s4 : a4.heap.size = q + 1 + 1 + 1 + 1 := by rw [← h4, World.size_alloc, s3]
  have b4 : Below a3.heap.size a3 a4 := by rw [← h4]; exact (Below.refl _ _).alloc (Nat.le_refl _) _
  have r4 : Rd a4 .i64 (.slice (some ⟨q + 1 + 1 + 1, 0, none⟩) 1 1) [1] := by rw [← h4, ← s3]; exact rdi_block a3 [1] (by unfold maxLen; decide)
  obtain ⟨a5, h5⟩ : ∃ x, a4.alloc (.cells #[.slice (some ⟨q, 0, none⟩) 2 2, .slice (some ⟨q + 1, 0, none⟩) 1 1, .slice (some ⟨q + 1 + 1, 0, none⟩) 1 1, .slice (some ⟨q + 1 + 1 + 1, 0, none⟩) 1 1] 28) = x := ⟨_, rfl⟩
  have b5 : Below a4.heap.size a4 a5 := by rw [← h5]; exact (Below.refl _ _).alloc (Nat.le_refl _) _
  have r5 : RdV a5 (.slice (some ⟨q + 1 + 1 + 1 + 1, 0, none⟩) 4 4) [.slice (some ⟨q, 0, none⟩) 2 2, .slice (some ⟨q + 1, 0, none⟩) 1 1, .slice (some ⟨q + 1 + 1, 0, none⟩) 1 1, .slice (some ⟨q + 1 + 1 + 1, 0, none⟩) 1 1] := by rw [← h5, ← s4]; exact rdv_block a4 28 [.slice (some ⟨q, 0, none⟩) 2 2, .slice (some ⟨q + 1, 0, none⟩) 1 1, .slice (some ⟨q + 1 + 1, 0, none⟩) 1 1, .slice (some ⟨q + 1 + 1 + 1, 0, none⟩) 1 1] (by simp [maxLen])
  have HG : Hid (RdL a5 (some ⟨q + 1 + 1 + 1 + 1, 0, none⟩) 4 gA) := hide ⟨_, rfl, r5, fun i l hi => by
    match i, hi with
    | 0, hi => obtain rfl : [1, 2] = l := by simpa [gA] using hi
               exact ⟨_, _, rfl, (((r1.below' b2).below' b3).below' b4).below' b5⟩
    | 1, hi => obtain rfl : [3] = l := by simpa [gA] using hi
               exact ⟨_, _, rfl, ((r2.below' b3).below' b4).below' b5⟩
    | 2, hi => obtain rfl : [3] = l := by simpa [gA] using hi
               exact ⟨_, _, rfl, (r3.below' b4).below' b5⟩
    | 3, hi => obtain rfl : [1] = l := by simpa [gA] using hi
               exact ⟨_, _, rfl, r4.below' b5⟩
    | i + 4, hi => simp [gA] at hi⟩
  have HB5 : Hid (Below w.heap.size w a5) := hide ((((b1.trans (b2.mono b1.size)).trans (b3.mono (by omega))).trans (b4.mono (by omega))).trans (b5.mono (by omega)))
  clear b1 b2 b3 b4 b5 r1 r2 r3 r4 r5
  go_enter Try.func10, Try.ntmps10
  go_wp2_with fail
  refine (t_build _ 4 _ HG.out).mono ?_
  rintro en wb ⟨D, L, P, dm, rfl, hB, hO, hb⟩
  have HBT := hide hB
  have HT := hide hO.rd
  have HWB : Hid (Below w.heap.size w wb) := hide (HB5.out.trans (hb.mono HB5.out.size))
  clear hB hO hb HG HB5 h1 h2 h3 h4 h5 s1 s2 s3 s4
  obtain ⟨r, hr⟩ : ∃ r, wb.heap.size = r := ⟨_, rfl⟩
  obtain ⟨c1, h1⟩ : ∃ x, wb.alloc (.cells #[.int .i64 1] 3) = x := ⟨_, rfl⟩
  have s1 : c1.heap.size = r + 1 := by rw [← h1, World.size_alloc, hr]
  have b1 : Below wb.heap.size wb c1 := by rw [← h1]; exact (Below.refl _ _).alloc (Nat.le_refl _) _
  have r1 : Rd c1 .i64 (.slice (some ⟨r, 0, none⟩) 1 1) [1] := by rw [← h1, ← hr]; exact rdi_block wb [1] (by unfold maxLen; decide)
  obtain ⟨c2, h2⟩ : ∃ x, c1.alloc (.cells #[.int .i64 2] 3) = x := ⟨_, rfl⟩
  have s2 : c2.heap.size = r + 1 + 1 := by rw [← h2, World.size_alloc, s1]
  have b2 : Below c1.heap.size c1 c2 := by rw [← h2]; exact (Below.refl _ _).alloc (Nat.le_refl _) _
  have r2 : Rd c2 .i64 (.slice (some ⟨r + 1, 0, none⟩) 1 1) [2] := by rw [← h2, ← s1]; exact rdi_block c1 [2] (by unfold maxLen; decide)
  obtain ⟨c3, h3⟩ : ∃ x, c2.alloc (.cells #[.slice (some ⟨r, 0, none⟩) 1 1, .slice (some ⟨r + 1, 0, none⟩) 1 1, .slice none 0 0] 28) = x := ⟨_, rfl⟩
  have b3 : Below c2.heap.size c2 c3 := by rw [← h3]; exact (Below.refl _ _).alloc (Nat.le_refl _) _
  have r3 : RdV c3 (.slice (some ⟨r + 1 + 1, 0, none⟩) 3 3) [.slice (some ⟨r, 0, none⟩) 1 1, .slice (some ⟨r + 1, 0, none⟩) 1 1, .slice none 0 0] := by rw [← h3, ← s2]; exact rdv_block c2 28 [.slice (some ⟨r, 0, none⟩) 1 1, .slice (some ⟨r + 1, 0, none⟩) 1 1, .slice none 0 0] (by simp [maxLen])
  have HG : Hid (RdL c3 (some ⟨r + 1 + 1, 0, none⟩) 3 gB) := hide ⟨_, rfl, r3, fun i l hi => by
    match i, hi with
    | 0, hi => obtain rfl : [1] = l := by simpa [gB] using hi
               exact ⟨_, _, rfl, (r1.below' b2).below' b3⟩
    | 1, hi => obtain rfl : [2] = l := by simpa [gB] using hi
               exact ⟨_, _, rfl, r2.below' b3⟩
    | 2, hi => obtain rfl : [] = l := by simpa [gB] using hi
               exact ⟨_, _, rfl, Rd.nil⟩
    | i + 3, hi => simp [gB] at hi⟩
  have hb3 : Below wb.heap.size wb c3 := (b1.trans (b2.mono b1.size)).trans (b3.mono (by omega))
  have HB3 : Hid (Below w.heap.size w c3) := hide (HWB.out.trans (hb3.mono HWB.out.size))
  have HT3 := hide (HT.out.below' hb3)
  clear b1 b2 b3 r1 r2 r3 hb3 HT HWB
  go_wp2_with fail
  refine (t_post _ 3 _ HG.out).mono ?_
  rintro en wd ⟨D2, rfl, hO, hb⟩
  have HT4 := hide (HT3.out.below' hb)
  rw [works_list HBT.out] at HT4
  have HTF := hide (HT3.out.below' hb)
  have HP4 := hide hO.rd
  have HB4 : Hid (Below w.heap.size w wd) := hide (HB3.out.trans (hb.mono HB3.out.size))
  clear hO hb HG HB3 HT3 h1 h2 h3 s1 s2 hr
  obtain ⟨e1, he1⟩ : ∃ x, wd.alloc (.cells #[.int .i64 0, .int .i64 0, .int .i64 0, .int .i64 0] 3) = x := ⟨_, rfl⟩
  have be1 : Below wd.heap.size wd e1 := by rw [← he1]; exact (Below.refl _ _).alloc (Nat.le_refl _) _
  have re1 : Rd e1 .i64 (.slice (some ⟨wd.heap.size, 0, none⟩) 4 4) [0, 0, 0, 0] := by rw [← he1]; exact rdi_block wd [0, 0, 0, 0] (by unfold maxLen; decide)
  have HQ := hide (eq_same (HT4.out.below' be1) re1)
  have HTE := hide (HTF.out.below' be1)
  have HPE := hide (HP4.out.below' be1)
  have HBE : Hid (Below w.heap.size w e1) := hide (HB4.out.trans (be1.mono HB4.out.size))
  clear be1 re1 HT4 HTF HP4 HB4
  go_wp2_with fail
  refine HQ.out.mono ?_
  rintro en e2 ⟨rfl, hb⟩
  have HTF := hide (HTE.out.below' hb)
  have HPF := hide (HPE.out.below' hb)
  have HBF : Hid (Below w.heap.size w e2) := hide (HBE.out.trans (hb.mono HBE.out.size))
  clear hb HQ HTE HPE HBE he1
  go_wp2_with fail
  refine (t_common _ _ _ HBT.out HTF.out).mono ?_
  rintro en e3 ⟨rfl, hb⟩
  have HTG := hide (HTF.out.below' hb)
  have HPG := hide (HPF.out.below' hb)
  have HBG : Hid (Below w.heap.size w e3) := hide (HBF.out.trans (hb.mono HBF.out.size))
  clear hb HTF HPF HBF
  go_wp2_with fail
  refine (t_pre _ _ _ HBT.out HTG.out).mono ?_
  rintro en e4 ⟨v, rfl, hv, hb⟩
  have HPH := hide (HPG.out.below' hb)
  have HBH : Hid (Below w.heap.size w e4) := hide (HBG.out.trans (hb.mono HBG.out.size))
  obtain ⟨f1, hf1⟩ : ∃ x, e4.alloc (.cells #[.int .i64 0, .int .i64 1, .int .i64 2, .int .i64 3] 3) = x := ⟨_, rfl⟩
  have bf1 : Below e4.heap.size e4 f1 := by rw [← hf1]; exact (Below.refl _ _).alloc (Nat.le_refl _) _
  have rf1 : Rd f1 .i64 (.slice (some ⟨e4.heap.size, 0, none⟩) 4 4) [0, 1, 2, 3] := by rw [← hf1]; exact rdi_block e4 [0, 1, 2, 3] (by unfold maxLen; decide)
  have HQ := hide (eq_same (hv.rd.below' bf1) rf1)
  have HPI := hide (HPH.out.below' bf1)
  have HBI : Hid (Below w.heap.size w f1) := hide (HBH.out.trans (bf1.mono HBH.out.size))
  clear hb hv bf1 rf1 HPG HBG HTG HPH HBH
  go_wp2_with fail
  refine HQ.out.mono ?_
  rintro en e5 ⟨rfl, hb⟩
  have HPJ := hide (HPI.out.below' hb)
  have HBJ : Hid (Below w.heap.size w e5) := hide (HBI.out.trans (hb.mono HBI.out.size))
  obtain ⟨f2, hf2⟩ : ∃ x, e5.alloc (.cells #[.int .i64 1, .int .i64 2, .int .i64 3, .int .i64 3] 3) = x := ⟨_, rfl⟩
  have bf2 : Below e5.heap.size e5 f2 := by rw [← hf2]; exact (Below.refl _ _).alloc (Nat.le_refl _) _
  have rf2 : Rd f2 .i64 (.slice (some ⟨e5.heap.size, 0, none⟩) 4 4) [1, 2, 3, 3] := by rw [← hf2]; exact rdi_block e5 [1, 2, 3, 3] (by unfold maxLen; decide)
  have HQ2 := hide (eq_same (HPJ.out.below' bf2) rf2)
  have HBK : Hid (Below w.heap.size w f2) := hide (HBJ.out.trans (bf2.mono HBJ.out.size))
  clear hb bf2 rf2 HPI HBI HPJ HBJ HQ hf1
  go_wp2_with fail
  refine HQ2.out.mono ?_
  rintro en e6 ⟨rfl, hb⟩
  have HBL : Hid (Below w.heap.size w e6) := hide (HBK.out.trans (hb.mono HBK.out.size))
  clear hb HBK HQ2 hf2
  go_wp2_with fail
  go_ret
  exact ⟨rfl, HBL.out⟩
end Go.Proofs.Ytmopnceglnoncaa

/-
  Layer 8 (domtree): CommonDominator of a tree.
-/
import Derived.Test.YtmopnceglnoncaaDepths
import Derived.Test.YtmopnceglnoncaaChildren
namespace Go.Proofs.Ytmopnceglnoncaa
open Go.RowKit Go.Shelf

attribute [local go_sem] Oper.semAt_some

/-- Of n numbers, which are in the list. -/
def bz (n : Nat) (P : List Nat) : List Value := (List.range n).map fun x => Value.bool (decide (x ∈ P))
theorem bz_len (n : Nat) (P : List Nat) : (bz n P).length = n := by simp [bz]
theorem bz_nil (n : Nat) : bz n [] = List.replicate n (.bool false) := by
  apply List.ext_getElem
  · simp [bz]
  · intro i h1 h2; simp [bz]
theorem bz_get {n x : Nat} (P : List Nat) (h : x < n) : (bz n P)[x]? = some (.bool (decide (x ∈ P))) := by simp [bz, h]
theorem bz_set {n x : Nat} (P : List Nat) : (bz n P).set x (.bool true) = bz n (P ++ [x]) := by
  apply List.ext_getElem
  · simp [bz]
  · intro i h1 h2
    rw [List.getElem_set]
    by_cases h : x = i
    · subst h; simp [bz]
    · have : ¬ i = x := fun e => h e.symm
      simp [bz, h, this]
theorem OwnV.turn {W W' : World} {q base : Nat} {row : Option Nat} {e : TypeId} {v : Value} {l : List Value} (h : OwnV W base e v l) (k : Turn q W W' row) : OwnV W' base e v l := by
  refine World.ownsRow.kept h k.1 ?_
  cases hv : v.ownBlock with
  | none => exact .inl rfl
  | some g =>
    refine .inr fun e => ?_
    obtain ⟨-, o, ho, hc⟩ := k.2 g e.symm
    rcases h.2 with ⟨e1, _⟩ | ⟨g', cap, cur, e1, _, hh, _⟩
    · rw [e1] at hv; cases hv
    · rw [e1] at hv
      have : g' = g := by simpa [Value.ownBlock] using hv
      subst this
      rw [hh] at ho
      cases ho; cases hc
/-- What CommonDominator holds: the result at q, the row of bools at z and its cell. -/
structure CSt (w : World) (q z n : Nat) (P : List Nat) (W : World) : Prop where
  rs : Whole W q 3 #[.int .i64 0]
  dt : OwnV W z 4 (.slice (some ⟨z, 0, none⟩) n n) (bz n P)
  db : Whole W (z + 1) 39 #[.slice (some ⟨z, 0, none⟩) n n]
  bl : Below q w W
section
variable {w W W' : World} {q z n : Nat} {P : List Nat} {row : Option Nat}
theorem CSt.size (h : CSt w q z n P W) : z + 1 < W.heap.size := h.db.lt
theorem CSt.turn (h : CSt w q z n P W) (hq : q ≤ z) (k : Turn q W W' row) : CSt w q z n P W' := ⟨h.rs.turn k, h.dt.turn k, h.db.turn k, below_turn h.bl (by have := h.size; omega) k⟩
theorem CSt.frm (h : CSt w q z n P W) (hq : q < z) {S : List Nat} (hf : Frm W W' S) (hs : ∀ x ∈ S, z + 2 ≤ x) : CSt w q z n P W' := by
  have hz := h.size
  have key : ∀ x, x < z + 2 → x ∉ S := fun x hx hm => by have := hs x hm; omega
  exact ⟨(hf.block _ h.rs.lt (key _ (by omega))).trans h.rs, h.dt.frm hf (fun g hg => by
    have e : g = z := by simpa [Value.ownBlock] using hg.symm
    rw [e]; exact key _ (by omega)), (hf.block _ h.db.lt (key _ (by omega))).trans h.db, h.bl.trans (hf.toBelow (fun x hx => by have := hs x hx; omega) (by omega))⟩
theorem CSt.set (h : CSt w q z n P W) (hq : q < z) (x : Nat) : CSt w q z n (P ++ [x]) (W.setCell ⟨z, x, none⟩ (.bool true)) := by
  have hsz := h.size
  have hf : Frm W (W.setCell ⟨z, x, none⟩ (.bool true)) [z] := (Frm.refl W [z]).setCell _ _ (.inl (by simp))
  have h1 := h.dt.set x (.bool true)
  rw [bz_set] at h1
  exact ⟨(hf.block _ h.rs.lt (by simp; omega)).trans h.rs, h1, (hf.block _ h.db.lt (by simp)).trans h.db, h.bl.trans (hf.toBelow (fun x hx => by simp at hx; omega) (by omega))⟩
end
/-- The nearest that is above both. -/
def cd (f : Nat → Int) (dp : Nat → Nat) (a b : Nat) : Nat := ((pth f dp b).find? fun x => decide (x ∈ pth f dp a)).getD 0
theorem cd_of {f : Nat → Int} {dp : Nat → Nat} {a b x : Nat} {p : List Nat} (h : p ++ [x] <+: pth f dp b) (hx : x ∈ pth f dp a) (hp : ∀ y ∈ p, y ∉ pth f dp a) : cd f dp a b = x := by
  obtain ⟨l, hl⟩ := h
  have e : p.find? (fun x => decide (x ∈ pth f dp a)) = none := List.find?_eq_none.2 (fun y hy => by simpa using hp y hy)
  unfold cd
  rw [← hl, List.append_assoc, List.find?_append, e]
  simp [hx]
theorem Tr.rootmem {n r : Nat} {f : Nat → Int} {dp : Nat → Nat} (T : Tr n f r dp) : ∀ k i, dp i = k → i < n → f i ≠ -1 → r ∈ pth f dp i := fun k => by
  induction k using Nat.strongRecOn with
  | _ k ih =>
    intro i hk hi hf
    by_cases e : i = r
    · subst e; rw [T.ptop]; simp
    · obtain ⟨u, h1, h2, h3, h4, h5, h6, h7⟩ := T.node hi hf e
      rw [h7]
      exact List.mem_cons_of_mem _ (ih (dp u) (by omega) u rfl h3 h4)

set_option maxRecDepth 100000 in
set_option maxHeartbeats 16000000 in
theorem common_in {n r : Nat} {f : Nat → Int} {dp : Nat → Nat} (T : Tr n f r dp) (hn : n ≤ 65536) (m : Nat) (hm : 3 ≤ m) (A : Option Addr) (c : Nat) (a b : Nat) (ha : a < n) (hfa : f a ≠ -1) (hb : b < n) (hfb : f b ≠ -1) (w : World) (hI : Rd w .i64 (.slice A n c) (fz n f)) :
    CallsIn Fence.wide m Try.prog 18 #[.slice A n c, .int .i64 (a : Nat), .int .i64 (b : Nat)] w fun en w' => en = .returned (.int .i64 ((cd f dp a b : Nat) : Int)) ∧ Below w.heap.size w w' := by
  obtain ⟨Ab, Ao, rfl, hbl, -⟩ := rd_at hI (fz_get f T.rlt)
  obtain ⟨q, hq⟩ : ∃ q, w.heap.size = q := ⟨_, rfl⟩
  obtain ⟨w1, hw1⟩ : ∃ x, w.alloc (.cells #[.int .i64 0] 3) = x := ⟨_, rfl⟩
  have hs1 : w1.heap.size = q + 1 := by rw [← hw1, World.size_alloc, hq]
  have hb1 : Below w.heap.size w w1 := by rw [← hw1]; exact (Below.refl _ _).alloc (Nat.le_refl _) _
  have hR1 : Whole w1 q 3 #[.int .i64 0] := by rw [← hq, ← hw1]; exact Whole.new _ _ _
  have hI1 := hI.below' hb1
  have HTR := hide (isTree_tree T hn (some ⟨Ab, Ao, none⟩) c w1 hI1)
  have HT := hide T
  have HI := hide hI
  have HB1 : Hid (Below q w w1) := hide (by rw [← hq]; exact hb1)
  have HR1 := hide hR1
  have h1 : 1 ≤ m := by omega
  clear hb1 hR1 hI1 T hI
  refine callsIn_of_wp_marks Try.func18 rfl trivial ?_ rfl
  simp only [Try.ntmps18, List.size_toArray, List.length_cons, List.length_nil, Nat.reduceAdd, Nat.reduceSub, Array.replicate_succ, Array.replicate_zero, List.push_toArray, List.append_toArray, List.nil_append, List.cons_append]
  gi_wp2_with (refine ⟨trivial, ?_⟩; gi_at_call 37; refine (callsIn_wide.2 HTR.out).mono ?_; rintro e w2 ⟨rfl, hb2⟩)
  have hI2 := HI.out.below' (by rw [hq]; exact HB1.out.trans (hb2.mono (by omega)))
  have HIN : Hid (∀ i : Nat, i = a ∨ i = b → Calls Try.prog 38 #[.slice (some ⟨Ab, Ao, none⟩) n c, .int .i64 (i : Nat)] w2 fun en w' => en = .returned (.bool true) ∧ w' = w2) := hide (fun i hi => by
    have h := inTree_any (some ⟨Ab, Ao, none⟩) c n f (i : Int) w2 hI2
    rwa [show inT n f (i : Int) = true by rcases hi with rfl | rfl <;> (first | exact inT_yes ha hfa | exact inT_yes hb hfb)] at h)
  have HB2 : Hid (Below q w w2) := hide (HB1.out.trans (hb2.mono (by omega)))
  have HR2 := hide (HR1.out.below' hb2)
  obtain ⟨z, hz⟩ : ∃ z, w2.heap.size = z := ⟨_, rfl⟩
  have hqz : q < z := by rw [← hz]; have := hb2.size; omega
  have hmk := run_made w2 39 4 (.bool false) 1 Try.underlying39 infoBool rfl (by omega) n (by omega)
  obtain ⟨w3, hw3⟩ : ∃ x, w2.alloc (.cells (madeCells #[.bool false] n) 4) = x := ⟨_, rfl⟩
  have hs3 : w3.heap.size = z + 1 := by rw [← hw3, World.size_alloc, hz]
  have hb3 : Below w2.heap.size w2 w3 := by rw [← hw3]; exact (Below.refl _ _).alloc (Nat.le_refl _) _
  obtain ⟨w4, hw4⟩ : ∃ x, w3.alloc (.cells #[.slice none 0 0] 39) = x := ⟨_, rfl⟩
  have hs4 : w4.heap.size = z + 2 := by rw [← hw4, World.size_alloc, hs3]
  have hb4 : Below w3.heap.size w3 w4 := by rw [← hw4]; exact (Below.refl _ _).alloc (Nat.le_refl _) _
  have hD4 : Whole w4 (z + 1) 39 #[.slice none 0 0] := by rw [← hs3, ← hw4]; exact Whole.new _ _ _
  obtain ⟨w5, hw5⟩ : ∃ x, w4.setCell ⟨z + 1, 0, none⟩ (.slice (some ⟨z, 0, none⟩) n n) = x := ⟨_, rfl⟩
  have hD5 : Whole w5 (z + 1) 39 #[.slice (some ⟨z, 0, none⟩) n n] := by rw [← hw5]; exact hD4.set 0 _
  have a1 : w4.cell? ⟨z + 1, 0, none⟩ = some (.slice none 0 0) := hD4.cell 0
  have a1f := hD4.free 0
  have hf35 : Frm w3 w5 [] := by rw [← hw5]; exact (Frm.below hb4).setCell _ _ (.inr (by show w3.heap.size ≤ z + 1; omega))
  have hf5 : Frm w2 w5 [] := (Frm.below hb3).trans hf35
  have hs5 : w5.heap.size = z + 2 := by rw [← hw5]; simpa [World.setCell] using hs4
  have hS5 : CSt w q z n [] w5 := by
    refine ⟨(hf5.block _ HR2.out.lt (by simp)).trans HR2.out, ?_, hD5, HB2.out.trans (hf5.toBelow (by simp) (by omega))⟩
    have h3 : OwnV w3 z 4 (.slice (some ⟨z, 0, none⟩) n n) (bz n []) := by
      rw [bz_nil, ← hz, ← hw3]
      exact own_madeV w2 4 (.bool false) n w2.heap.size (by unfold maxLen; omega) (Nat.le_refl _)
    exact h3.frm hf35 (fun _ _ => by simp)
  obtain ⟨w6, hw6⟩ : ∃ x, w5.alloc (.cells #[.slice (some ⟨Ab, Ao, none⟩) n c] 28) = x := ⟨_, rfl⟩
  have hs6 : w6.heap.size = z + 2 + 1 := by rw [← hw6, World.size_alloc, hs5]
  have hb6 : Below w5.heap.size w5 w6 := by rw [← hw6]; exact (Below.refl _ _).alloc (Nat.le_refl _) _
  have hX6 : Whole w6 (z + 2) 28 #[.slice (some ⟨Ab, Ao, none⟩) n c] := by rw [← hs5, ← hw6]; exact Whole.new _ _ _
  obtain ⟨w7, hw7⟩ : ∃ x, w6.alloc (.cells #[.int .i64 (a : Nat)] 3) = x := ⟨_, rfl⟩
  have hs7 : w7.heap.size = z + 4 := by rw [← hw7, World.size_alloc, hs6]
  have hb7 : Below w6.heap.size w6 w7 := by rw [← hw7]; exact (Below.refl _ _).alloc (Nat.le_refl _) _
  have hX7 : Whole w7 (z + 2 + 1) 3 #[.int .i64 (a : Nat)] := by rw [← hs6, ← hw7]; exact Whole.new _ _ _
  have hb57 : Below w5.heap.size w5 w7 := hb6.trans (hb7.mono (by omega))
  have HX := hide (And.intro (hX7.cell 0) ((hX6.below' hb7).cell 0))
  have HAC := hide (anc_call (some ⟨Ab, Ao, none⟩) n c a w5)
  rw [hs5, hw6, hw7] at HAC
  have HS7 := hide (hS5.frm hqz (Frm.below (S := []) hb57) (by simp))
  have HI7 := hide (HI.out.below' (by rw [hq]; exact HS7.out.bl))
  clear hb2 hb3 hb4 hD4 hD5 hf35 hf5 hS5 hb6 hX6 hb7 hX7 hb57 hI2 hs6
  gi_wp2_with (first | (refine ⟨trivial, ?_⟩; gi_at_call 38; refine (callsIn_wide.2 (HIN.out _ (by first | exact .inl rfl | exact .inr rfl))).mono ?_; rintro e w' ⟨rfl, hw'⟩; obtain rfl := hw') | (refine ⟨trivial, ?_⟩; gi_at_call 39; refine (callsIn_wide.2 HAC.out).mono ?_; rintro e w' ⟨rfl, hw'⟩; obtain rfl := hw'))
  clear hmk hw1 hs1 hz hw3 hs3 hw4 hs4 hw5 hs5 a1 a1f HIN HAC HTR HB1 HR1 HB2 HR2 hw6 hw7
  refine' wpIn_rangeFunc_ownF rfl h1 (gf := 53) (lb := #[.pointer (some ⟨z + 2 + 1, 0, none⟩), .pointer (some ⟨z + 2, 0, none⟩)]) rfl trivial (enters_of Try.func53 (by kernel_rfl) rfl)
    (anc_stops HT.out (m - 1) (z + 2 + 1) (z + 2) Ab Ao c a (z + 4) [z] (by omega) ha hfa w7 (fun j hj => ⟨by omega, by simp; omega⟩) (by omega) (by omega) HX.out.1 HX.out.2 HI7.out) Kq.t (Kq.b (by omega)) (Below.refl _ _) (fun _ => rfl)
    (fun pre W => Hid (CSt w q z n (vals pre) W ∧ z + 4 ≤ W.heap.size))
    (fun _ _ _ => False)
    ?own ?ownx ?h0 _ ?assign ?body ?done ?stop
  case own =>
    rintro pre X Y row hh hg hr
    obtain ⟨g1, g5⟩ := hh.out
    have kt : Turn q X Y row := ⟨hg, fun r e => ⟨by have := (hr r e).1; omega, (hr r e).2⟩⟩
    exact hide ⟨g1.turn (by omega) kt, Nat.le_trans g5 hg.size⟩
  case ownx =>
    rintro c' pre X Y row hh hg hr
    exact hh.elim
  case h0 => exact hide ⟨HS7.out, by omega⟩
  case assign =>
    intro l x W K hK
    gi_wp2
    simpa using hK
  case body =>
    rintro l pre ⟨x, hx, hfx⟩ W hh hpl
    obtain ⟨g1, g5⟩ := hh.out
    have hx' : (x : Int) < n := by omega
    have HPS : Hid (∀ h, vals (pre ++ [⟨x, h⟩]) = vals pre ++ [x]) := hide (fun h => vals_snoc pre ⟨x, h⟩)
    have k0 : W.cell? ⟨z + 1, 0, none⟩ = some (.slice (some ⟨z, 0, none⟩) n n) := g1.db.cell 0
    have k1 := g1.dt.cellAt (bz_get (vals pre) hx)
    have k1f := g1.dt.freeAt x
    have HG := hide (And.intro (g1.set hqz x) g5)
    clear g1 g5 hh hpl
    gi_wp2
    exact ⟨KeepsOthers.setCell _ _ _, Kq.set _ _ _ (.inl (by simp)), hide ⟨by rw [HPS.out]; exact HG.out.1, by have := HG.out.2; simpa [World.setCell] using this⟩⟩
  case stop =>
    rintro D c' pre W _ _ hh _
    exact hh.elim
  case done =>
    rintro D ys W hDz hys hh hDW
    obtain ⟨g1, g5⟩ := hh.out
    have hys' : vals ys = pth f dp a := hys
    rw [hys'] at g1
    obtain ⟨y, hy⟩ : ∃ y, W.heap.size = y := ⟨_, rfl⟩
    have hDy : D < y := by rw [← hy]; exact (Array.getElem?_eq_some_iff.1 hDW).1
    obtain ⟨w8, hw8⟩ : ∃ x, W.alloc (.cells #[.slice (some ⟨Ab, Ao, none⟩) n c] 28) = x := ⟨_, rfl⟩
    have hs8 : w8.heap.size = y + 1 := by rw [← hw8, World.size_alloc, hy]
    have hb8 : Below W.heap.size W w8 := by rw [← hw8]; exact (Below.refl _ _).alloc (Nat.le_refl _) _
    have hX8 : Whole w8 y 28 #[.slice (some ⟨Ab, Ao, none⟩) n c] := by rw [← hy, ← hw8]; exact Whole.new _ _ _
    obtain ⟨w9, hw9⟩ : ∃ x, w8.alloc (.cells #[.int .i64 (b : Nat)] 3) = x := ⟨_, rfl⟩
    have hs9 : w9.heap.size = y + 2 := by rw [← hw9, World.size_alloc, hs8]
    have hb9 : Below w8.heap.size w8 w9 := by rw [← hw9]; exact (Below.refl _ _).alloc (Nat.le_refl _) _
    have hX9 : Whole w9 (y + 1) 3 #[.int .i64 (b : Nat)] := by rw [← hs8, ← hw9]; exact Whole.new _ _ _
    have hb89 : Below W.heap.size W w9 := hb8.trans (hb9.mono (by omega))
    have HX2 := hide (And.intro (hX9.cell 0) ((hX8.below' hb9).cell 0))
    have HAC := hide (anc_call (some ⟨Ab, Ao, none⟩) n c b W)
    rw [hy, hw8, hw9] at HAC
    have HS9 := hide (g1.frm hqz (Frm.below (S := []) hb89) (by simp))
    have HI9 := hide (HI.out.below' (by rw [hq]; exact HS9.out.bl))
    have HD9 : Hid (Quiets [D] w9) := hide (fun E hE => by
      rw [List.mem_singleton.1 hE]
      exact (hb89.block D (by omega)).trans hDW)
    have hDq : q ≤ D := by omega
    have hzy : z + 4 ≤ y := by omega
    clear g1 g5 hys hys' hh hDW hy hw8 hs8 hb8 hX8 hw9 hb9 hX9 hb89 HS7 HX HI7 hs7 hDz
    gi_wp2_with (refine ⟨trivial, ?_⟩; gi_at_call 39; refine (callsIn_wide.2 HAC.out).mono ?_; rintro e w' ⟨rfl, hw'⟩; obtain rfl := hw')
    refine' wpIn_rangeFunc_ownF rfl h1 (gf := 53) (lb := #[.pointer (some ⟨y + 1, 0, none⟩), .pointer (some ⟨y, 0, none⟩)]) rfl trivial (enters_of Try.func53 (by kernel_rfl) rfl)
      (anc_stops HT.out (m - 1) (y + 1) y Ab Ao c b (y + 2) [q] (by omega) hb hfb w9 (fun j hj => ⟨by omega, by simp; omega⟩) (by omega) (by omega) HX2.out.1 HX2.out.2 HI9.out) Kq.t (Kq.b (by omega)) (Below.refl _ _) (fun _ => rfl)
      (fun pre W => Hid (CSt w q z n (pth f dp a) W ∧ (∀ x ∈ vals pre, x ∉ pth f dp a) ∧ Quiets [D] W ∧ y + 2 ≤ W.heap.size))
      (fun c' pre W => Hid (c' = .ret ∧ (∃ p x, vals pre = p ++ [x] ∧ x ∈ pth f dp a ∧ (∀ y ∈ p, y ∉ pth f dp a) ∧ Whole W q 3 #[.int .i64 (x : Nat)]) ∧ Below q w W ∧ Quiets [D] W ∧ y + 2 ≤ W.heap.size))
      ?own2 ?ownx2 ?h02 _ ?assign2 ?body2 ?done2 ?stop2
    case own2 =>
      rintro pre X Y row hh hg hr
      obtain ⟨g1, g2, g3, g5⟩ := hh.out
      have kt : Turn q X Y row := ⟨hg, fun r e => ⟨by have := (hr r e).1; omega, (hr r e).2⟩⟩
      exact hide ⟨g1.turn (by omega) kt, g2, fun E hE => (hg.block E (by have := List.mem_singleton.1 hE; omega) (fun e => by have := (hr E e.symm).1; have := List.mem_singleton.1 hE; omega)).trans (g3 E hE), Nat.le_trans g5 hg.size⟩
    case ownx2 =>
      rintro c' pre X Y row hh hg hr
      obtain ⟨g0, ⟨p, x, g1, g2, g3, g4⟩, g5, g6, g7⟩ := hh.out
      have kt : Turn q X Y row := ⟨hg, fun r e => ⟨by have := (hr r e).1; omega, (hr r e).2⟩⟩
      exact hide ⟨g0, ⟨p, x, g1, g2, g3, g4.turn kt⟩, below_turn g5 (by omega) kt, fun E hE => (hg.block E (by have := List.mem_singleton.1 hE; omega) (fun e => by have := (hr E e.symm).1; have := List.mem_singleton.1 hE; omega)).trans (g6 E hE), Nat.le_trans g7 hg.size⟩
    case h02 => exact hide ⟨HS9.out, (fun x h => by cases h), HD9.out, by omega⟩
    case assign2 =>
      intro l x W K hK
      gi_wp2
      simpa using hK
    case body2 =>
      rintro l pre ⟨x, hx, hfx⟩ W hh hpl
      obtain ⟨g1, g2, g3, g5⟩ := hh.out
      have hx' : (x : Int) < n := by omega
      have HPS : Hid (∀ h, vals (pre ++ [⟨x, h⟩]) = vals pre ++ [x]) := hide (fun h => vals_snoc pre ⟨x, h⟩)
      have k0 : W.cell? ⟨z + 1, 0, none⟩ = some (.slice (some ⟨z, 0, none⟩) n n) := g1.db.cell 0
      have k1 := g1.dt.cellAt (bz_get (pth f dp a) hx)
      by_cases hxa : x ∈ pth f dp a
      · rw [decide_eq_true hxa] at k1
        have k2 : W.cell? ⟨q, 0, none⟩ = some (.int .i64 0) := g1.rs.cell 0
        have k2f := g1.rs.free 0
        have HXA := hide hxa
        have HG := hide (And.intro g1 (And.intro g2 (And.intro g3 g5)))
        clear g1 g2 g3 g5 hxa hh hpl
        gi_wp2
        exact ⟨KeepsOthers.setCell _ _ _, hide ⟨rfl, ⟨vals pre, x, HPS.out _, HXA.out, HG.out.2.1, HG.out.1.rs.set 0 _⟩, HG.out.1.bl.setCell (p := ⟨q, 0, none⟩) (Nat.le_refl q) _, fun E hE => (KeepsOthers.setCell W _ _).same E _ (HG.out.2.2.1 E hE) rfl, by have := HG.out.2.2.2; simpa [World.setCell] using this⟩⟩
      · rw [decide_eq_false hxa] at k1
        have HXA := hide hxa
        have HG := hide (And.intro g1 (And.intro g2 (And.intro g3 g5)))
        clear g1 g2 g3 g5 hxa hh hpl
        gi_wp2
        exact ⟨KeepsOthers.refl _, Kq.refl _ _ _, hide ⟨HG.out.1, fun y hy => by
          rw [HPS.out] at hy
          rcases List.mem_append.1 hy with hy | hy
          · exact HG.out.2.1 y hy
          · rw [List.mem_singleton.1 hy]; exact HXA.out, HG.out.2.2.1, HG.out.2.2.2⟩⟩
    case done2 =>
      rintro D2 ys W hDz hys hh hDW
      have hys' : vals ys = pth f dp b := hys
      exact absurd (HT.out.rootmem _ a rfl ha hfa) (hh.out.2.1 r (by rw [hys']; exact HT.out.rootmem _ b rfl hb hfb))
    case stop2 =>
      rintro D2 c' pre W hDz hpr hh hDW
      obtain ⟨rfl, ⟨p, x, g1, g2, g3, g4⟩, g5, g6, g7⟩ := hh.out
      have hpr' : vals pre <+: pth f dp b := hpr
      rw [g1] at hpr'
      have HE := hide (cd_of hpr' g2 g3)
      have HM : Hid (Marks q [D2, D] W) := hide ⟨by simp; omega, fun E hE => by
        rcases List.mem_cons.1 hE with rfl | hE
        · exact ⟨by omega, hDW⟩
        · rw [List.mem_singleton.1 hE]; exact ⟨hDq, g6 D (by simp)⟩⟩
      have HZ : Hid (Whole W q 3 #[.int .i64 (x : Nat)] ∧ Below q w W ∧ q ≤ W.heap.size) := hide ⟨g4, g5, by omega⟩
      clear g1 g2 g3 g4 g5 g6 g7 hpr hpr' hh hDW
      gi_wp2
      refine leavesM (B := q) (Others q) (Others.refl _) (fun h k => h.trans k) (fun X D hD hd => Others.put hD hd) [D2, D] W HM.out ?_
      intro Y hY
      have r0 : Y.cell? ⟨q, 0, none⟩ = some (.int .i64 (x : Nat)) := (hY.whole HZ.out.1).cell 0
      refine ⟨.int .i64 (x : Nat), ?_, by rw [HE.out], by rw [hq]; exact hY.below (Nat.le_refl _) HZ.out.2.2 HZ.out.2.1⟩
      simp [results, Try.f18, go_sem, r0]
end Go.Proofs.Ytmopnceglnoncaa

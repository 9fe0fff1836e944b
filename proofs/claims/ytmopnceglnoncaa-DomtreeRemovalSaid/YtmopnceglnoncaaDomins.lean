/-
  Layer 8 (domtree): Dominates of a tree.
-/
import Derived.Test.YtmopnceglnoncaaDepths
import Derived.Test.YtmopnceglnoncaaChildren
namespace Go.Proofs.Ytmopnceglnoncaa
open Go.RowKit Go.Shelf

attribute [local go_sem] Oper.semAt_some

set_option maxRecDepth 100000 in
set_option maxHeartbeats 8000000 in
theorem dominates_in {n r : Nat} {f : Nat → Int} {dp : Nat → Nat} (T : Tr n f r dp) (hn : n ≤ 65536) (m : Nat) (hm : 3 ≤ m) (A : Option Addr) (c : Nat) (a b : Nat) (ha : a < n) (hfa : f a ≠ -1) (hb : b < n) (hfb : f b ≠ -1) (w : World) (hI : Rd w .i64 (.slice A n c) (fz n f)) :
    CallsIn Fence.wide m Try.prog 16 #[.slice A n c, .int .i64 (a : Nat), .int .i64 (b : Nat)] w fun en w' => en = .returned (.bool (decide (a ∈ pth f dp b))) ∧ Below w.heap.size w w' := by
  obtain ⟨Ab, Ao, rfl, hbl, -⟩ := rd_at hI (fz_get f T.rlt)
  obtain ⟨q, hq⟩ : ∃ q, w.heap.size = q := ⟨_, rfl⟩
  obtain ⟨w1, hw1⟩ : ∃ x, w.alloc (.cells #[.int .i64 (a : Nat)] 3) = x := ⟨_, rfl⟩
  obtain ⟨w2, hw2⟩ : ∃ x, w1.alloc (.cells #[.bool false] 4) = x := ⟨_, rfl⟩
  have hs1 : w1.heap.size = q + 1 := by rw [← hw1, World.size_alloc, hq]
  have hs2 : w2.heap.size = q + 2 := by rw [← hw2, World.size_alloc, hs1]
  have hb1 : Below w.heap.size w w1 := by rw [← hw1]; exact (Below.refl _ _).alloc (Nat.le_refl _) _
  have hb2 : Below w1.heap.size w1 w2 := by rw [← hw2]; exact (Below.refl _ _).alloc (Nat.le_refl _) _
  have hA2 : Whole w2 q 3 #[.int .i64 (a : Nat)] := by
    have : Whole w1 q 3 #[.int .i64 (a : Nat)] := by rw [← hq, ← hw1]; exact Whole.new _ _ _
    exact this.below' hb2
  have hR2 : Whole w2 (q + 1) 4 #[.bool false] := by rw [← hs1, ← hw2]; exact Whole.new _ _ _
  have hB2 : Below q w w2 := by rw [← hq]; exact hb1.trans (hb2.mono hb1.size)
  have hI2 := hI.below' (by rw [hq]; exact hB2)
  have HTR := hide (isTree_tree T hn (some ⟨Ab, Ao, none⟩) c w2 hI2)
  have HT := hide T
  have HI := hide hI
  have HB2 := hide hB2
  have HA2 := hide hA2
  have HR2 := hide hR2
  have c1 : w2.cell? ⟨q, 0, none⟩ = some (.int .i64 (a : Nat)) := hA2.cell 0
  have h1 : 1 ≤ m := by omega
  clear hb1 hb2 hA2 hR2 hB2 hI2 T hI
  refine callsIn_of_wp_marks Try.func16 rfl trivial ?_ rfl
  simp only [Try.ntmps16, List.size_toArray, List.length_cons, List.length_nil, Nat.reduceAdd, Nat.reduceSub, Array.replicate_succ, Array.replicate_zero, List.push_toArray, List.append_toArray, List.nil_append, List.cons_append]
  gi_wp2_with (refine ⟨trivial, ?_⟩; gi_at_call 37; refine (callsIn_wide.2 HTR.out).mono ?_; rintro e w3 ⟨rfl, hb3⟩; have hc3 : w3.cell? ⟨q, 0, none⟩ = some (.int .i64 (a : Nat)) := (hb3.cell (p := ⟨q, 0, none⟩) (lt_of_cell c1)).trans c1)
  have HA3 := hide (HA2.out.below' hb3)
  have HR3 := hide (HR2.out.below' hb3)
  have HB3 : Hid (Below q w w3) := hide (HB2.out.trans (hb3.mono (by omega)))
  have hI3 := HI.out.below' (by rw [hq]; exact HB3.out)
  have HIN : Hid (∀ i : Nat, i = a ∨ i = b → Calls Try.prog 38 #[.slice (some ⟨Ab, Ao, none⟩) n c, .int .i64 (i : Nat)] w3 fun en w' => en = .returned (.bool true) ∧ w' = w3) := hide (fun i hi => by
    have h := inTree_any (some ⟨Ab, Ao, none⟩) c n f (i : Int) w3 hI3
    rwa [show inT n f (i : Int) = true by rcases hi with rfl | rfl <;> (first | exact inT_yes ha hfa | exact inT_yes hb hfb)] at h)
  obtain ⟨z, hz⟩ : ∃ z, w3.heap.size = z := ⟨_, rfl⟩
  have hqz : q + 2 ≤ z := by rw [← hz, ← hs2]; exact hb3.size
  obtain ⟨w4, hw4⟩ : ∃ x, w3.alloc (.cells #[.slice (some ⟨Ab, Ao, none⟩) n c] 28) = x := ⟨_, rfl⟩
  have hs4 : w4.heap.size = z + 1 := by rw [← hw4, World.size_alloc, hz]
  have hb4 : Below w3.heap.size w3 w4 := by rw [← hw4]; exact (Below.refl _ _).alloc (Nat.le_refl _) _
  have hX4 : Whole w4 z 28 #[.slice (some ⟨Ab, Ao, none⟩) n c] := by rw [← hz, ← hw4]; exact Whole.new _ _ _
  obtain ⟨w5, hw5⟩ : ∃ x, w4.alloc (.cells #[.int .i64 (b : Nat)] 3) = x := ⟨_, rfl⟩
  have hs5 : w5.heap.size = z + 2 := by rw [← hw5, World.size_alloc, hs4]
  have hb5 : Below w4.heap.size w4 w5 := by rw [← hw5]; exact (Below.refl _ _).alloc (Nat.le_refl _) _
  have hX5 : Whole w5 (z + 1) 3 #[.int .i64 (b : Nat)] := by rw [← hs4, ← hw5]; exact Whole.new _ _ _
  have hb35 : Below w3.heap.size w3 w5 := hb4.trans (hb5.mono (by omega))
  have HX := hide (And.intro (hX5.cell 0) ((hX4.below' hb5).cell 0))
  have HAC := hide (anc_call (some ⟨Ab, Ao, none⟩) n c b w3)
  rw [hz, hw4, hw5] at HAC
  have HA5 := hide (HA3.out.below' hb35)
  have HR5 := hide (HR3.out.below' hb35)
  have HB5 : Hid (Below q w w5) := hide (HB3.out.trans (hb35.mono (by omega)))
  have HI5 := hide (HI.out.below' (by rw [hq]; exact HB5.out))
  clear hb3 hI3 hb4 hX4 hb5 hX5 hb35 hw4 hw5 hs4
  gi_wp2_with (first | (refine ⟨trivial, ?_⟩; gi_at_call 38; refine (callsIn_wide.2 (HIN.out _ (by first | exact .inl rfl | exact .inr rfl))).mono ?_; rintro e w' ⟨rfl, hw'⟩; obtain rfl := hw') | (refine ⟨trivial, ?_⟩; gi_at_call 39; refine (callsIn_wide.2 HAC.out).mono ?_; rintro e w' ⟨rfl, hw'⟩; obtain rfl := hw'))
  have HHZ := hide hqz
  clear hc3 HA3 HR3 HB3 HIN HAC HTR HA2 HR2 c1 hs1 hs2 hw1 hw2 hz HB2
  refine' wpIn_rangeFunc_ownF rfl h1 (gf := 53) (lb := #[.pointer (some ⟨z + 1, 0, none⟩), .pointer (some ⟨z, 0, none⟩)]) rfl trivial (enters_of Try.func53 (by kernel_rfl) rfl)
    (anc_stops HT.out (m - 1) (z + 1) z Ab Ao c b (z + 2) [q + 1] (by omega) hb hfb w5 (fun j hj => ⟨by omega, by simp; omega⟩) (by omega) (by omega) HX.out.1 HX.out.2 HI5.out) Kq.t (Kq.b (by omega)) (Below.refl _ _) (fun _ => rfl)
    (fun pre W => Hid (Whole W q 3 #[.int .i64 (a : Nat)] ∧ Whole W (q + 1) 4 #[.bool false] ∧ Below q w W ∧ a ∉ vals pre ∧ z + 2 ≤ W.heap.size))
    (fun c' pre W => Hid (c' = .ret ∧ Whole W (q + 1) 4 #[.bool true] ∧ Below q w W ∧ a ∈ vals pre ∧ z + 2 ≤ W.heap.size))
    ?own ?ownx ?h0 _ ?assign ?body ?done ?stop
  case own =>
    rintro pre X Y row hh hg hr
    obtain ⟨g1, g2, g3, g4, g5⟩ := hh.out
    have kt : Turn q X Y row := ⟨hg, fun r e => ⟨by have := (hr r e).1; omega, (hr r e).2⟩⟩
    exact hide ⟨g1.turn kt, g2.turn kt, below_turn g3 (by omega) kt, g4, Nat.le_trans g5 hg.size⟩
  case ownx =>
    rintro c' pre X Y row hh hg hr
    obtain ⟨g1, g2, g3, g4, g5⟩ := hh.out
    have kt : Turn q X Y row := ⟨hg, fun r e => ⟨by have := (hr r e).1; omega, (hr r e).2⟩⟩
    exact hide ⟨g1, g2.turn kt, below_turn g3 (by omega) kt, g4, Nat.le_trans g5 hg.size⟩
  case h0 => exact hide ⟨HA5.out, HR5.out, HB5.out, (fun h => by cases h), by omega⟩
  case assign =>
    intro l x W K hK
    gi_wp2
    simpa using hK
  case body =>
    rintro l pre ⟨x, hx, hfx⟩ W hh hpl
    obtain ⟨g1, g2, g3, g4, g5⟩ := hh.out
    have HPS : Hid (∀ h, vals (pre ++ [⟨x, h⟩]) = vals pre ++ [x]) := hide (fun h => vals_snoc pre ⟨x, h⟩)
    have k0 : W.cell? ⟨q, 0, none⟩ = some (.int .i64 (a : Nat)) := g1.cell 0
    by_cases hxa : x = a
    · have t1 : ((x : Int) == (a : Int)) = true := by simp [hxa]
      have t2 : (x == a) = true := by simp [hxa]
      have k1 : W.cell? ⟨q + 1, 0, none⟩ = some (.bool false) := g2.cell 0
      have k1f := g2.free 0
      have HP : Hid (a ∈ vals pre ++ [x]) := hide (by simp [hxa])
      have HG := hide (And.intro g2 (And.intro g3 g5))
      clear g1 g2 g3 g4 g5 hxa hh hpl
      gi_wp2
      exact ⟨KeepsOthers.setCell _ _ _, hide ⟨rfl, HG.out.1.set 0 _, HG.out.2.1.setCell (p := ⟨q + 1, 0, none⟩) (by show q ≤ q + 1; omega) _, by rw [HPS.out]; exact HP.out, by have := HG.out.2.2; simpa [World.setCell] using this⟩⟩
    · have t1 : ((x : Int) == (a : Int)) = false := by simp; omega
      have t2 : (x == a) = false := by simp; omega
      have HP : Hid (a ∉ vals pre ++ [x]) := hide (by simp; exact ⟨g4, fun e => hxa e.symm⟩)
      have HG := hide (And.intro g1 (And.intro g2 (And.intro g3 g5)))
      clear g1 g2 g3 g4 g5 hxa hh hpl
      gi_wp2
      exact ⟨KeepsOthers.refl _, Kq.refl _ _ _, hide ⟨HG.out.1, HG.out.2.1, HG.out.2.2.1, by rw [HPS.out]; exact HP.out, HG.out.2.2.2⟩⟩
  case done =>
    rintro D ys W hDz hys hh hDW
    obtain ⟨g1, g2, g3, g4, g5⟩ := hh.out
    have hys' : vals ys = pth f dp b := hys
    rw [hys'] at g4
    have e : decide (a ∈ pth f dp b) = false := decide_eq_false g4
    have HE := hide e
    have k1 : W.cell? ⟨q + 1, 0, none⟩ = some (.bool false) := g2.cell 0
    have k1f := g2.free 0
    obtain ⟨X, hX⟩ : ∃ y, W.setCell ⟨q + 1, 0, none⟩ (.bool false) = y := ⟨_, rfl⟩
    have hqW : q ≤ W.heap.size := by omega
    have HM : Hid (Marks q [D] X) := hide (Marks.keep (W := W) ⟨by simp, fun E hE => by rw [List.mem_singleton.1 hE]; exact ⟨by omega, hDW⟩⟩ (by rw [← hX]; exact KeepsOthers.setCell _ _ _))
    have HZ : Hid (Whole X (q + 1) 4 #[.bool false] ∧ Below q w X ∧ q ≤ X.heap.size) := hide (by rw [← hX]; exact ⟨g2.set 0 _, g3.setCell (p := ⟨q + 1, 0, none⟩) (by show q ≤ q + 1; omega) _, by simpa [World.setCell] using hqW⟩)
    clear g1 g2 g3 g4 g5 hys hys' hh hDW e hqW
    gi_wp2
    refine leavesM (B := q) (Others q) (Others.refl _) (fun h k => h.trans k) (fun X D hD hd => Others.put hD hd) [D] X HM.out ?_
    intro Y hY
    have r0 : Y.cell? ⟨q + 1, 0, none⟩ = some (.bool false) := (hY.whole HZ.out.1).cell 0
    refine ⟨.bool false, ?_, by rw [HE.out], by rw [hq]; exact hY.below (Nat.le_refl _) HZ.out.2.2 HZ.out.2.1⟩
    simp [results, Try.f16, go_sem, r0]
  case stop =>
    rintro D c' pre W hDz hpr hh hDW
    obtain ⟨rfl, g2, g3, g4, g5⟩ := hh.out
    have hpr' : vals pre <+: pth f dp b := hpr
    have e : decide (a ∈ pth f dp b) = true := decide_eq_true (hpr'.subset g4)
    have HE := hide e
    have HM : Hid (Marks q [D] W) := hide ⟨by simp, fun E hE => by rw [List.mem_singleton.1 hE]; exact ⟨by omega, hDW⟩⟩
    have HZ : Hid (Whole W (q + 1) 4 #[.bool true] ∧ Below q w W ∧ q ≤ W.heap.size) := hide ⟨g2, g3, by omega⟩
    clear g2 g3 g4 g5 hpr hpr' hh hDW e
    gi_wp2
    refine leavesM (B := q) (Others q) (Others.refl _) (fun h k => h.trans k) (fun X D hD hd => Others.put hD hd) [D] W HM.out ?_
    intro Y hY
    have r0 : Y.cell? ⟨q + 1, 0, none⟩ = some (.bool true) := (hY.whole HZ.out.1).cell 0
    refine ⟨.bool true, ?_, by rw [HE.out], by rw [hq]; exact hY.below (Nat.le_refl _) HZ.out.2.2 HZ.out.2.1⟩
    simp [results, Try.f16, go_sem, r0]
end Go.Proofs.Ytmopnceglnoncaa

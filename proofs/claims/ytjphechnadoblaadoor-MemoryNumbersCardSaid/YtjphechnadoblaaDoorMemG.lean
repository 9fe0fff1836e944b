/-
  Layer 17 (memory): New.
-/
import Derived.Lib.MinMax
import Derived.Test.YtjphechnadoblaaDoorMemC
import Derived.Laws.CopyRow
import Derived.Test.YtjphechnadoblaaDoorVfD
namespace Go.Proofs.YtjphechnadoblaaDoor
open Go.RowKit

theorem rowO_app (a b : List OD) : rowO (a ++ b) = rowO a ++ rowO b := by unfold rowO; rw [List.flatMap_append]
theorem rowO_set (os : List OD) (i : Nat) (v : OD) (h : i < os.length) : setAll (rowO os) (i * 3) v.cl = rowO (os.set i v) := by
  have e : os = os.take i ++ (os[i] :: os.drop (i + 1)) := by
    rw [← List.drop_eq_getElem_cons h, List.take_append_drop]
  have e1 : rowO os = rowO (os.take i) ++ ((os[i]).cl ++ rowO (os.drop (i + 1))) := by
    conv => lhs; rw [e]
    rw [rowO_app]; rfl
  have e2 : (rowO (os.take i)).length = i * 3 := by rw [rowO_len, List.length_take, Nat.min_eq_left (by omega)]
  rw [e1, ← e2, setAll_app (os[i]).cl v.cl _ _ rfl]
  rw [List.set_eq_take_append_cons_drop, if_pos h, rowO_app]; rfl
/-- One object is taken away. -/
theorem MemAt.kill {w : World} {B x g c n : Nat} {gl : Int} {os : List OD} (h : MemAt w B x (.slice (some ⟨g, 0, none⟩) n c) gl os) (hn : n = os.length) {i : Nat} (hi : i < os.length) :
    MemAt (((w.setCell ⟨g, i * 3, none⟩ (.int .i64 0)).setCell ⟨g, i * 3 + 1, none⟩ (.slice none 0 0)).setCell ⟨g, i * 3 + 2, none⟩ (.bool false)) B x (.slice (some ⟨g, 0, none⟩) n c) gl (os.set i goneO) ∧
    Below B w (((w.setCell ⟨g, i * 3, none⟩ (.int .i64 0)).setCell ⟨g, i * 3 + 1, none⟩ (.slice none 0 0)).setCell ⟨g, i * 3 + 2, none⟩ (.bool false)) ∧
    w.grownBy (((w.setCell ⟨g, i * 3, none⟩ (.int .i64 0)).setCell ⟨g, i * 3 + 1, none⟩ (.slice none 0 0)).setCell ⟨g, i * 3 + 2, none⟩ (.bool false)) (some g) := by
  subst hn
  obtain ⟨o1, g1⟩ := World.ownsRow.stored h.own (i * 3) (.int .i64 0)
  obtain ⟨o2, g2⟩ := World.ownsRow.stored o1 (i * 3 + 1) (.slice none 0 0)
  obtain ⟨o3, g3⟩ := World.ownsRow.stored o2 (i * 3 + 2) (.bool false)
  have hgr := only_trans (only_trans g1 g2) g3
  have hBg : B ≤ g := (World.ownsRow.lt h.own g rfl).1
  have hset : (((rowO os).set (i * 3) (.int .i64 0)).set (i * 3 + 1) (.slice none 0 0)).set (i * 3 + 2) (.bool false) = rowO (os.set i goneO) := rowO_set os i goneO hi
  rw [hset] at o3
  refine ⟨⟨h.lx, h.m.grown hgr (fun e => h.ax e.symm), by rw [List.length_set]; exact o3, h.ax, ?_, ?_⟩, (((Below.refl B w).setCell hBg _).setCell hBg _).setCell hBg _, hgr⟩
  · intro j o hj hn
    by_cases e : j = i
    · subst e
      rw [List.getElem?_set_self hi] at hj
      injection hj with hj; subst hj
      exact absurd rfl hn
    · rw [List.getElem?_set_ne (fun h => e h.symm)] at hj
      obtain ⟨h1, h2, h3, h4⟩ := h.vals j o hj hn
      exact ⟨h1, h2, h3, h4.grown hgr (fun e => h3 e.symm)⟩
  · intro j k o p hj hk hne hn1 hn2
    have key : ∀ (j : Nat) (o : OD), (os.set i goneO)[j]? = some o → o.vs ≠ [] → os[j]? = some o := by
      intro j o hj hn
      by_cases e : j = i
      · subst e
        rw [List.getElem?_set_self hi] at hj
        injection hj with hj; subst hj
        exact absurd rfl hn
      · rwa [List.getElem?_set_ne (fun h => e h.symm)] at hj
    exact h.sep j k o p (key j o hj hn1) (key k p hk hn2) hne hn1 hn2
/-- The objects, those from m on and below j taken away. -/
def relTo (os : List OD) (m j : Int) : List OD := os.mapIdx fun i o => if m ≤ (i : Int) ∧ (i : Int) < j then goneO else o
def relO (os : List OD) (m : Int) : List OD := os.mapIdx fun i o => if m ≤ (i : Int) then goneO else o
theorem relTo_len (os : List OD) (m j : Int) : (relTo os m j).length = os.length := by simp [relTo]
theorem relO_len (os : List OD) (m : Int) : (relO os m).length = os.length := by simp [relO]
theorem relTo_start (os : List OD) (m : Int) : relTo os m m = os := by
  apply List.ext_getElem?
  intro i
  unfold relTo
  rw [List.getElem?_mapIdx]
  cases os[i]? with
  | none => rfl
  | some o => simp; intro h1 h2; omega
theorem relTo_end (os : List OD) (m j : Int) (h : (os.length : Int) ≤ j) : relTo os m j = relO os m := by
  apply List.ext_getElem?
  intro i
  unfold relTo relO
  rw [List.getElem?_mapIdx, List.getElem?_mapIdx]
  rcases Nat.lt_or_ge i os.length with hl | hl
  · rw [List.getElem?_eq_getElem hl]
    simp
    by_cases h1 : m ≤ (i : Int)
    · rw [if_pos ⟨h1, by omega⟩, if_pos h1]
    · rw [if_neg (fun h => h1 h.1), if_neg h1]
  · rw [List.getElem?_eq_none hl]; rfl
theorem relTo_step (os : List OD) (m : Int) (j : Nat) (h1 : m ≤ j) (h2 : j < os.length) : (relTo os m j).set j goneO = relTo os m ((j : Int) + 1) := by
  apply List.ext_getElem?
  intro i
  by_cases e : i = j
  · subst e
    rw [List.getElem?_set_self (by rw [relTo_len]; exact h2)]
    unfold relTo
    rw [List.getElem?_mapIdx, List.getElem?_eq_getElem h2]
    simp only [Option.map_some]
    rw [if_pos ⟨h1, by omega⟩]
  · rw [List.getElem?_set_ne (fun h => e h.symm)]
    unfold relTo
    rw [List.getElem?_mapIdx, List.getElem?_mapIdx]
    rcases Nat.lt_or_ge i os.length with hl | hl
    · rw [List.getElem?_eq_getElem hl]
      simp only [Option.map_some]
      by_cases h3 : m ≤ (i : Int) ∧ (i : Int) < j
      · rw [if_pos h3, if_pos ⟨h3.1, by omega⟩]
      · rw [if_neg h3, if_neg (fun h => h3 ⟨h.1, by omega⟩)]
    · rw [List.getElem?_eq_none hl]; rfl
theorem MemAt.formA {w : World} {B x : Nat} {OV : Value} {gl : Int} {os : List OD} (h : MemAt w B x OV gl os) (hn : 0 < os.length) : ∃ g c, OV = .slice (some ⟨g, 0, none⟩) os.length c ∧ c ≤ maxLen := by
  rcases h.own.2 with ⟨e, e2⟩ | ⟨g, cap, cur, e, _, _, _, hm, _⟩
  · omega
  · exact ⟨_, _, e, hm⟩
theorem MemAt.at {w : World} {B x g c n : Nat} {gl : Int} {os : List OD} (h : MemAt w B x (.slice (some ⟨g, 0, none⟩) n c) gl os) (hn : n = os.length) {i : Nat} {o : OD} (hi : os[i]? = some o) :
    w.cell? ⟨g, i * 3, none⟩ = some (.int .i64 o.el) ∧ w.cell? ⟨g, i * 3 + 1, none⟩ = some o.sl ∧ w.cell? ⟨g, i * 3 + 2, none⟩ = some (.bool o.ro) ∧ ∀ j, w.frozen? ⟨g, j, none⟩ = false := by
  subst hn
  have hl := (List.getElem?_eq_some_iff.1 hi).1
  have k := fun j (hj : j < 3) => (World.ownsRow.cellAt h.own (i * 3 + j) (by omega)).trans (rowO_at os i j o hi hj)
  exact ⟨k 0 (by decide), k 1 (by decide), k 2 (by decide), fun j => World.ownsRow.frozenAt h.own j⟩
set_option maxRecDepth 100000 in
set_option maxHeartbeats 4000000 in
theorem release_any {w : World} {B x : Nat} {OV : Value} {gl : Int} {os : List OD} (h : MemAt w B x OV gl os) (mark : Int) (hg0 : 0 ≤ gl) (hos : os.length ≤ 1000) (hn : 0 < os.length) :
    Calls Tryd.prog 20 #[.pointer (some ⟨x, 0, none⟩), .int .i64 mark] w fun e w' => e = .returned (.tuple #[]) ∧ MemAt w' B x OV gl (relO os (max mark gl)) ∧ Below B w w' ∧ Fr x OV w w' := by
  have HV := hide (mvalid_any h)
  obtain ⟨g, c, hOV, hc⟩ := h.formA hn
  have hc9 : c ≤ 9223372036854775807 := by unfold maxLen at hc; omega
  have HM := hide h
  have c1 := h.m.cell 1
  obtain ⟨mx, hmx⟩ : ∃ m, max mark gl = m := ⟨_, rfl⟩
  have hm0 : 0 ≤ mx := by omega
  clear h hc
  go_enter Tryd.func20, Tryd.ntmps20
  go_wp2_with fail
  refine HV.out.mono ?_
  rintro en wn ⟨rfl, rfl⟩
  go_wp2_with fail
  subst hOV
  go_loopw [4] (fun v W => ∃ j : Int, v = .int .i64 j ∧ mx ≤ j ∧ j ≤ 1000 + mx ∧ (j ≤ os.length ∨ j = mx) ∧ MemAt W B x (.slice (some ⟨g, 0, none⟩) os.length c) gl (relTo os mx j) ∧ Below B w W ∧ Fr x (.slice (some ⟨g, 0, none⟩) os.length c) w W) (fun v _ => (os.length - intOf v).toNat)
  case atStart => exact ⟨mx, rfl, Int.le_refl _, by omega, .inr rfl, by rw [relTo_start]; exact HM.out, Below.refl _ _, fun _ _ _ _ => rfl⟩
  case round =>
    obtain ⟨j, rfl, hj1, hj2, hj3, hmW, hbW, hfW⟩ := hrel
    have HFW := hide hfW
    clear hfW
    have HMW := hide hmW
    have HBW := hide hbW
    have d0 := hmW.m.cell 0
    clear hmW hbW c1
    by_cases hlt : j < os.length
    · obtain ⟨k, rfl⟩ := Int.eq_ofNat_of_zero_le (show 0 ≤ j by omega)
      have hk : k < os.length := by omega
      obtain ⟨o, ho⟩ : ∃ o, (relTo os mx k)[k]? = some o := ⟨_, List.getElem?_eq_getElem (by rw [relTo_len]; exact hk)⟩
      obtain ⟨r0, r1, r2, hfr⟩ := HMW.out.at (by rw [relTo_len]) ho
      have s1 : decide (k < os.length) = true := by simpa using hk
      have q0 : (0 : Int) ≤ (k : Int) := by omega
      clear ho
      go_wp2_with fail
      go_roundw
      case rel =>
        obtain ⟨h1, h2, h3⟩ := HMW.out.kill (by rw [relTo_len]) (i := k) (by rw [relTo_len]; exact hk)
        rw [relTo_step os mx k hj1 hk] at h1
        exact ⟨(k : Int) + 1, by first | rfl | (congr 1; omega), by omega, by omega, .inl (by omega), h1, HBW.out.trans h2, HFW.out.step HBW.out.size h3 rfl⟩
      case measure => simp [intOf]; omega
    · have s1 : decide (j < (os.length : Int)) = false := by simpa using hlt
      go_wp2_with fail
      have hfin := HMW.out
      rw [relTo_end os mx j (by omega)] at hfin
      first
        | (go_end0; exact ⟨rfl, hfin, HBW.out, HFW.out⟩)
        | (go_ret; exact ⟨rfl, hfin, HBW.out, HFW.out⟩)
set_option maxRecDepth 100000 in
set_option maxHeartbeats 8000000 in
/-- Alloca, of what may not be allocated. -/
theorem alloca_no {w : World} {B x : Nat} {OV : Value} {gl : Int} {os : List OD} (h : MemAt w B x OV gl os) (t n : Int) (hg0 : 0 ≤ gl) (hg1 : gl ≤ os.length) (hos : os.length ≤ 1000) (hbad : ¬ (2 ≤ t ∧ t ≤ 5) ∨ n < 1 ∨ 256 < n ∨ 400 ≤ (os.length : Int) - gl) :
    Calls Tryd.prog 18 #[.pointer (some ⟨x, 0, none⟩), .int .i64 t, .int .i64 n] w fun e w' => e = .returned (.tuple #[.agg #[.int .i64 0, .int .i64 0, .int .i64 0, .bool false, .bool false, .int .i64 0, .bool false, .bool false, .int .i64 0, .bool false, .bool false, .int .i64 0, .bool false, .bool false], .bool false]) ∧ Below w.heap.size w w' := by
  have HV : Hid (∀ W, MemAt W B x OV gl os → _) := hide (fun W h => mvalid_any h)
  have HK : Hid (∀ W, MemAt W B x OV gl os → _) := hide (fun W h => mark_any h)
  have hbd : (accN t != 1) = true ∨ decide (n < 1) = true ∨ decide (256 < n) = true ∨ decide ((400 : Int) ≤ (os.length : Int) - gl) = true := by
    rcases hbad with hb | hb | hb | hb
    · left
      unfold accN
      rw [if_neg (by omega)]
      split
      · rfl
      · split <;> rfl
    · right; left; simpa using hb
    · right; right; left; simpa using hb
    · right; right; right; simpa using hb
  obtain ⟨an, han⟩ : ∃ a, accN t = a := ⟨_, rfl⟩
  have hac := acc_any t
  rw [han] at hac hbd
  have HAC := hide hac
  obtain ⟨q, hq⟩ : ∃ x, w.heap.size = x := ⟨_, rfl⟩
  obtain ⟨w1, hw1⟩ : ∃ x, w.alloc (.cells #[.int .i64 0, .int .i64 0, .int .i64 0, .bool false, .bool false, .int .i64 0, .bool false, .bool false, .int .i64 0, .bool false, .bool false, .int .i64 0, .bool false, .bool false] 46) = x := ⟨_, rfl⟩
  have hb1 : Below w.heap.size w w1 := by rw [← hw1]; exact (Below.refl _ _).alloc (Nat.le_refl _) _
  have HQ1 : Hid (Whole w1 q 46 #[.int .i64 0, .int .i64 0, .int .i64 0, .bool false, .bool false, .int .i64 0, .bool false, .bool false, .int .i64 0, .bool false, .bool false, .int .i64 0, .bool false, .bool false]) := hide (by rw [← hw1, ← hq]; exact Whole.new _ _ _)
  have HM1 := hide (h.below hb1)
  have HB1 := hide hb1
  have c1 := HM1.out.m.cell 1
  have HBD := hide hbd
  have z0 : w1.cell? ⟨q, 0, none⟩ = some (.int .i64 0) := HQ1.out.cell 0
  have z1 : w1.cell? ⟨q, 1, none⟩ = some (.int .i64 0) := HQ1.out.cell 1
  have z2 : w1.cell? ⟨q, 2, none⟩ = some (.int .i64 0) := HQ1.out.cell 2
  have z3 : w1.cell? ⟨q, 3, none⟩ = some (.bool false) := HQ1.out.cell 3
  have z4 : w1.cell? ⟨q, 4, none⟩ = some (.bool false) := HQ1.out.cell 4
  have z5 : w1.cell? ⟨q, 5, none⟩ = some (.int .i64 0) := HQ1.out.cell 5
  have z6 : w1.cell? ⟨q, 6, none⟩ = some (.bool false) := HQ1.out.cell 6
  have z7 : w1.cell? ⟨q, 7, none⟩ = some (.bool false) := HQ1.out.cell 7
  have z8 : w1.cell? ⟨q, 8, none⟩ = some (.int .i64 0) := HQ1.out.cell 8
  have z9 : w1.cell? ⟨q, 9, none⟩ = some (.bool false) := HQ1.out.cell 9
  have z10 : w1.cell? ⟨q, 10, none⟩ = some (.bool false) := HQ1.out.cell 10
  have z11 : w1.cell? ⟨q, 11, none⟩ = some (.int .i64 0) := HQ1.out.cell 11
  have z12 : w1.cell? ⟨q, 12, none⟩ = some (.bool false) := HQ1.out.cell 12
  have z13 : w1.cell? ⟨q, 13, none⟩ = some (.bool false) := HQ1.out.cell 13
  have hfr := HQ1.out.free
  clear han hac h hb1 hbad hbd
  go_enter Tryd.func18, Tryd.ntmps18
  go_upto_region 1 with fail
  have HQ := hide hq
  clear hw1 hq
  go_wp2_with fail
  refine (HAC.out _).mono ?_
  rintro en wn ⟨rfl, rfl⟩
  cases b1 : (an != 1) with
  | true =>
    go_wp2_with fail
    go_quiet (first | (go_at_call 37; exact Calls.quiet_of_same ((HV.out _ (HM1.out.below (Below.drewN' (Below.refl _ _) _))).mono fun _ _ ⟨e1, e2⟩ => ⟨e1, e2.symm⟩)) | (go_at_call 21; exact Calls.quiet_of_same ((HK.out _ (HM1.out.below (Below.drewN' (Below.refl _ _) _))).mono fun _ _ ⟨e1, e2⟩ => ⟨e1, e2.symm⟩)))
    go_wp2_with fail
    have hR : Whole ((((((((((((((((World.drewN w1 nq).setCell ⟨q, 0, none⟩ (.int .i64 0)).setCell ⟨q, 1, none⟩ (.int .i64 0)).setCell ⟨q, 2, none⟩ (.int .i64 0)).setCell ⟨q, 3, none⟩ (.bool false)).setCell ⟨q, 4, none⟩ (.bool false)).setCell ⟨q, 5, none⟩ (.int .i64 0)).setCell ⟨q, 6, none⟩ (.bool false)).setCell ⟨q, 7, none⟩ (.bool false)).setCell ⟨q, 8, none⟩ (.int .i64 0)).setCell ⟨q, 9, none⟩ (.bool false)).setCell ⟨q, 10, none⟩ (.bool false)).setCell ⟨q, 11, none⟩ (.int .i64 0)).setCell ⟨q, 12, none⟩ (.bool false)).setCell ⟨q, 13, none⟩ (.bool false))) q 46 #[.int .i64 0, .int .i64 0, .int .i64 0, .bool false, .bool false, .int .i64 0, .bool false, .bool false, .int .i64 0, .bool false, .bool false, .int .i64 0, .bool false, .bool false] := Whole.setW (l := [.int .i64 0, .int .i64 0, .int .i64 0, .bool false, .bool false, .int .i64 0, .bool false, .bool false, .int .i64 0, .bool false, .bool false, .int .i64 0, .bool false, .bool false]) [.int .i64 0, .int .i64 0, .int .i64 0, .bool false, .bool false, .int .i64 0, .bool false, .bool false, .int .i64 0, .bool false, .bool false, .int .i64 0, .bool false, .bool false] 0 (HQ1.out.drewN nq)
    have hB := below_setW (g := q) (by rw [← HQ.out]; exact Nat.le_refl _) [.int .i64 0, .int .i64 0, .int .i64 0, .bool false, .bool false, .int .i64 0, .bool false, .bool false, .int .i64 0, .bool false, .bool false, .int .i64 0, .bool false, .bool false] 0 (Below.drewN' HB1.out nq)
    have k0 := hR.cell 0
    have k1 := hR.cell 1
    have k2 := hR.cell 2
    have k3 := hR.cell 3
    have k4 := hR.cell 4
    have k5 := hR.cell 5
    have k6 := hR.cell 6
    have k7 := hR.cell 7
    have k8 := hR.cell 8
    have k9 := hR.cell 9
    have k10 := hR.cell 10
    have k11 := hR.cell 11
    have k12 := hR.cell 12
    have k13 := hR.cell 13
    refine bodyPost_ret (v := .tuple #[.agg #[.int .i64 0, .int .i64 0, .int .i64 0, .bool false, .bool false, .int .i64 0, .bool false, .bool false, .int .i64 0, .bool false, .bool false, .int .i64 0, .bool false, .bool false], .bool false]) ?_ rfl ⟨rfl, hB⟩
    simp [results, Tryd.f18, go_sem, k0, k1, k2, k3, k4, k5, k6, k7, k8, k9, k10, k11, k12, k13]
  | false =>
    cases b2 : decide (n < 1) with
    | true =>
      go_wp2_with fail
      go_quiet (first | (go_at_call 37; exact Calls.quiet_of_same ((HV.out _ (HM1.out.below (Below.drewN' (Below.refl _ _) _))).mono fun _ _ ⟨e1, e2⟩ => ⟨e1, e2.symm⟩)) | (go_at_call 21; exact Calls.quiet_of_same ((HK.out _ (HM1.out.below (Below.drewN' (Below.refl _ _) _))).mono fun _ _ ⟨e1, e2⟩ => ⟨e1, e2.symm⟩)))
      go_wp2_with fail
      have hR : Whole ((((((((((((((((World.drewN w1 nq).setCell ⟨q, 0, none⟩ (.int .i64 0)).setCell ⟨q, 1, none⟩ (.int .i64 0)).setCell ⟨q, 2, none⟩ (.int .i64 0)).setCell ⟨q, 3, none⟩ (.bool false)).setCell ⟨q, 4, none⟩ (.bool false)).setCell ⟨q, 5, none⟩ (.int .i64 0)).setCell ⟨q, 6, none⟩ (.bool false)).setCell ⟨q, 7, none⟩ (.bool false)).setCell ⟨q, 8, none⟩ (.int .i64 0)).setCell ⟨q, 9, none⟩ (.bool false)).setCell ⟨q, 10, none⟩ (.bool false)).setCell ⟨q, 11, none⟩ (.int .i64 0)).setCell ⟨q, 12, none⟩ (.bool false)).setCell ⟨q, 13, none⟩ (.bool false))) q 46 #[.int .i64 0, .int .i64 0, .int .i64 0, .bool false, .bool false, .int .i64 0, .bool false, .bool false, .int .i64 0, .bool false, .bool false, .int .i64 0, .bool false, .bool false] := Whole.setW (l := [.int .i64 0, .int .i64 0, .int .i64 0, .bool false, .bool false, .int .i64 0, .bool false, .bool false, .int .i64 0, .bool false, .bool false, .int .i64 0, .bool false, .bool false]) [.int .i64 0, .int .i64 0, .int .i64 0, .bool false, .bool false, .int .i64 0, .bool false, .bool false, .int .i64 0, .bool false, .bool false, .int .i64 0, .bool false, .bool false] 0 (HQ1.out.drewN nq)
      have hB := below_setW (g := q) (by rw [← HQ.out]; exact Nat.le_refl _) [.int .i64 0, .int .i64 0, .int .i64 0, .bool false, .bool false, .int .i64 0, .bool false, .bool false, .int .i64 0, .bool false, .bool false, .int .i64 0, .bool false, .bool false] 0 (Below.drewN' HB1.out nq)
      have k0 := hR.cell 0
      have k1 := hR.cell 1
      have k2 := hR.cell 2
      have k3 := hR.cell 3
      have k4 := hR.cell 4
      have k5 := hR.cell 5
      have k6 := hR.cell 6
      have k7 := hR.cell 7
      have k8 := hR.cell 8
      have k9 := hR.cell 9
      have k10 := hR.cell 10
      have k11 := hR.cell 11
      have k12 := hR.cell 12
      have k13 := hR.cell 13
      refine bodyPost_ret (v := .tuple #[.agg #[.int .i64 0, .int .i64 0, .int .i64 0, .bool false, .bool false, .int .i64 0, .bool false, .bool false, .int .i64 0, .bool false, .bool false, .int .i64 0, .bool false, .bool false], .bool false]) ?_ rfl ⟨rfl, hB⟩
      simp [results, Tryd.f18, go_sem, k0, k1, k2, k3, k4, k5, k6, k7, k8, k9, k10, k11, k12, k13]
    | false =>
      cases b3 : decide (256 < n) with
      | true =>
        go_wp2_with fail
        go_quiet (first | (go_at_call 37; exact Calls.quiet_of_same ((HV.out _ (HM1.out.below (Below.drewN' (Below.refl _ _) _))).mono fun _ _ ⟨e1, e2⟩ => ⟨e1, e2.symm⟩)) | (go_at_call 21; exact Calls.quiet_of_same ((HK.out _ (HM1.out.below (Below.drewN' (Below.refl _ _) _))).mono fun _ _ ⟨e1, e2⟩ => ⟨e1, e2.symm⟩)))
        go_wp2_with fail
        have hR : Whole ((((((((((((((((World.drewN w1 nq).setCell ⟨q, 0, none⟩ (.int .i64 0)).setCell ⟨q, 1, none⟩ (.int .i64 0)).setCell ⟨q, 2, none⟩ (.int .i64 0)).setCell ⟨q, 3, none⟩ (.bool false)).setCell ⟨q, 4, none⟩ (.bool false)).setCell ⟨q, 5, none⟩ (.int .i64 0)).setCell ⟨q, 6, none⟩ (.bool false)).setCell ⟨q, 7, none⟩ (.bool false)).setCell ⟨q, 8, none⟩ (.int .i64 0)).setCell ⟨q, 9, none⟩ (.bool false)).setCell ⟨q, 10, none⟩ (.bool false)).setCell ⟨q, 11, none⟩ (.int .i64 0)).setCell ⟨q, 12, none⟩ (.bool false)).setCell ⟨q, 13, none⟩ (.bool false))) q 46 #[.int .i64 0, .int .i64 0, .int .i64 0, .bool false, .bool false, .int .i64 0, .bool false, .bool false, .int .i64 0, .bool false, .bool false, .int .i64 0, .bool false, .bool false] := Whole.setW (l := [.int .i64 0, .int .i64 0, .int .i64 0, .bool false, .bool false, .int .i64 0, .bool false, .bool false, .int .i64 0, .bool false, .bool false, .int .i64 0, .bool false, .bool false]) [.int .i64 0, .int .i64 0, .int .i64 0, .bool false, .bool false, .int .i64 0, .bool false, .bool false, .int .i64 0, .bool false, .bool false, .int .i64 0, .bool false, .bool false] 0 (HQ1.out.drewN nq)
        have hB := below_setW (g := q) (by rw [← HQ.out]; exact Nat.le_refl _) [.int .i64 0, .int .i64 0, .int .i64 0, .bool false, .bool false, .int .i64 0, .bool false, .bool false, .int .i64 0, .bool false, .bool false, .int .i64 0, .bool false, .bool false] 0 (Below.drewN' HB1.out nq)
        have k0 := hR.cell 0
        have k1 := hR.cell 1
        have k2 := hR.cell 2
        have k3 := hR.cell 3
        have k4 := hR.cell 4
        have k5 := hR.cell 5
        have k6 := hR.cell 6
        have k7 := hR.cell 7
        have k8 := hR.cell 8
        have k9 := hR.cell 9
        have k10 := hR.cell 10
        have k11 := hR.cell 11
        have k12 := hR.cell 12
        have k13 := hR.cell 13
        refine bodyPost_ret (v := .tuple #[.agg #[.int .i64 0, .int .i64 0, .int .i64 0, .bool false, .bool false, .int .i64 0, .bool false, .bool false, .int .i64 0, .bool false, .bool false, .int .i64 0, .bool false, .bool false], .bool false]) ?_ rfl ⟨rfl, hB⟩
        simp [results, Tryd.f18, go_sem, k0, k1, k2, k3, k4, k5, k6, k7, k8, k9, k10, k11, k12, k13]
      | false =>
        have b4 : decide ((400 : Int) ≤ (os.length : Int) - gl) = true := by
          have := HBD.out
          rw [b1, b2, b3] at this
          simpa using this
        go_wp2_with fail
        go_quiet (first | (go_at_call 37; exact Calls.quiet_of_same ((HV.out _ (HM1.out.below (Below.drewN' (Below.refl _ _) _))).mono fun _ _ ⟨e1, e2⟩ => ⟨e1, e2.symm⟩)) | (go_at_call 21; exact Calls.quiet_of_same ((HK.out _ (HM1.out.below (Below.drewN' (Below.refl _ _) _))).mono fun _ _ ⟨e1, e2⟩ => ⟨e1, e2.symm⟩)))
        go_wp2_with fail
        have hR : Whole ((((((((((((((((World.drewN w1 nq).setCell ⟨q, 0, none⟩ (.int .i64 0)).setCell ⟨q, 1, none⟩ (.int .i64 0)).setCell ⟨q, 2, none⟩ (.int .i64 0)).setCell ⟨q, 3, none⟩ (.bool false)).setCell ⟨q, 4, none⟩ (.bool false)).setCell ⟨q, 5, none⟩ (.int .i64 0)).setCell ⟨q, 6, none⟩ (.bool false)).setCell ⟨q, 7, none⟩ (.bool false)).setCell ⟨q, 8, none⟩ (.int .i64 0)).setCell ⟨q, 9, none⟩ (.bool false)).setCell ⟨q, 10, none⟩ (.bool false)).setCell ⟨q, 11, none⟩ (.int .i64 0)).setCell ⟨q, 12, none⟩ (.bool false)).setCell ⟨q, 13, none⟩ (.bool false))) q 46 #[.int .i64 0, .int .i64 0, .int .i64 0, .bool false, .bool false, .int .i64 0, .bool false, .bool false, .int .i64 0, .bool false, .bool false, .int .i64 0, .bool false, .bool false] := Whole.setW (l := [.int .i64 0, .int .i64 0, .int .i64 0, .bool false, .bool false, .int .i64 0, .bool false, .bool false, .int .i64 0, .bool false, .bool false, .int .i64 0, .bool false, .bool false]) [.int .i64 0, .int .i64 0, .int .i64 0, .bool false, .bool false, .int .i64 0, .bool false, .bool false, .int .i64 0, .bool false, .bool false, .int .i64 0, .bool false, .bool false] 0 (HQ1.out.drewN nq)
        have hB := below_setW (g := q) (by rw [← HQ.out]; exact Nat.le_refl _) [.int .i64 0, .int .i64 0, .int .i64 0, .bool false, .bool false, .int .i64 0, .bool false, .bool false, .int .i64 0, .bool false, .bool false, .int .i64 0, .bool false, .bool false] 0 (Below.drewN' HB1.out nq)
        have k0 := hR.cell 0
        have k1 := hR.cell 1
        have k2 := hR.cell 2
        have k3 := hR.cell 3
        have k4 := hR.cell 4
        have k5 := hR.cell 5
        have k6 := hR.cell 6
        have k7 := hR.cell 7
        have k8 := hR.cell 8
        have k9 := hR.cell 9
        have k10 := hR.cell 10
        have k11 := hR.cell 11
        have k12 := hR.cell 12
        have k13 := hR.cell 13
        refine bodyPost_ret (v := .tuple #[.agg #[.int .i64 0, .int .i64 0, .int .i64 0, .bool false, .bool false, .int .i64 0, .bool false, .bool false, .int .i64 0, .bool false, .bool false, .int .i64 0, .bool false, .bool false], .bool false]) ?_ rfl ⟨rfl, hB⟩
        simp [results, Tryd.f18, go_sem, k0, k1, k2, k3, k4, k5, k6, k7, k8, k9, k10, k11, k12, k13]
end Go.Proofs.YtjphechnadoblaaDoor
namespace Go.Proofs.YtjphechnadoblaaDoor
open Go.RowKit Go.ChangeShapes Go.WideShapes

theorem intC (t n : Int) (ht : 2 ≤ t ∧ t ≤ 4) (w : World) (hT : Tab w) : Calls Tryd.prog 61 #[.int .i64 t, .int .i64 n] w fun e w' => e = .returned (.agg #[.int .i64 t, .int .i64 0, .int .i64 (wrapI t n), .bool false, .bool false, .int .i64 0, .bool false, .bool false, .int .i64 0, .bool false, .bool false, .int .i64 0, .bool false, .bool false]) ∧ Below w.heap.size w w' := by
  have h := int_any t n w hT
  rw [mkInt_1 ht] at h
  exact h
/-- What a global starts with, the first i numbers laid. -/
def iniV (d : GD) (i : Nat) : List VD := ((d.il.take i).map fun z => iV d.el z) ++ List.replicate (d.ln.toNat - i) (pV d.el)
theorem iniV_len {d : GD} {i : Nat} (hi : i ≤ d.il.length) (h : (d.il.length : Int) ≤ d.ln) : (iniV d i).length = d.ln.toNat := by
  unfold iniV; simp; omega
theorem iniV_at {d : GD} {i : Nat} (hi : i < d.il.length) (h : (d.il.length : Int) ≤ d.ln) : (iniV d i)[i]? = some (pV d.el) := by
  unfold iniV
  rw [List.getElem?_append_right (by simp; omega), List.length_map, List.length_take, Nat.min_eq_left (by omega), Nat.sub_self, List.getElem?_replicate, if_pos (by omega)]
theorem iniV_step {d : GD} {i : Nat} {z : Int} (hz : d.il[i]? = some z) (h : (d.il.length : Int) ≤ d.ln) : (iniV d i).set i (iV d.el z) = iniV d (i + 1) := by
  have hi : i < d.il.length := (List.getElem?_eq_some_iff.1 hz).1
  have hn : d.ln.toNat - i = (d.ln.toNat - (i + 1)) + 1 := by omega
  unfold iniV
  rw [List.set_append_right _ _ (by simp; omega), List.length_map, List.length_take, Nat.min_eq_left (by omega), Nat.sub_self, hn, List.replicate_succ, List.set_cons_zero, List.take_add_one, hz]
  simp
theorem iniV_zero (d : GD) : iniV d 0 = List.replicate d.ln.toNat (pV d.el) := by unfold iniV; simp
/-- What the rounds over a global's numbers keep. -/
structure IniS (w W : World) (rb gb g cb n : Nat) (d : GD) (i : Nat) : Prop where
  b : Below w.heap.size w W
  r : Whole W rb 84 #[.int .i64 0, .slice none 0 0]
  gl : Whole W gb 75 #[.string (Bs d.nm), .int .i64 d.el, .int .i64 d.ln, .slice d.IA d.il.length d.ic, .bool d.ro]
  row : Whole W g 46 (rowA (iniV d i))
  c : Whole W cb 84 #[.int .i64 d.el, .slice (some ⟨g, 0, none⟩) n n]
  rd : Rd W .i64 (.slice d.IA d.il.length d.ic) d.il
  tab : Tab W
  lr : w.heap.size ≤ rb
  lg : w.heap.size ≤ g
  nr : g ≠ rb
  ng : g ≠ gb
  nc : g ≠ cb
theorem IniS.next {w W W' : World} {rb gb g cb n : Nat} {d : GD} {i : Nat} (h : IniS w W rb gb g cb n d i) (hb : Below W.heap.size W W') : IniS w W' rb gb g cb n d i :=
  ⟨h.b.trans (hb.mono h.b.size), h.r.below' hb, h.gl.below' hb, h.row.below' hb, h.c.below' hb, h.rd.below' hb, h.tab.below hb, h.lr, h.lg, h.nr, h.ng, h.nc⟩
theorem IniS.put' {w W : World} {rb gb g cb n : Nat} {d : GD} {i : Nat} {z : Int} (h : IniS w W rb gb g cb n d i) (hT : Tab w) (hr : Rd w .i64 (.slice d.IA d.il.length d.ic) d.il) (hz : d.il[i]? = some z) (hl : (d.il.length : Int) ≤ d.ln) : IniS w (((((((((((((((W.setCell ⟨g, i * 14, none⟩ (.int .i64 (iV d.el z).t)).setCell ⟨g, i * 14 + 1, none⟩ (.int .i64 (iV d.el z).o)).setCell ⟨g, i * 14 + 2, none⟩ (.int .i64 (iV d.el z).a.n)).setCell ⟨g, i * 14 + 3, none⟩ (.bool (iV d.el z).a.p)).setCell ⟨g, i * 14 + 4, none⟩ (.bool (iV d.el z).a.u)).setCell ⟨g, i * 14 + 5, none⟩ (.int .i64 (iV d.el z).b.n)).setCell ⟨g, i * 14 + 6, none⟩ (.bool (iV d.el z).b.p)).setCell ⟨g, i * 14 + 7, none⟩ (.bool (iV d.el z).b.u)).setCell ⟨g, i * 14 + 8, none⟩ (.int .i64 (iV d.el z).c.n)).setCell ⟨g, i * 14 + 9, none⟩ (.bool (iV d.el z).c.p)).setCell ⟨g, i * 14 + 10, none⟩ (.bool (iV d.el z).c.u)).setCell ⟨g, i * 14 + 11, none⟩ (.int .i64 (iV d.el z).d.n)).setCell ⟨g, i * 14 + 12, none⟩ (.bool (iV d.el z).d.p)).setCell ⟨g, i * 14 + 13, none⟩ (.bool (iV d.el z).d.u))) rb gb g cb n d (i + 1) := by
  have hi : i < d.il.length := (List.getElem?_eq_some_iff.1 hz).1
  have h1 := row_put h.row (i := i) (by rw [iniV_len (by omega) hl]; omega) (iV d.el z)
  rw [iniV_step hz hl] at h1
  have h2 := below_put (k := i * 14) h.b h.lg (iV d.el z)
  have h3 := only_put (k := i * 14) (only_refl W g) (iV d.el z)
  have n1 : some rb ≠ some g := fun e => h.nr (Option.some.inj e).symm
  have n2 : some gb ≠ some g := fun e => h.ng (Option.some.inj e).symm
  have n3 : some cb ≠ some g := fun e => h.nc (Option.some.inj e).symm
  exact ⟨h2, h.r.grown h3 n1, h.gl.grown h3 n2, h1, h.c.grown h3 n3, hr.below' h2, hT.below h2, h.lr, h.lg, h.nr, h.ng, h.nc⟩
theorem IniS.put {w W : World} {rb gb g cb n : Nat} {d : GD} {i : Nat} {z y : Int} (h : IniS w W rb gb g cb n d i) (hT : Tab w) (hr : Rd w .i64 (.slice d.IA d.il.length d.ic) d.il) (hz : d.il[i]? = some z) (hl : (d.il.length : Int) ≤ d.ln) (hy : wrapI d.el z = y) : IniS w (((((((((((((((W.setCell ⟨g, i * 14, none⟩ (.int .i64 d.el)).setCell ⟨g, i * 14 + 1, none⟩ (.int .i64 0)).setCell ⟨g, i * 14 + 2, none⟩ (.int .i64 y)).setCell ⟨g, i * 14 + 3, none⟩ (.bool false)).setCell ⟨g, i * 14 + 4, none⟩ (.bool false)).setCell ⟨g, i * 14 + 5, none⟩ (.int .i64 0)).setCell ⟨g, i * 14 + 6, none⟩ (.bool false)).setCell ⟨g, i * 14 + 7, none⟩ (.bool false)).setCell ⟨g, i * 14 + 8, none⟩ (.int .i64 0)).setCell ⟨g, i * 14 + 9, none⟩ (.bool false)).setCell ⟨g, i * 14 + 10, none⟩ (.bool false)).setCell ⟨g, i * 14 + 11, none⟩ (.int .i64 0)).setCell ⟨g, i * 14 + 12, none⟩ (.bool false)).setCell ⟨g, i * 14 + 13, none⟩ (.bool false))) rb gb g cb n d (i + 1) := by
  subst hy; exact h.put' hT hr hz hl
theorem IniS.copied {w W W' : World} {rb gb g cb n : Nat} {d : GD} {i : Nat} (h : IniS w W rb gb g cb n d i) (hg7 : W.grownBy W' (some g)) :
    W'.cell? ⟨cb, 0, none⟩ = some (.int .i64 d.el) ∧ W'.cell? ⟨cb, 1, none⟩ = some (.slice (some ⟨g, 0, none⟩) n n) ∧ W'.cell? ⟨rb, 0, none⟩ = some (.int .i64 0) ∧ W'.cell? ⟨rb, 1, none⟩ = some (.slice none 0 0) ∧ W'.frozen? ⟨rb, 0, none⟩ = false ∧ W'.frozen? ⟨rb, 1, none⟩ = false ∧
    Whole W' rb 84 #[.int .i64 0, .slice none 0 0] ∧ Below w.heap.size w W' := by
  have hc7 : Whole W' cb 84 #[.int .i64 d.el, .slice (some ⟨g, 0, none⟩) n n] := h.c.grown hg7 (fun e => h.nc (Option.some.inj e).symm)
  have hr7 : Whole W' rb 84 #[.int .i64 0, .slice none 0 0] := h.r.grown hg7 (fun e => h.nr (Option.some.inj e).symm)
  have hb7 : Below w.heap.size w W' := h.b.grown hg7 h.b.size (fun k hk => by have := Option.some.inj hk; subst this; exact h.lg)
  exact ⟨hc7.cell 0, hc7.cell 1, hr7.cell 0, hr7.cell 1, hr7.free 0, hr7.free 1, hr7, hb7⟩
theorem IniS.c1 {w W : World} {rb gb g cb n : Nat} {d : GD} {i : Nat} (h : IniS w W rb gb g cb n d i) : W.cell? ⟨cb, 1, none⟩ = some (.slice (some ⟨g, 0, none⟩) n n) := h.c.cell 1
theorem IniS.e1 {w W : World} {rb gb g cb n : Nat} {d : GD} {i : Nat} (h : IniS w W rb gb g cb n d i) : W.cell? ⟨gb, 1, none⟩ = some (.int .i64 d.el) := h.gl.cell 1
set_option maxRecDepth 100000 in
/-- 'copy' of values, over a row of values. -/
theorem run_copy_vals (w : World) (ty : TypeId) (g n : Nat) (vs gv : List VD) (a : Addr) (sc : Nat) (hW : Whole w g 46 (rowA vs)) (hn : vs.length = n) (hle : gv.length ≤ n)
    (hsrc : ∀ j v, (rowL gv)[j]? = some v → w.cell? (a.add j) = some v) :
    (Builtin.copy_ #[66, 66] ty #[.slice (some ⟨g, 0, none⟩) n n, .slice (some a) gv.length sc]).run Tryd.prog w =
      .ok (goInt gv.length) (w.setRow g (rowA (gv ++ vs.drop gv.length))) := by
  obtain ⟨i, hi, hz, hsz, hby⟩ := info_parts infoVal
  have hl := run_loadCells_list (P := Tryd.prog) w a (rowL gv) hsrc
  have hone : ∀ v ∈ rowL gv, v.oneCell' = true := by
    intro v hv
    unfold rowL at hv
    obtain ⟨x, _, hx⟩ := List.mem_flatMap.1 hv
    simp only [VD.cl, VD.arr, vc, List.mem_cons, List.not_mem_nil, or_false] at hx
    rcases hx with rfl | rfl | rfl | rfl | rfl | rfl | rfl | rfl | rfl | rfl | rfl | rfl | rfl | rfl <;> rfl
  have hst := run_storeCells_at Tryd.prog g 0 46 (rowL gv) 0 (rowA vs) w hW (by rw [rowL_len]; unfold rowA; rw [List.size_toArray, rowL_len]; omega) hone
  have hm : Nat.min gv.length n = gv.length := Nat.min_eq_left hle
  have hrow : ((rowA vs).toList.take (0 + 0) ++ rowL gv ++ (rowA vs).toList.drop (0 + 0 + (rowL gv).length)).toArray = rowA (gv ++ vs.drop gv.length) := by
    unfold rowA
    rw [List.toList_toArray, rowL_app]
    congr 1
    rw [show (0 + 0 : Nat) = 0 from rfl, List.take_zero, List.nil_append, Nat.zero_add, rowL_len]
    congr 1
    have : ∀ (k : Nat) (l : List VD), (rowL l).drop (k * 14) = rowL (l.drop k) := by
      intro k
      induction k with
      | zero => intro l; simp
      | succ k ih =>
        intro l
        cases l with
        | nil => simp [rowL]
        | cons x r =>
          rw [rowL_cons, List.drop_succ_cons, ← ih r, show (k + 1) * 14 = x.cl.length + k * 14 by rw [cl_len]; omega, ← List.drop_drop, List.drop_left]
    exact this _ _
  rw [hrow] at hst
  simp only [Builtin.copy_, Builtin.lenOf, Builtin.firstCells, sizeOf, typeInfo]
  simp [hm, ← rowL_len, hl, hst, hi, hsz]
/-- Values that are handed in. -/
def RdVals (w : World) (GA : Option Addr) (gc : Nat) (gv : List VD) : Prop := RdN w 14 (.slice GA gv.length gc) (gv.map VD.cl)
theorem RdVals.below {w w' : World} {GA : Option Addr} {gc : Nat} {gv : List VD} (h : RdVals w GA gc gv) (hb : Below w.heap.size w w') : RdVals w' GA gc gv := RdN.below' h hb
theorem RdVals.src {w : World} {GA : Option Addr} {gc : Nat} {gv : List VD} (h : RdVals w GA gc gv) (h0 : 0 < gv.length) : ∃ a, GA = some a ∧ a.block < w.heap.size ∧ ∀ j v, (rowL gv)[j]? = some v → w.cell? (a.add j) = some v := by
  obtain ⟨_, A, c, e, _, _, hc⟩ := h
  rw [List.length_map] at e hc
  injection e with e1 _ _
  subst e1
  obtain ⟨b, off, rfl, hb, hcell⟩ := hc h0
  refine ⟨_, rfl, hb, fun j v hj => ?_⟩
  have hjl : j < gv.length * 14 := by
    have := (List.getElem?_eq_some_iff.1 hj).1
    rwa [rowL_len] at this
  have hi : j / 14 < gv.length := by omega
  have hx : gv[j / 14]? = some gv[j / 14] := List.getElem?_eq_getElem hi
  have h1 := rowL_at gv (j / 14) (j % 14) _ hx (by omega)
  rw [show j / 14 * 14 + j % 14 = j by omega] at h1
  have h2 := hcell (j / 14) (j % 14) _ v (by rw [List.getElem?_map, hx]; rfl) (by rw [← h1]; exact hj)
  rw [show j / 14 * 14 + j % 14 = j by omega] at h2
  rw [add_plain]; exact h2
theorem wpList_copy_vals {ops : Array Oper} {rest : List Oper} {o : Oper} {a : Act} {w : World} {Q : Exit → Act → World → Prop} (hgd : o.guard = none) (d s : Operand)
    (ho : o.op = .call { callee := .builtin .copy, args := #[d, s], argTypes := #[66, 66] }) (g n : Nat) (vs gv : List VD) (GA : Option Addr) (gc : Nat) (hd : a.eval d = .slice (some ⟨g, 0, none⟩) n n) (hs : a.eval s = .slice GA gv.length gc)
    (hW : Whole w g 46 (rowA vs)) (hn : vs.length = n) (hle : gv.length ≤ n) (hr : RdVals w GA gc gv)
    (h : ∀ w', Whole w' g 46 (rowA (gv ++ vs.drop gv.length)) → w.grownBy w' (some g) → wpList Tryd.prog ops Q rest (a.put o.dst (goInt gv.length)) w') : wpList Tryd.prog ops Q (o :: rest) a w := by
  refine wpList_plain hgd fun K hK => ?_
  rcases Nat.eq_zero_or_pos gv.length with h0 | h0
  · obtain rfl : gv = [] := List.eq_nil_of_length_eq_zero h0
    have hrun : (Builtin.copy_ #[66, 66] o.type #[.slice (some ⟨g, 0, none⟩) n n, .slice GA 0 gc]).run Tryd.prog w = .ok (goInt 0) w := by
      obtain ⟨i, hi, hz, hsz, hby⟩ := info_parts infoVal
      cases GA with
      | none => simp [Builtin.copy_, run_underlying Tryd.underlying66, Builtin.lenOf, Builtin.firstCells, sizeOf, typeInfo, hi, storeCells]
      | some ad => simp [Builtin.copy_, run_underlying Tryd.underlying66, Builtin.lenOf, Builtin.firstCells, sizeOf, typeInfo, hi, storeCells, loadCells, loadCellsFrom]
    unfold Oper.wp
    simp only [List.length_nil] at hs
    simp [execOp, ho, resolve, invoke, builtin, hd, hs, hrun, Result.andThen]
    exact hK _ _ (h w (by simpa using hW) (World.grownBy.refl w _))
  · obtain ⟨ad, rfl, _, hsrc⟩ := hr.src h0
    have hrun := run_copy_vals w o.type g n vs gv ad gc hW hn hle hsrc
    unfold Oper.wp
    simp [execOp, ho, resolve, invoke, builtin, hd, hs, hrun, Result.andThen]
    refine hK _ _ (h _ (setRow_heap w g _ _ _ _ hW) ⟨rfl, rfl, rfl, by simp [World.setRow], fun k _ hk => setRow_other w g k _ (fun e => hk (by rw [e]))⟩)
set_option maxRecDepth 100000 in
set_option maxHeartbeats 8000000 in
theorem inicells_any (d : GD) (hok : OkG d) (GA : Option Addr) (gc : Nat) (gv : List VD) (hle : gv.length ≤ d.ln.toNat) (w : World) (hT : Tab w) (hr : Rd w .i64 (.slice d.IA d.il.length d.ic) d.il) (hg : RdVals w GA gc gv) :
    Calls Tryd.prog 35 #[.agg #[.string (Bs d.nm), .int .i64 d.el, .int .i64 d.ln, .slice d.IA d.il.length d.ic, .bool d.ro], (.slice GA gv.length gc)] w fun e w' =>
    ∃ g, e = .returned (.agg #[.int .i64 d.el, .slice (some ⟨g, 0, none⟩) d.ln.toNat d.ln.toNat]) ∧ w.heap.size ≤ g ∧ Whole w' g 46 (rowA (gv ++ (iniV d d.il.length).drop gv.length)) ∧ Below w.heap.size w w' := by
  have HO := hide hok
  have HT := hide hT
  have HR := hide hr
  have HGV := hide hg
  have HLE := hide hle
  obtain ⟨n, hn⟩ : ∃ n, d.ln.toNat = n := ⟨_, rfl⟩
  have hlnn : d.ln = (n : Int) := by have := hok.ln; omega
  have HN := hide hn
  have hn9 : n ≤ 256 := by have := hok.ln; omega
  have HPC : Hid (∀ W, _) := hide (fun W => poisoncells_any d.el hok.el n (by have := hok.ln; omega) W)
  rw [← hlnn] at HPC
  rw [hn]
  clear hlnn hn
  clear hok hT hr hg hle
  go_enter Tryd.func35, Tryd.ntmps35
  go_upto_region 1 with fail
  obtain ⟨gb, hgb⟩ : ∃ x, w.heap.size = x := ⟨_, rfl⟩
  obtain ⟨w1, hw1⟩ : ∃ x, (w.alloc (.cells #[.string (Bs d.nm), .int .i64 d.el, .int .i64 d.ln, .slice d.IA d.il.length d.ic, .bool d.ro] 75)).alloc (.cells #[.int .i64 0, .slice none 0 0] 84) = x := ⟨_, rfl⟩
  have HB1 : Hid (Below w.heap.size w w1) := hide (by rw [← hw1]; exact ((Below.refl _ _).alloc (Nat.le_refl _) _).alloc (by simp [go_sem]) _)
  have HG1 : Hid (Whole w1 gb 75 #[.string (Bs d.nm), .int .i64 d.el, .int .i64 d.ln, .slice d.IA d.il.length d.ic, .bool d.ro]) := hide (by rw [← hw1, ← hgb]; exact (Whole.new _ _ _).alloc _)
  have HR1 : Hid (Whole w1 (gb + 1) 84 #[.int .i64 0, .slice none 0 0]) := hide (by
    rw [← hw1, ← hgb]
    have h0 := Whole.new (w.alloc (.cells #[.string (Bs d.nm), .int .i64 d.el, .int .i64 d.ln, .slice d.IA d.il.length d.ic, .bool d.ro] 75)) 84 #[.int .i64 0, .slice none 0 0]
    rw [World.size_alloc] at h0
    exact h0)
  simp only [hw1, hgb]
  have HGB := hide hgb
  clear hw1 hgb
  have g1 : w1.cell? ⟨gb, 1, none⟩ = some (.int .i64 d.el) := HG1.out.cell 1
  have g2 : w1.cell? ⟨gb, 2, none⟩ = some (.int .i64 d.ln) := HG1.out.cell 2
  go_wp2_with fail
  refine (HPC.out _).mono ?_
  rintro en w2 ⟨g, rfl, hg, hW, hb⟩
  have HG2 := hide (And.intro hg (And.intro hW hb))
  clear hg hW hb g1 g2
  go_upto_region 2 with fail
  obtain ⟨cb, hcb⟩ : ∃ x, w2.heap.size = x := ⟨_, rfl⟩
  obtain ⟨w3, hw3⟩ : ∃ x, w2.alloc (.cells #[.int .i64 d.el, .slice (some ⟨g, 0, none⟩) n n] 84) = x := ⟨_, rfl⟩
  have HS : Hid (IniS w w3 (gb + 1) gb g cb n d 0) := hide (by
    obtain ⟨hg, hW, hb⟩ := HG2.out
    have hb3 : Below w2.heap.size w2 w3 := by rw [← hw3]; exact (Below.refl _ _).alloc (Nat.le_refl _) _
    have hb13 := Below.all hb hb3
    have hb03 := Below.all HB1.out hb13
    have hs1 := HB1.out.size
    have hs2 := HG1.out.lt
    have hs3 := HR1.out.lt
    have hs4 := hW.lt
    refine ⟨hb03, HR1.out.below' hb13, HG1.out.below' hb13, by rw [iniV_zero, HN.out]; exact hW.below' hb3, by rw [← hw3, ← hcb]; exact Whole.new _ _ _, HR.out.below' hb03, HT.out.below hb03, by rw [HGB.out]; omega, by omega, by omega, by omega, by omega⟩)
  simp only [hw3, hcb]
  clear hw3 hcb
  have HGV3 := hide (HGV.out.below HS.out.b)
  have g3 : w3.cell? ⟨gb, 3, none⟩ = some (.slice d.IA d.il.length d.ic) := HS.out.gl.cell 3
  go_wp2_with fail
  clear g3
  go_loopw [16] (fun v W => ∃ i : Nat, v = .int .i64 (i : Int) ∧ i ≤ d.il.length ∧ IniS w W (gb + 1) gb g cb n d i) (fun v _ => d.il.length - (intOf v).toNat)
  case atStart => exact ⟨0, rfl, by omega, HS.out⟩
  case round =>
    obtain ⟨i, rfl, hi, hS⟩ := hrel
    replace HS := hide hS
    clear hS
    rcases Nat.lt_or_ge i d.il.length with hlt | hge
    · have HLT := hide hlt
      obtain ⟨z, hz⟩ : ∃ z, d.il[i]? = some z := ⟨_, List.getElem?_eq_getElem hlt⟩
      have HZ := hide hz
      obtain ⟨zb, zo, hZ, hzc⟩ := rd_at HS.out.rd (by omega)
      have hcz := hzc i z hz
      have hel : 2 ≤ d.el ∧ d.el ≤ 4 := by
        have h1 := HO.out.el
        have h2 := HO.out.ptr
        refine ⟨h1.1, ?_⟩
        have : d.el ≠ 5 := fun e => by rw [h2 e] at hlt; simp at hlt
        omega
      obtain ⟨y, hy⟩ : ∃ y, wrapI d.el z = y := ⟨_, rfl⟩
      have hIC := fun W hT => intC d.el z hel W hT
      rw [hy] at hIC
      have HIC := hide hIC
      have HY := hide hy
      have r0 : (0 : Int) ≤ (i : Int) := by omega
      have r1 : (i : Int) < (d.il.length : Int) := by omega
      have q5 : i < n := by have := HO.out.il; have := HN.out; omega
      have q6 : (i : Int) < (n : Int) := by omega
      have r3 : (i : Int) < 256 := by have := HO.out.il; have := HO.out.ln; omega
      clear hz hzc hlt hel hIC hy
      rw [hZ]
      go_upto_region 5 with fail
      clear hcz
      replace HS := hide (HS.out.next ((Below.refl _ _).drew))
      go_region_held3 (fun w' => w'.cell? ⟨cb, 1, none⟩ = some (.slice (some ⟨g, 0, none⟩) n n) ∧ w'.cell? ⟨gb, 1, none⟩ = some (.int .i64 d.el)) (first | with_reducible exact ⟨HS.out.c1, HS.out.e1⟩ | with_reducible exact ⟨(HS.out.put HT.out HR.out HZ.out HO.out.il HY.out).c1, (HS.out.put HT.out HR.out HZ.out HO.out.il HY.out).e1⟩) (first | (go_at_call 61; refine (HIC.out _ HS.out.tab).mono ?_; rintro en xn ⟨rfl, hb⟩; replace HS := hide (HS.out.next hb); clear hb; have hfr := HS.out.row.free; obtain ⟨r0,r1,r2,r3,r4,r5,r6,r7,r8,r9,r10,r11,r12,r13⟩ := row_cells HS.out.row (i := i) (v := pV d.el) (iniV_at HLT.out HO.out.il)))
      go_wp2_with fail
      go_roundw
      case rel => have := HLT.out; exact ⟨i + 1, by go_num, by omega, HS.out.put HT.out HR.out HZ.out HO.out.il HY.out⟩
      case measure => have := HLT.out; simp [intOf]; omega
    · obtain rfl : i = d.il.length := by omega
      have hlen : (iniV d d.il.length).length = n := by rw [iniV_len (Nat.le_refl _) HO.out.il]; exact HN.out
      have HLN := hide hlen
      have c1 := HS.out.c1
      clear hlen
      go_wp2_with (refine wpList_copy_vals rfl (.tmp 31) (.tmp 32) rfl g n (iniV d d.il.length) gv GA gc rfl rfl HS.out.row HLN.out (by rw [← HN.out]; exact HLE.out) (HGV.out.below HS.out.b) ?_; intro w7 hW7 hg7; obtain ⟨k0, k1, e0, e1, f0, f1, hr7, hb7⟩ := HS.out.copied hg7; have HW7 := hide (And.intro hW7 (And.intro hr7 hb7)); clear hW7 hg7 hr7 hb7 c1)
      obtain ⟨hW7, hr7, hb7⟩ := HW7.out
      have hng : g ≠ gb + 1 := HS.out.nr
      have hR := ((hr7.set 0 (.int .i64 d.el)).set 1 (.slice (some ⟨g, 0, none⟩) n n))
      have m0 := hR.cell 0
      have m1 := hR.cell 1
      refine bodyPost_ret (v := .agg #[.int .i64 d.el, .slice (some ⟨g, 0, none⟩) n n]) ?_ rfl ⟨g, rfl, HS.out.lg, (hW7.far (p := ⟨gb + 1, 0, none⟩) hng _).far (p := ⟨gb + 1, 1, none⟩) hng _, (hb7.setCell HS.out.lr _).setCell HS.out.lr _⟩
      simp [results, Tryd.f35, go_sem, m0, m1]
end Go.Proofs.YtjphechnadoblaaDoor
namespace Go.Proofs.YtjphechnadoblaaDoor
open Go.RowKit Go.ChangeShapes Go.WideShapes

def VD.ok (v : VD) : Bool := validB v.t v.o v.a v.b v.c v.d
theorem vvalid (v : VD) (w : World) (hT : Tab w) : Calls Tryd.prog 31 #[.agg #[.int .i64 v.t, .int .i64 v.o, .int .i64 v.a.n, .bool v.a.p, .bool v.a.u, .int .i64 v.b.n, .bool v.b.p, .bool v.b.u, .int .i64 v.c.n, .bool v.c.p, .bool v.c.u, .int .i64 v.d.n, .bool v.d.p, .bool v.d.u]] w fun e w' => e = .returned (.bool v.ok) ∧ Below w.heap.size w w' := valid_any v.t v.o v.a v.b v.c v.d w hT
theorem RdVals.at {w : World} {GA : Option Addr} {gc : Nat} {gv : List VD} (h : RdVals w GA gc gv) {i : Nat} {v : VD} (hi : gv[i]? = some v) :
    ∃ b off, GA = some ⟨b, off, none⟩ ∧ w.cell? ⟨b, off + i * 14, none⟩ = some (.int .i64 v.t) ∧ w.cell? ⟨b, off + i * 14 + 1, none⟩ = some (.int .i64 v.o) ∧ w.cell? ⟨b, off + i * 14 + 2, none⟩ = some (.int .i64 v.a.n) ∧ w.cell? ⟨b, off + i * 14 + 3, none⟩ = some (.bool v.a.p) ∧ w.cell? ⟨b, off + i * 14 + 4, none⟩ = some (.bool v.a.u) ∧ w.cell? ⟨b, off + i * 14 + 5, none⟩ = some (.int .i64 v.b.n) ∧ w.cell? ⟨b, off + i * 14 + 6, none⟩ = some (.bool v.b.p) ∧ w.cell? ⟨b, off + i * 14 + 7, none⟩ = some (.bool v.b.u) ∧ w.cell? ⟨b, off + i * 14 + 8, none⟩ = some (.int .i64 v.c.n) ∧ w.cell? ⟨b, off + i * 14 + 9, none⟩ = some (.bool v.c.p) ∧ w.cell? ⟨b, off + i * 14 + 10, none⟩ = some (.bool v.c.u) ∧ w.cell? ⟨b, off + i * 14 + 11, none⟩ = some (.int .i64 v.d.n) ∧ w.cell? ⟨b, off + i * 14 + 12, none⟩ = some (.bool v.d.p) ∧ w.cell? ⟨b, off + i * 14 + 13, none⟩ = some (.bool v.d.u) := by
  obtain ⟨_, A, c, e, _, _, hc⟩ := h
  rw [List.length_map] at e hc
  injection e with e1 _ _
  subst e1
  have hlt := (List.getElem?_eq_some_iff.1 hi).1
  obtain ⟨b, off, rfl, hb, hcell⟩ := hc (by omega)
  have k := fun (j : Nat) (z : Value) (hz : (VD.cl v)[j]? = some z) => hcell i j _ z (by rw [List.getElem?_map, hi]; rfl) hz
  refine ⟨b, off, rfl, k 0 _ rfl, ?_, ?_, ?_, ?_, ?_, ?_, ?_, ?_, ?_, ?_, ?_, ?_, ?_⟩
  · rw [Nat.add_assoc]; exact k 1 _ rfl
  · rw [Nat.add_assoc]; exact k 2 _ rfl
  · rw [Nat.add_assoc]; exact k 3 _ rfl
  · rw [Nat.add_assoc]; exact k 4 _ rfl
  · rw [Nat.add_assoc]; exact k 5 _ rfl
  · rw [Nat.add_assoc]; exact k 6 _ rfl
  · rw [Nat.add_assoc]; exact k 7 _ rfl
  · rw [Nat.add_assoc]; exact k 8 _ rfl
  · rw [Nat.add_assoc]; exact k 9 _ rfl
  · rw [Nat.add_assoc]; exact k 10 _ rfl
  · rw [Nat.add_assoc]; exact k 11 _ rfl
  · rw [Nat.add_assoc]; exact k 12 _ rfl
  · rw [Nat.add_assoc]; exact k 13 _ rfl
theorem RdVals.cap {w : World} {GA : Option Addr} {gc : Nat} {gv : List VD} (h : RdVals w GA gc gv) : gv.length ≤ gc ∧ gc ≤ maxLen := by
  obtain ⟨_, A, c, e, h1, h2, _⟩ := h
  rw [List.length_map] at e h1
  injection e with _ _ e3
  subst e3
  exact ⟨h1, h2⟩
set_option maxRecDepth 100000 in
set_option maxHeartbeats 4000000 in
theorem fits_ok (d : GD) (hln : d.ln ≤ 256) (GA : Option Addr) (gc : Nat) (gv : List VD) (hle : (gv.length : Int) ≤ d.ln) (hv : ∀ v ∈ gv, v.t = d.el ∧ v.ok = true) (w : World) (hT : Tab w) (hg : RdVals w GA gc gv) :
    Calls Tryd.prog 34 #[.slice GA gv.length gc, .agg #[.string (Bs d.nm), .int .i64 d.el, .int .i64 d.ln, .slice d.IA d.il.length d.ic, .bool d.ro]] w fun e w' => e = .returned (.bool true) ∧ Below w.heap.size w w' := by
  have HV := hide hv
  have HG := hide hg
  have HT := hide hT
  obtain ⟨hc1, hc2⟩ := hg.cap
  have hc9 : gc ≤ 9223372036854775807 := by unfold maxLen at hc2; omega
  have s0 : decide ((gv.length : Int) ≤ d.ln) = true := by simpa using hle
  obtain ⟨gb, hgb⟩ : ∃ x, w.heap.size = x := ⟨_, rfl⟩
  obtain ⟨w1, hw1⟩ : ∃ x, w.alloc (.cells #[.string (Bs d.nm), .int .i64 d.el, .int .i64 d.ln, .slice d.IA d.il.length d.ic, .bool d.ro] 75) = x := ⟨_, rfl⟩
  have HB1 : Hid (Below w.heap.size w w1) := hide (by rw [← hw1]; exact (Below.refl _ _).alloc (Nat.le_refl _) _)
  have HG1 : Hid (Whole w1 gb 75 #[.string (Bs d.nm), .int .i64 d.el, .int .i64 d.ln, .slice d.IA d.il.length d.ic, .bool d.ro]) := hide (by rw [← hw1, ← hgb]; exact Whole.new _ _ _)
  clear hv hg hT hc2
  go_enter Tryd.func34, Tryd.ntmps34
  go_upto_region 1 with fail
  have HGB := hide hgb
  clear hw1 hgb
  go_wp2_with fail
  go_loopw [9] (fun v W => ∃ i : Nat, v = .int .i64 (i : Int) ∧ i ≤ gv.length ∧ Below w1.heap.size w1 W) (fun v _ => gv.length - (intOf v).toNat)
  case atStart => exact ⟨0, rfl, by omega, Below.refl _ _⟩
  case round =>
    obtain ⟨i, rfl, hi, hb⟩ := hrel
    have HB := hide hb
    rcases Nat.lt_or_ge i gv.length with hlt | hge
    · obtain ⟨v, hv⟩ : ∃ v, gv[i]? = some v := ⟨_, List.getElem?_eq_getElem hlt⟩
      have HLT := hide hlt
      have h0b := Below.all HB1.out hb
      obtain ⟨vb, vo, hA, c0, c1, c2, c3, c4, c5, c6, c7, c8, c9, c10, c11, c12, c13⟩ := (HG.out.below h0b).at hv
      obtain ⟨ht, hok⟩ := HV.out v (List.mem_of_getElem? hv)
      have hVV := fun W hT => vvalid v W hT
      rw [hok] at hVV
      have HVV := hide hVV
      have t0 : (v.t != d.el) = false := by rw [ht]; simp
      have r0 : (0 : Int) ≤ (i : Int) := by omega
      have r1 : (i : Int) < (gv.length : Int) := by omega
      have r3 : (i : Int) < 256 := by omega
      subst hA
      clear hb hlt hv ht hok hVV h0b
      go_upto_region 4 with fail
      obtain ⟨vb2, hvb2⟩ : ∃ x, wr.heap.size = x := ⟨_, rfl⟩
      obtain ⟨w2, hw2⟩ : ∃ x, wr.alloc (.cells #[.int .i64 v.t, .int .i64 v.o, .int .i64 v.a.n, .bool v.a.p, .bool v.a.u, .int .i64 v.b.n, .bool v.b.p, .bool v.b.u, .int .i64 v.c.n, .bool v.c.p, .bool v.c.u, .int .i64 v.d.n, .bool v.d.p, .bool v.d.u] 46) = x := ⟨_, rfl⟩
      have HB2 : Hid (Below wr.heap.size wr w2) := hide (by rw [← hw2]; exact (Below.refl _ _).alloc (Nat.le_refl _) _)
      have HW2 : Hid (Whole w2 vb2 46 #[.int .i64 v.t, .int .i64 v.o, .int .i64 v.a.n, .bool v.a.p, .bool v.a.u, .int .i64 v.b.n, .bool v.b.p, .bool v.b.u, .int .i64 v.c.n, .bool v.c.p, .bool v.c.u, .int .i64 v.d.n, .bool v.d.p, .bool v.d.u]) := hide (by rw [← hw2, ← hvb2]; exact Whole.new _ _ _)
      simp only [hw2, hvb2]
      clear hw2 hvb2 c0 c1 c2 c3 c4 c5 c6 c7 c8 c9 c10 c11 c12 c13
      have c0 : w2.cell? ⟨vb2, 0, none⟩ = some (.int .i64 v.t) := HW2.out.cell 0
      have c1 : w2.cell? ⟨vb2, 1, none⟩ = some (.int .i64 v.o) := HW2.out.cell 1
      have c2 : w2.cell? ⟨vb2, 2, none⟩ = some (.int .i64 v.a.n) := HW2.out.cell 2
      have c3 : w2.cell? ⟨vb2, 3, none⟩ = some (.bool v.a.p) := HW2.out.cell 3
      have c4 : w2.cell? ⟨vb2, 4, none⟩ = some (.bool v.a.u) := HW2.out.cell 4
      have c5 : w2.cell? ⟨vb2, 5, none⟩ = some (.int .i64 v.b.n) := HW2.out.cell 5
      have c6 : w2.cell? ⟨vb2, 6, none⟩ = some (.bool v.b.p) := HW2.out.cell 6
      have c7 : w2.cell? ⟨vb2, 7, none⟩ = some (.bool v.b.u) := HW2.out.cell 7
      have c8 : w2.cell? ⟨vb2, 8, none⟩ = some (.int .i64 v.c.n) := HW2.out.cell 8
      have c9 : w2.cell? ⟨vb2, 9, none⟩ = some (.bool v.c.p) := HW2.out.cell 9
      have c10 : w2.cell? ⟨vb2, 10, none⟩ = some (.bool v.c.u) := HW2.out.cell 10
      have c11 : w2.cell? ⟨vb2, 11, none⟩ = some (.int .i64 v.d.n) := HW2.out.cell 11
      have c12 : w2.cell? ⟨vb2, 12, none⟩ = some (.bool v.d.p) := HW2.out.cell 12
      have c13 : w2.cell? ⟨vb2, 13, none⟩ = some (.bool v.d.u) := HW2.out.cell 13
      have g1 : w2.cell? ⟨gb, 1, none⟩ = some (.int .i64 d.el) := ((HG1.out.below' HB.out).below' HB2.out).cell 1
      go_wp2_with fail
      refine (HVV.out _ (HT.out.below (Below.all HB1.out (Below.all HB.out HB2.out)))).mono ?_
      rintro en w3 ⟨rfl, hb3⟩
      have HB3 := hide (Below.all HB.out (Below.all HB2.out hb3))
      clear hb3
      go_wp2_with fail
      go_roundw
      case rel => have := HLT.out; exact ⟨i + 1, by go_num, by omega, HB3.out⟩
      case measure => have := HLT.out; simp [intOf]; omega
    · obtain rfl : i = gv.length := by omega
      have g2 : World.cell? _ ⟨gb, 2, none⟩ = some (.int .i64 d.ln) := (HG1.out.below' hb).cell 2
      go_wp2_with fail
      go_ret
      exact ⟨rfl, Below.all HB1.out hb⟩
end Go.Proofs.YtjphechnadoblaaDoor
namespace Go.Proofs.YtjphechnadoblaaDoor
open Go.RowKit Go.ChangeShapes Go.WideShapes

/-- A list of cells that is handed in. -/
structure CD where
  A : Option Addr
  c : Nat
  l : List VD
def CD.none : CD := ⟨.none, 0, []⟩
structure CellsAt (w : World) (CA : Option Addr) (cc : Nat) (cs : List CD) : Prop where
  rows : RdN w 1 (.slice CA cs.length cc) (cs.map fun d => [Value.slice d.A d.l.length d.c])
  vals : ∀ d ∈ cs, RdVals w d.A d.c d.l
theorem CellsAt.below {w w' : World} {CA : Option Addr} {cc : Nat} {cs : List CD} (h : CellsAt w CA cc cs) (hb : Below w.heap.size w w') : CellsAt w' CA cc cs :=
  ⟨h.rows.below' hb, fun d hd => (h.vals d hd).below hb⟩
theorem CellsAt.at {w : World} {CA : Option Addr} {cc : Nat} {cs : List CD} (h : CellsAt w CA cc cs) {i : Nat} {d : CD} (hi : cs[i]? = some d) : ∃ b off, CA = some ⟨b, off, .none⟩ ∧ w.cell? ⟨b, off + i, .none⟩ = some (.slice d.A d.l.length d.c) := by
  obtain ⟨_, A, c, e, _, _, hc⟩ := h.rows
  rw [List.length_map] at e hc
  injection e with e1 _ _
  subst e1
  have hlt := (List.getElem?_eq_some_iff.1 hi).1
  obtain ⟨b, off, rfl, hb, hcell⟩ := hc (by omega)
  have := hcell i 0 _ (.slice d.A d.l.length d.c) (by rw [List.getElem?_map, hi]; rfl) rfl
  rw [Nat.mul_one, Nat.add_zero] at this
  exact ⟨b, off, rfl, this⟩
theorem CellsAt.cap {w : World} {CA : Option Addr} {cc : Nat} {cs : List CD} (h : CellsAt w CA cc cs) : cs.length ≤ cc ∧ cc ≤ maxLen := by
  obtain ⟨_, A, c, e, h1, h2, _⟩ := h.rows
  rw [List.length_map] at e h1
  injection e with _ _ e3
  subst e3
  exact ⟨h1, h2⟩
theorem CellsAt.nil (w : World) : CellsAt w .none 0 [] := ⟨⟨fun _ h => (by cases h), .none, 0, rfl, Nat.le_refl _, Nat.zero_le _, fun h => absurd h (by simp)⟩, fun _ h => (by cases h)⟩
theorem RdVals.nil (w : World) : RdVals w .none 0 [] := ⟨fun _ h => (by cases h), .none, 0, rfl, Nat.le_refl _, Nat.zero_le _, fun h => absurd h (by simp)⟩
/-- The list for global i. -/
def givC (cs : List CD) (i : Nat) : CD := (cs[i]?).getD CD.none
/-- The cells that a global gets. -/
def newVs (d : GD) (l : List VD) : List VD := l ++ (iniV d d.il.length).drop l.length
theorem newVs_len {d : GD} {l : List VD} (hd : OkG d) (hl : (l.length : Int) ≤ d.ln) : (newVs d l).length = d.ln.toNat := by
  unfold newVs
  rw [List.length_append, List.length_drop, iniV_len (Nat.le_refl _) hd.il]; omega
/-- What New's objects are. -/
def Made (gs : List GD) (cs : List CD) (os : List OD) : Prop := ∀ (j : Nat) (d : GD) (o : OD), gs[j]? = some d → os[j]? = some o → o.el = d.el ∧ o.ro = d.ro ∧ o.vs = newVs d (givC cs j).l
/-- What New asks of what is handed in. -/
structure FitC (gs : List GD) (cs : List CD) : Prop where
  n : cs.length ≤ gs.length
  fit : ∀ (j : Nat) (d : GD), gs[j]? = some d → ((givC cs j).l.length : Int) ≤ d.ln ∧ ∀ v ∈ (givC cs j).l, v.t = d.el ∧ v.ok = true
theorem givC_rd {w : World} {CA : Option Addr} {cc : Nat} {cs : List CD} (h : CellsAt w CA cc cs) (i : Nat) : RdVals w (givC cs i).A (givC cs i).c (givC cs i).l := by
  unfold givC
  cases hi : cs[i]? with
  | none => exact RdVals.nil w
  | some d => exact h.vals d (List.mem_of_getElem? hi)
theorem diagSame (W : World) : (binOp .neq 79 okD okD).run Tryd.prog W = .ok (.bool false) W := by kernel_rfl
theorem MemP.self {w : World} {B x : Nat} {sp OV : Value} {gl : Int} {os : List OD} (h : MemP w B x sp OV gl os) : MemAt (w.setCell ⟨x, 2, .none⟩ (.pointer (some ⟨x, 0, .none⟩))) B x OV gl os := by
  have hg := only_set (only_refl w x) 2 (.pointer (some ⟨x, 0, .none⟩))
  refine ⟨h.lx, h.m.set 2 _, World.ownsRow.kept (row := some x) h.own hg ?_, h.ax, fun i o ho hn => ?_, h.sep⟩
  · cases hv : OV.ownBlock with
    | none => exact .inl rfl
    | some k => exact .inr (by have := h.ax; rw [hv] at this; exact this)
  · obtain ⟨h1, h2, h3, h4⟩ := h.vals i o ho hn
    exact ⟨h1, h2, h3, h4.grown hg (fun e => h2 (Option.some.inj e))⟩
theorem new_end {w w4 xn w6 : World} {x g : Nat} {sp OV OV' : Value} {gl : Int} {os : List OD} {ob : OD} {cs : Array Value} {T : TypeId} (hS : MemP w4 w.heap.size x sp OV gl os) (hb0 : Below w.heap.size w w4) (hX : MemP xn w.heap.size x sp OV gl os)
    (hG : w4.heap.size ≤ g ∧ Whole xn g 46 (rowA ob.vs) ∧ Below w4.heap.size w4 xn) (he : ob.g = g)
    (ho : w6.ownsRow w.heap.size 86 3 OV' (os.length + 1) (rowO (os ++ [ob]))) (hgr : (xn.alloc (.cells cs T)).grownBy w6 OV.ownBlock) (hbl : OV'.ownBlock = OV.ownBlock ∨ OV'.ownBlock = some (xn.alloc (.cells cs T)).heap.size) :
    ∃ A' c', OV' = .slice A' (os.length + 1) c' ∧ w6.cell? ⟨x, 0, none⟩ = some OV ∧ w6.frozen? ⟨x, 0, none⟩ = false ∧
      (MemP (w6.setCell ⟨x, 0, none⟩ (.slice A' (os.length + 1) c')) w.heap.size x sp (.slice A' (os.length + 1) c') gl (os ++ [ob]) ∧ Below w.heap.size w (w6.setCell ⟨x, 0, none⟩ (.slice A' (os.length + 1) c'))) := by
  obtain ⟨A', c', rfl, _⟩ := row_form ho
  have hal : Below xn.heap.size xn (xn.alloc (.cells cs T)) := (Below.refl _ _).alloc (Nat.le_refl _) _
  obtain ⟨h1, h2⟩ := MemP.push hS (Below.all hG.2.2 hal) hG.1 he (hG.2.1.alloc _) ho hgr hbl
  obtain ⟨c0, f0⟩ := MemP.cell0 (hX.below hal) hgr
  exact ⟨A', c', rfl, c0, f0, h1, hb0.trans ((hG.2.2.trans (hal.mono hG.2.2.size)).mono hb0.size |>.trans h2)⟩
theorem sl_made {d : GD} {l : List VD} (g : Nat) (hd : OkG d) (hl : (l.length : Int) ≤ d.ln) : OD.sl ⟨d.el, d.ro, newVs d l, g⟩ = .slice (some ⟨g, 0, .none⟩) d.ln.toNat d.ln.toNat := by
  have h := newVs_len hd hl
  have hn := hd.ln
  unfold OD.sl
  rw [if_neg (fun e => by rw [show (⟨d.el, d.ro, newVs d l, g⟩ : OD).vs = newVs d l from rfl] at e; rw [e] at h; simp at h; omega)]
  rw [show (⟨d.el, d.ro, newVs d l, g⟩ : OD).vs = newVs d l from rfl, h]
theorem made_snoc {gs : List GD} {cs : List CD} {os : List OD} {d : GD} {i g : Nat} {l : List VD} (h : Made gs cs os) (hl : os.length = i) (hd : gs[i]? = some d) (hg : l = (givC cs i).l) : Made gs cs (os ++ [⟨d.el, d.ro, newVs d l, g⟩]) := by
  intro j d' o hj ho
  rcases Nat.lt_or_ge j os.length with hlt | hge
  · rw [List.getElem?_append_left hlt] at ho
    exact h j d' o hj ho
  · rw [List.getElem?_append_right hge] at ho
    rcases Nat.eq_zero_or_pos (j - os.length) with h0 | h0
    · rw [h0] at ho
      have e : o = ⟨d.el, d.ro, newVs d l, g⟩ := by simpa using ho.symm
      obtain rfl : j = i := by omega
      rw [hd] at hj
      injection hj with hj
      subst hj e hg
      exact ⟨rfl, rfl, rfl⟩
    · rw [List.getElem?_eq_none (by simp; omega)] at ho; cases ho
set_option maxRecDepth 100000 in
set_option maxHeartbeats 4000000 in
theorem new_any (GA FA CA : Option Addr) (gc fc cc : Nat) (gs : List GD) (cs : List CD) (h32 : gs.length ≤ 32) (hok : ∀ d ∈ gs, OkG d) (hdis : ∀ i d, gs[i]? = some d → inB (Bs d.nm) (seenL gs i) = false) (hF : FitC gs cs) (w : World) (hT : Tab w) (hG : GlobAt w GA gc gs) (hC : CellsAt w CA cc cs) :
    Calls Tryd.prog 16 #[.agg #[.slice GA gs.length gc, .slice FA 0 fc], .slice CA cs.length cc] w fun e w' =>
      ∃ x OV os, e = .returned (.pointer (some ⟨x, 0, none⟩)) ∧ MemAt w' w.heap.size x OV (gs.length : Int) os ∧ os.length = gs.length ∧ Made gs cs os ∧ Below w.heap.size w w' := by
  have HF := hide hF
  have HT := hide hT
  have HGA := hide hG
  have HC := hide hC
  have HOK := hide hok
  have HMO : Hid (∀ W, Below w.heap.size w W → _) := hide (fun W hb => module_ok GA FA gc fc gs h32 hok hdis W (hT.below hb) (hG.below hb))
  have HCP : Hid (gs.length ≤ gc ∧ gc ≤ maxLen) := hide (by obtain ⟨_, A', c', e, h1, h2, _⟩ := hG.rows; rw [List.length_map] at e h1; injection e with _ _ e3; subst e3; exact ⟨h1, h2⟩)
  have hcc := hC.cap
  have hcc9 : cc ≤ 9223372036854775807 := by unfold maxLen at hcc; omega
  have hgc9 : gc ≤ 9223372036854775807 := by have := HCP.out.2; unfold maxLen at this; omega
  have s0 : decide ((gs.length : Int) < (cs.length : Int)) = false := by have := hF.n; simp; omega
  have s1 : decide (gs.length < cs.length) = false := by have := hF.n; simp; omega
  have hds := diagSame
  obtain ⟨mb, hmb⟩ : ∃ x, w.heap.size = x := ⟨_, rfl⟩
  obtain ⟨w1, hw1⟩ : ∃ x, w.alloc (.cells #[.slice GA gs.length gc, .slice FA 0 fc] 25) = x := ⟨_, rfl⟩
  have HB1 : Hid (Below w.heap.size w w1) := hide (by rw [← hw1]; exact (Below.refl _ _).alloc (Nat.le_refl _) _)
  have HM1 : Hid (Whole w1 mb 25 #[.slice GA gs.length gc, .slice FA 0 fc]) := hide (by rw [← hw1, ← hmb]; exact Whole.new _ _ _)
  have m0 : w1.cell? ⟨mb, 0, none⟩ = some (.slice GA gs.length gc) := HM1.out.cell 0
  have m1 : w1.cell? ⟨mb, 1, none⟩ = some (.slice FA 0 fc) := HM1.out.cell 1
  clear hF hT hG hC hok hdis
  go_enter Tryd.func16, Tryd.ntmps16
  go_upto_region 1 with fail
  have HMB := hide hmb
  clear hw1 hmb
  go_wp2_with fail
  refine (HMO.out _ HB1.out).mono ?_
  rintro en w2 ⟨rfl, hb2⟩
  have HB2 := hide (Below.all HB1.out hb2)
  have HM2 := hide (HM1.out.below' hb2)
  clear hb2 m0 m1
  have m0 : w2.cell? ⟨mb, 0, none⟩ = some (.slice GA gs.length gc) := HM2.out.cell 0
  go_upto_region 4 with fail
  obtain ⟨x, hx⟩ : ∃ x, w2.heap.size = x := ⟨_, rfl⟩
  obtain ⟨w3, hw3⟩ : ∃ X, w2.alloc (.cells #[.slice none 0 0, .int .i64 (gs.length : Int), .pointer none] 72) = X := ⟨_, rfl⟩
  have HM3 : Hid (MemP w3 w.heap.size x (.pointer none) (.slice none 0 0) (gs.length : Int) []) := hide ⟨by rw [← hx]; exact HB2.out.size, by rw [← hw3, ← hx]; exact Whole.new _ _ _, World.ownsRow_nil _ _ _ _, by simp [Value.ownBlock], fun i o h => by simp at h, fun i j o p h => by simp at h⟩
  have HB3 : Hid (Below w.heap.size w w3) := hide (Below.all HB2.out (by rw [← hw3]; exact (Below.refl _ _).alloc (Nat.le_refl _) _))
  have m0 : w3.cell? ⟨mb, 0, none⟩ = some (.slice GA gs.length gc) := by
    rw [← hw3]
    exact (HM2.out.alloc _).cell 0
  simp only [hw3, hx]
  clear hw3 hx
  go_wp2_with fail
  clear m0
  go_loopw [29] (fun v W => ∃ i : Nat, v = .int .i64 (i : Int) ∧ i ≤ gs.length ∧ ∃ OV os, MemP W w.heap.size x (.pointer none) OV (gs.length : Int) os ∧ os.length = i ∧ Made gs cs os ∧ Below w.heap.size w W) (fun v _ => gs.length - (intOf v).toNat)
  case atStart => exact ⟨0, rfl, by omega, _, [], HM3.out, rfl, fun j d o _ h => by simp at h, HB3.out⟩
  case round =>
    obtain ⟨i, rfl, hi, OV, os, hM, hos, hmd, hbW⟩ := hrel
    have HM := hide hM
    have HOS := hide hos
    have HMD := hide hmd
    have HBW := hide hbW
    obtain ⟨A, c, hOV, hc⟩ := hM.form
    rcases Nat.lt_or_ge i gs.length with hlt | hge
    · obtain ⟨d, hd⟩ : ∃ d, gs[i]? = some d := ⟨_, List.getElem?_eq_getElem hlt⟩
      have HQI := hide (And.intro hlt h32)
      have HDI := hide hd
      obtain ⟨b, off, hA, c0, c1, c2, c3, c4⟩ := (HGA.out.below hbW).at hd
      have HO := hide (HOK.out d (List.mem_of_getElem? hd))
      have HR0 : Hid (Rd w .i64 (.slice d.IA d.il.length d.ic) d.il) := hide (HGA.out.init d (List.mem_of_getElem? hd))
      have q0 : (0 : Int) ≤ (i : Int) := by omega
      have q1 : (i : Int) < (gs.length : Int) := by omega
      have q2 : (i : Int) < 256 := by omega
      subst hA hOV
      clear hM hos hmd hbW hc hd hlt
      go_upto_region 7 with fail
      obtain ⟨gb, hgb⟩ : ∃ x, wr.heap.size = x := ⟨_, rfl⟩
      obtain ⟨w4, hw4⟩ : ∃ x, wr.alloc (.cells #[.string (Bs d.nm), .int .i64 d.el, .int .i64 d.ln, .slice d.IA d.il.length d.ic, .bool d.ro] 75) = x := ⟨_, rfl⟩
      have HB4 : Hid (Below wr.heap.size wr w4) := hide (by rw [← hw4]; exact (Below.refl _ _).alloc (Nat.le_refl _) _)
      have HG4 : Hid (Whole w4 gb 75 #[.string (Bs d.nm), .int .i64 d.el, .int .i64 d.ln, .slice d.IA d.il.length d.ic, .bool d.ro]) := hide (by rw [← hw4, ← hgb]; exact Whole.new _ _ _)
      simp only [hw4, hgb]
      clear hw4 hgb c0 c1 c2 c3 c4
      by_cases hic : i < cs.length
      · have s2 : decide (i < cs.length) = true := by simpa using hic
        obtain ⟨gv, hcd⟩ : ∃ x, cs[i]? = some x := ⟨_, List.getElem?_eq_getElem hic⟩
        obtain ⟨b2, off2, hCA, hcl⟩ := (HC.out.below (Below.all HBW.out HB4.out)).at hcd
        have q3 : (i : Int) < (cs.length : Int) := by omega
        have HCD := hide (show givC cs i = gv by unfold givC; rw [hcd]; rfl)
        subst hCA
        clear hic hcd
        go_upto_region 10 with fail
        clear hcl s2
        have HGV : Hid (RdVals w4 gv.A gv.c gv.l) := hide (by have h := givC_rd (HC.out.below (Below.all HBW.out HB4.out)) i; rw [HCD.out] at h; exact h)
        have HFT : Hid (((gv.l).length : Int) ≤ d.ln ∧ ∀ v ∈ gv.l, v.t = d.el ∧ v.ok = true) := hide (by have h := HF.out.fit i d HDI.out; rw [HCD.out] at h; exact h)
        have HGE : Hid (gv.l = (givC cs i).l) := hide (by rw [HCD.out] <;> rfl)
        have e0 : w4.cell? ⟨gb, 0, none⟩ = some (.string (Bs d.nm)) := HG4.out.cell 0
        have e1 : w4.cell? ⟨gb, 1, none⟩ = some (.int .i64 d.el) := HG4.out.cell 1
        have e2 : w4.cell? ⟨gb, 2, none⟩ = some (.int .i64 d.ln) := HG4.out.cell 2
        have e3 : w4.cell? ⟨gb, 3, none⟩ = some (.slice d.IA d.il.length d.ic) := HG4.out.cell 3
        have e4 : w4.cell? ⟨gb, 4, none⟩ = some (.bool d.ro) := HG4.out.cell 4
        go_wp2_with fail
        refine (fits_ok d HO.out.ln.2 gv.A gv.c gv.l HFT.out.1 HFT.out.2 _ (HT.out.below (Below.all HBW.out HB4.out)) HGV.out).mono ?_
        rintro en w5 ⟨rfl, hb5⟩
        have HB5 := hide hb5
        have HG5 := hide (HG4.out.below' hb5)
        have HM5 := hide (HM.out.below (Below.all HB4.out hb5))
        have HBW5 := hide (Below.all HBW.out (Below.all HB4.out hb5))
        have HGV5 := hide (HGV.out.below hb5)
        clear hb5 e0 e1 e2 e3 e4
        go_upto_region 12 with fail
        have HINI := hide (fun W hT hr hg => inicells_any d HO.out gv.A gv.c gv.l (by have := HFT.out.1; omega) W hT hr hg)
        have c0 : w5.cell? ⟨x, 0, none⟩ = some (.slice A os.length c) := HM5.out.m.cell 0
        have e0 : w5.cell? ⟨gb, 0, none⟩ = some (.string (Bs d.nm)) := HG5.out.cell 0
        have e1 : w5.cell? ⟨gb, 1, none⟩ = some (.int .i64 d.el) := HG5.out.cell 1
        have e2 : w5.cell? ⟨gb, 2, none⟩ = some (.int .i64 d.ln) := HG5.out.cell 2
        have e3 : w5.cell? ⟨gb, 3, none⟩ = some (.slice d.IA d.il.length d.ic) := HG5.out.cell 3
        have e4 : w5.cell? ⟨gb, 4, none⟩ = some (.bool d.ro) := HG5.out.cell 4
        go_region_law (first | (refine step_append_o rfl (.tmp 50) (.tmp 57) rfl w.heap.size _ os (by simp [Act.eval]) (HX.out.below ((Below.refl _ _).alloc (Nat.le_refl _) _)).own xn.heap.size ⟨d.el, d.ro, newVs d gv.l, g⟩ (by simp [Act.eval]) (by rw [sl_made g HO.out HFT.out.1]; exact Whole.new _ _ _) (by have := HOS.out; have := HQI.out; omega) (by rw [World.size_alloc]; exact Nat.le_succ_of_le (Nat.le_of_lt (Nat.lt_of_le_of_lt HX.out.lx HX.out.m.lt))) ?_; intro OV' w6 ho hgr hbl; have he := new_end (ob := ⟨d.el, d.ro, newVs d gv.l, g⟩) HM5.out HBW5.out HX.out HG.out rfl ho hgr hbl; obtain ⟨A', c', rfl, c0', f0', hE⟩ := he; have HE := hide hE; clear ho hgr hbl hE) | (go_simp; go_at_call 35; refine (HINI.out _ (HT.out.below (HBW5.out.trans (Below.refl _ _).drew)) (HR0.out.below' (HBW5.out.trans (Below.refl _ _).drew)) (HGV5.out.below (Below.refl _ _).drew)).mono ?_; rintro en xn ⟨g, rfl, hg, hW, hb⟩; have hb' : Below w5.heap.size w5 xn := ⟨hb.os, hb.tape, hb.output, hb.size, hb.block⟩; have c0x : xn.cell? ⟨x, 0, none⟩ = some (.slice A os.length c) := (HM5.out.below hb').m.cell 0; have hxl : x < xn.heap.size := (HM5.out.below hb').m.lt; have hgbl : gb < xn.heap.size := (HG5.out.below' hb').lt; have x4 : xn.cell? ⟨gb, 4, none⟩ = some (.bool d.ro) := (HG5.out.below' hb').cell 4; have HX := hide (HM5.out.below hb'); have HG := hide (And.intro (show w5.heap.size ≤ g from hg) (And.intro hW hb')); clear hb hb' hg hW))
        all_goals
          go_wp2_with fail
          go_roundw
          case rel => have := HQI.out; exact ⟨i + 1, by go_num, by omega, _, _, HE.out.1, by rw [List.length_append, HOS.out]; rfl, made_snoc HMD.out HOS.out HDI.out HGE.out, HE.out.2⟩
          case measure => have := HQI.out; simp [intOf]; omega
      · have s2 : decide (i < cs.length) = false := by simpa using hic
        have s3 : decide ((i : Int) < (cs.length : Int)) = false := by simpa using hic
        have hgn : givC cs i = CD.none := by unfold givC; rw [List.getElem?_eq_none (by omega)]; rfl
        have HCD := hide hgn
        clear hic hgn
        go_upto_region 10 with fail
        clear s2 s3
        have HGV : Hid (RdVals w4 none 0 ([] : List VD)) := hide (by have h := givC_rd (HC.out.below (Below.all HBW.out HB4.out)) i; rw [HCD.out] at h; exact h)
        have HFT : Hid (((([] : List VD)).length : Int) ≤ d.ln ∧ ∀ v ∈ ([] : List VD), v.t = d.el ∧ v.ok = true) := hide (by have h := HF.out.fit i d HDI.out; rw [HCD.out] at h; exact h)
        have HGE : Hid (([] : List VD) = (givC cs i).l) := hide (by rw [HCD.out] <;> rfl)
        have e0 : w4.cell? ⟨gb, 0, none⟩ = some (.string (Bs d.nm)) := HG4.out.cell 0
        have e1 : w4.cell? ⟨gb, 1, none⟩ = some (.int .i64 d.el) := HG4.out.cell 1
        have e2 : w4.cell? ⟨gb, 2, none⟩ = some (.int .i64 d.ln) := HG4.out.cell 2
        have e3 : w4.cell? ⟨gb, 3, none⟩ = some (.slice d.IA d.il.length d.ic) := HG4.out.cell 3
        have e4 : w4.cell? ⟨gb, 4, none⟩ = some (.bool d.ro) := HG4.out.cell 4
        go_wp2_with fail
        refine (fits_ok d HO.out.ln.2 none 0 ([] : List VD) HFT.out.1 HFT.out.2 _ (HT.out.below (Below.all HBW.out HB4.out)) HGV.out).mono ?_
        rintro en w5 ⟨rfl, hb5⟩
        have HB5 := hide hb5
        have HG5 := hide (HG4.out.below' hb5)
        have HM5 := hide (HM.out.below (Below.all HB4.out hb5))
        have HBW5 := hide (Below.all HBW.out (Below.all HB4.out hb5))
        have HGV5 := hide (HGV.out.below hb5)
        clear hb5 e0 e1 e2 e3 e4
        go_upto_region 12 with fail
        have HINI := hide (fun W hT hr hg => inicells_any d HO.out none 0 ([] : List VD) (by have := HFT.out.1; omega) W hT hr hg)
        have c0 : w5.cell? ⟨x, 0, none⟩ = some (.slice A os.length c) := HM5.out.m.cell 0
        have e0 : w5.cell? ⟨gb, 0, none⟩ = some (.string (Bs d.nm)) := HG5.out.cell 0
        have e1 : w5.cell? ⟨gb, 1, none⟩ = some (.int .i64 d.el) := HG5.out.cell 1
        have e2 : w5.cell? ⟨gb, 2, none⟩ = some (.int .i64 d.ln) := HG5.out.cell 2
        have e3 : w5.cell? ⟨gb, 3, none⟩ = some (.slice d.IA d.il.length d.ic) := HG5.out.cell 3
        have e4 : w5.cell? ⟨gb, 4, none⟩ = some (.bool d.ro) := HG5.out.cell 4
        go_region_law (first | (refine step_append_o rfl (.tmp 50) (.tmp 57) rfl w.heap.size _ os (by simp [Act.eval]) (HX.out.below ((Below.refl _ _).alloc (Nat.le_refl _) _)).own xn.heap.size ⟨d.el, d.ro, newVs d ([] : List VD), g⟩ (by simp [Act.eval]) (by rw [sl_made g HO.out HFT.out.1]; exact Whole.new _ _ _) (by have := HOS.out; have := HQI.out; omega) (by rw [World.size_alloc]; exact Nat.le_succ_of_le (Nat.le_of_lt (Nat.lt_of_le_of_lt HX.out.lx HX.out.m.lt))) ?_; intro OV' w6 ho hgr hbl; have he := new_end (ob := ⟨d.el, d.ro, newVs d ([] : List VD), g⟩) HM5.out HBW5.out HX.out HG.out rfl ho hgr hbl; obtain ⟨A', c', rfl, c0', f0', hE⟩ := he; have HE := hide hE; clear ho hgr hbl hE) | (go_simp; go_at_call 35; refine (HINI.out _ (HT.out.below (HBW5.out.trans (Below.refl _ _).drew)) (HR0.out.below' (HBW5.out.trans (Below.refl _ _).drew)) (HGV5.out.below (Below.refl _ _).drew)).mono ?_; rintro en xn ⟨g, rfl, hg, hW, hb⟩; have hb' : Below w5.heap.size w5 xn := ⟨hb.os, hb.tape, hb.output, hb.size, hb.block⟩; have c0x : xn.cell? ⟨x, 0, none⟩ = some (.slice A os.length c) := (HM5.out.below hb').m.cell 0; have hxl : x < xn.heap.size := (HM5.out.below hb').m.lt; have hgbl : gb < xn.heap.size := (HG5.out.below' hb').lt; have x4 : xn.cell? ⟨gb, 4, none⟩ = some (.bool d.ro) := (HG5.out.below' hb').cell 4; have HX := hide (HM5.out.below hb'); have HG := hide (And.intro (show w5.heap.size ≤ g from hg) (And.intro hW hb')); clear hb hb' hg hW))
        all_goals
          go_wp2_with fail
          go_roundw
          case rel => have := HQI.out; exact ⟨i + 1, by go_num, by omega, _, _, HE.out.1, by rw [List.length_append, HOS.out]; rfl, made_snoc HMD.out HOS.out HDI.out HGE.out, HE.out.2⟩
          case measure => have := HQI.out; simp [intOf]; omega
    · obtain rfl : i = gs.length := by omega
      subst hOV
      have d2 := HM.out.m.cell 2
      have f2 := HM.out.m.free 2
      clear hM hos hmd hbW
      go_wp2_with fail
      go_ret
      exact ⟨x, _, os, rfl, HM.out.self, HOS.out, HMD.out, HBW.out.setCell HM.out.lx _⟩
end Go.Proofs.YtjphechnadoblaaDoor

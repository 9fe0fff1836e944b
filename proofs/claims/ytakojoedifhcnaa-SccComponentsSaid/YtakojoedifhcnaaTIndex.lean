/-
  Layer 7 (scc): Index.
-/
import Derived.Test.YtakojoedifhcnaaTArrange
namespace Go.Proofs.Ytakojoedifhcnaa
open Go.RowKit

theorem stray_edges (g : List (List Int)) : edges (stray g) ≤ edges g := by
  have key : ∀ a, a ≤ g.length → (((List.range a).map fun i => keepRow g.length (g.getD i [])).map List.length).sum ≤ ((g.map List.length).take a).sum := by
    intro a
    induction a with
    | zero => intro _; simp
    | succ a ih =>
      intro ha
      have h1 := ih (by omega)
      have h2 : (keepRow g.length (g.getD a [])).length ≤ (g.getD a []).length := List.length_filter_le _ _
      rw [List.range_succ, List.map_append, List.map_append, List.sum_append, List.take_add_one, List.sum_append, List.getElem?_map, List.getElem?_eq_getElem (by omega)]
      rw [List.getD_eq_getElem?_getD, List.getElem?_eq_getElem (show a < g.length by omega)] at h2
      simp only [List.map_cons, List.map_nil, List.sum_cons, List.sum_nil, Option.getD_some, Option.map_some, Option.toList_some, List.getD_eq_getElem?_getD, List.getElem?_eq_getElem (show a < g.length by omega)] at h1 h2 ⊢
      omega
  have h := key g.length (Nat.le_refl _)
  have h3 := sum_take (g.map List.length) g.length
  unfold edges stray
  omega
theorem fl_ext {n : Nat} {f h : Nat → Nat} (e : ∀ i, i < n → f i = h i) : fl n f = fl n h := by
  unfold fl
  exact List.map_congr_left fun i hi => by rw [e i (List.mem_range.1 hi)]

set_option maxRecDepth 100000 in
theorem index_big (A : Option Addr) (n c : Nat) (w : World) (hN : 65536 < n) (hn : n ≤ 9223372036854775807) :
    Calls Try.prog 12 #[.agg #[.slice A n c]] w fun en w' => en = .returned (.slice none 0 0) ∧ Below w.heap.size w w' := by
  have hB : Hid (Below w.heap.size w (w.alloc (.cells #[.slice A n c] 24))) := hide ((Below.refl _ _).alloc (Nat.le_refl _) _)
  have h0 : (65536 : Int) < n := by omega
  go_enter Try.func12, Try.ntmps12
  go_wp2_with fail
  go_ret
  exact ⟨rfl, hB.out⟩
set_option maxRecDepth 100000 in
set_option maxHeartbeats 4000000 in
theorem index_any (A : Option Addr) (c : Nat) (g : List (List Int)) (w : World) (hg : RdL w A c g) (hN : g.length ≤ 65536) (hE : edges g ≤ 1000000) :
    Calls Try.prog 12 #[.agg #[.slice A g.length c]] w fun en w' => (∃ F cnt num lst, en = .returned (.slice (some ⟨F, 0, none⟩) g.length g.length) ∧ Lists (stray g) cnt num lst ∧ Own w' w.heap.size 3 .i64 (.slice (some ⟨F, 0, none⟩) g.length g.length) (fl g.length (idx lst num))) ∧ Below w.heap.size w w' := by
  have hc := hg.cap
  have hc9 : c ≤ 9223372036854775807 := by unfold maxLen at hc; omega
  obtain ⟨w1, hw1⟩ : ∃ x, w.alloc (.cells #[.slice A g.length c] 24) = x := ⟨_, rfl⟩
  have hs1 : w1.heap.size = w.heap.size + 1 := by rw [← hw1, World.size_alloc]
  have hx1 : w1.cell? ⟨w.heap.size, 0, none⟩ = some (.slice A g.length c) := by rw [← hw1]; simp [go_sem]
  have hbx : Whole w1 w.heap.size 24 #[.slice A g.length c] := by rw [← hw1]; exact Whole.new _ _ _
  have hB1 : Below w.heap.size w w1 := by rw [← hw1]; exact (Below.refl _ _).alloc (Nat.le_refl _) _
  have HG1 := hide (hg.below' hB1)
  have HBX := hide hbx
  have HB1 := hide hB1
  have HEE := hide hE
  have h0 : ¬ (65536 : Int) < g.length := by omega
  have h0b : decide ((65536 : Int) < g.length) = false := decide_eq_false h0
  have HK := hide (stray_any A c g w1 HG1.out hN (fun a l hl => by have := row_edges hE a; rwa [getD_of hl] at this))
  clear hg hE hc hB1 hbx
  go_enter Try.func12, Try.ntmps12
  go_wp2_with fail
  refine HK.out.mono ?_
  rintro en w2 ⟨D, rfl, ⟨R, hL⟩, hb2⟩
  have HL := hide hL
  have HB2 := hide hb2
  have HBX2 := hide (HBX.out.below' hb2)
  have cb := HBX2.out.cell 0
  have fb := HBX2.out.free 0
  clear hL hb2 HK hw1 hx1
  have hRl : R.length = g.length := by have := HL.out.len; rwa [stray_len] at this
  obtain ⟨w3, h3⟩ : ∃ x, w2.setCell ⟨w.heap.size, 0, none⟩ (.slice (some ⟨D, 0, none⟩) g.length g.length) = x := ⟨_, rfl⟩
  have hf3 : Frm w2 w3 [w.heap.size] := by rw [← h3]; exact (Frm.refl _ _).setCell _ _ (.inl (by simp))
  have HL3 : Hid (OwnL w3 w1.heap.size D R (stray g)) := hide (HL.out.far hf3 (fun y hy => by rw [List.mem_singleton.1 hy]; omega))
  have cb3 : w3.cell? ⟨w.heap.size, 0, none⟩ = some (.slice (some ⟨D, 0, none⟩) g.length g.length) := by
    rw [← h3]; exact (HBX2.out.set 0 _).cell 0
  have hrd3 := HL3.out.rd
  rw [hRl] at hrd3
  have HRD3 := hide hrd3
  have HB3 : Hid (Below w.heap.size w w3) := hide ((HB1.out.trans (HB2.out.mono HB1.out.size)).trans (hf3.toBelow (by simp) (by have := HB1.out.size; have := HB2.out.size; omega)))
  have hk2 := part_any (some ⟨D, 0, none⟩) g.length (stray g) w3 hrd3 (stray_ok g) (by rw [stray_len]; exact hN)
  rw [stray_len] at hk2
  have HK2 := hide hk2
  have HE3 : Hid (edges (stray g) ≤ 1000000) := hide (Nat.le_trans (stray_edges g) HEE.out)
  clear hrd3 hk2 hf3 HBX HBX2
  go_wp2_with fail
  refine HK2.out.mono ?_
  rintro en w4 ⟨⟨num, cnt, F, rfl, hpt, hF⟩, hb4⟩
  have HPT := hide hpt
  have HF4 := hide hF
  have HB4 := hide hb4
  have cb4 := (hb4.cell (p := ⟨w.heap.size, 0, none⟩) (lt_of_cell cb3)).trans cb3
  have HRD4 := hide (HRD3.out.below' hb4)
  have hcl : cnt ≤ g.length := by have := hpt.le; rwa [stray_len] at this
  have hk3 := cond_any (some ⟨D, 0, none⟩) g.length (stray g) num cnt F w4 HRD4.out (by rw [stray_len]; exact hF.rd) (stray_ok g) hpt.lt hpt.le (by rw [stray_len]; exact hN) HE3.out
  rw [stray_len] at hk3
  have HK3 := hide hk3
  clear hk3 hpt hF hb4 HK2 h3 cb3
  go_wp2_with fail
  refine HK3.out.mono ?_
  rintro en w5 ⟨D5, rfl, ⟨R5, hL5⟩, hb5⟩
  have hR5 : R5.length = cnt := by have := hL5.len; rwa [cond_len] at this
  have hrd5 := hL5.rd
  rw [hR5] at hrd5
  have hk4 := arr_any (some ⟨D5, 0, none⟩) cnt (cond (stray g) num cnt) w5 hrd5 (cond_ok (stray_ok g) HPT.out.lt) (by rw [cond_len]; omega) (Nat.le_trans cond_edges HE3.out)
  rw [cond_len] at hk4
  have HK4 := hide hk4
  have HB5 := hide hb5
  have HF5 := hide (HF4.out.below' hb5)
  clear hk4 hrd5 hL5 hb5 hR5 HK3
  go_wp2_with fail
  refine HK4.out.mono ?_
  rintro en w6 ⟨⟨Pb, lst, pl, rfl, hgr, hst, hpl, hP⟩, hb6⟩
  have HLS : Hid (Lists (stray g) cnt num lst) := hide (Lists.mk' (stray_ok g) HPT.out hgr hst)
  have HPL := hide hpl
  have HP6 := hide hP
  have HF6 := hide (HF5.out.below' hb6)
  have HB6 : Hid (Below w.heap.size w w6) := hide (((HB3.out.trans (HB4.out.mono HB3.out.size)).trans (HB5.out.mono (by have := HB3.out.size; have := HB4.out.size; omega))).trans (hb6.mono (by have := HB3.out.size; have := HB4.out.size; have := HB5.out.size; omega)))
  have HNL : Hid (∀ x, x < g.length → num x < cnt ∧ pl (num x) = idx lst num x) := hide (fun x hx => by
    rw [← stray_len g] at hx
    exact ⟨HPT.out.lt x hx, HPL.out _ _ (HLS.out.get hx)⟩)
  have hmk := run_made w6 29 3 (.int .i64 0) 8 Try.underlying29 infoInt rfl (by omega) g.length (by omega)
  obtain ⟨w7, h7⟩ : ∃ x, w6.alloc (.cells (madeCells #[.int .i64 0] g.length) 3) = x := ⟨_, rfl⟩
  have hb7 : Below w6.heap.size w6 w7 := by rw [← h7]; exact (Below.refl _ _).alloc (Nat.le_refl _) _
  have HI7 : Hid (Own w7 w6.heap.size 3 .i64 (.slice (some ⟨w6.heap.size, 0, none⟩) g.length g.length) (fl g.length (fun x => if x < 0 then idx lst num x else 0))) := hide (by
    rw [← h7]
    refine OwnV.toI ?_
    have := own_madeV w6 3 (.int .i64 0) g.length w6.heap.size (by unfold maxLen; omega) (Nat.le_refl _)
    have e : (fl g.length (fun x => if x < 0 then idx lst num x else 0)).map (Value.int .i64) = List.replicate g.length (.int .i64 0) := by
      unfold fl; apply List.ext_getElem <;> simp
    rw [e]; exact this)
  have HB7 := hide hb7
  clear hgr hst hpl hP hb6 hb7 HK4 cb4
  go_wp2_with fail
  clear h7 hmk
  go_loopw [29] (fun z wr => ∃ a : Nat, a ≤ g.length ∧ z = .int .i64 (a : Nat) ∧ Hid (Own wr w6.heap.size 3 .i64 (.slice (some ⟨w6.heap.size, 0, none⟩) g.length g.length) (fl g.length (fun x => if x < a then idx lst num x else 0))) ∧ Hid (Below w6.heap.size w6 wr)) (fun z _ => g.length - (intOf z).toNat)
  case atStart => exact ⟨0, Nat.zero_le _, rfl, HI7, HB7⟩
  case round =>
    clear HI7 HB7
    obtain ⟨wq, rfl⟩ : ∃ x, x = wr := ⟨_, rfl⟩
    obtain ⟨a, ha, rfl, HI, HB⟩ := hrel
    by_cases hlt : a < g.length
    · have hlt' : (a : Int) < g.length := by omega
      obtain ⟨hnl, hpn⟩ := HNL.out a hlt
      have hnl' : (num a : Int) < cnt := by omega
      have c1 := (HF6.out.below' HB.out).cellAt (fl_get num hlt)
      have c2 := (HP6.out.below' HB.out).cellAt (fl_get pl hnl)
      rw [hpn] at c2
      have f1 := HI.out.freeAt a
      have c3 := HI.out.cellAt (fl_get (fun x => if x < a then idx lst num x else 0) hlt)
      have HI2 := HI.out.set a (idx lst num a : Int)
      rw [fl_set (h := fun x => if x < a + 1 then idx lst num x else 0) (by rw [if_pos (by omega)]) (fun z hz => by
        by_cases h : z < a
        · rw [if_pos h, if_pos (by omega)]
        · rw [if_neg h, if_neg (by omega)])] at HI2
      have HI3 := hide HI2
      clear HI2 hpn
      go_wp2_with fail
      go_roundw
      case rel => exact ⟨a + 1, by omega, by go_num, HI3, hide (HB.out.setCell (p := ⟨w6.heap.size, a, none⟩) (Nat.le_refl _) _)⟩
      case measure => simp [intOf]; omega
    · obtain rfl : a = g.length := by omega
      have HO := HI.out
      rw [fl_ext (h := idx lst num) (fun i hi => if_pos hi)] at HO
      have HZ := hide (HO.low HB6.out.size)
      have HZ2 := hide (HB6.out.trans (HB.out.mono HB6.out.size))
      clear HO HI
      go_wp2_with fail
      go_ret
      exact ⟨⟨w6.heap.size, cnt, num, lst, rfl, HLS.out, HZ.out⟩, HZ2.out⟩
end Go.Proofs.Ytakojoedifhcnaa

/-
  Layer 23 (expr): the reference's Reg, Const, Apply; slices.Equal at expressions; the law ExprBuilds.
-/
import Derived.Test.YtnhaanjpcnnifaaDoorExW
import Derived.Laws.StructEq
namespace Go.Proofs.YtnhaanjpcnnifaaDoor
open Go.RowKit Go.Deep

set_option maxRecDepth 100000 in
set_option maxHeartbeats 4000000 in
theorem rreg_any (r : Int) (w : World) : Calls Tryd.prog 14 #[.int .i64 r] w fun e w' => e = .returned (.slice (some ⟨w.heap.size, 0, none⟩) 1 1) ∧ w' = w.alloc (.cells (NdD.cells ⟨4, 0, r⟩).toArray 40) := by
  go_enter Tryd.func14, Tryd.ntmps14
  go_upto_region 1 with fail
  refine wp_region_lit ?_
  go_step; go_step; go_step
  refine wpList_build_g (by rfl) _ _ rfl (NdD.cells ⟨4, 0, r⟩) (by kernel_rfl) ?_
  refine wpList_bslice_g (by rfl) 22 1 _ rfl #[(0, .agg (NdD.cells ⟨4, 0, r⟩).toArray)] (by kernel_rfl) (.slice (some ⟨w.heap.size, 0, none⟩) 1 1) (w.alloc (.cells (NdD.cells ⟨4, 0, r⟩).toArray 40)) (by kernel_rfl) ?_
  go_wp2_with fail
  go_ret
  exact ⟨rfl, rfl⟩
set_option maxRecDepth 100000 in
set_option maxHeartbeats 4000000 in
theorem rconst_any (t n : Int) (w : World) : Calls Tryd.prog 16 #[.int .i64 t, .int .i64 n] w fun e w' => e = .returned (.slice (some ⟨w.heap.size, 0, none⟩) 1 1) ∧ w' = w.alloc (.cells (NdD.cells ⟨1, t, n⟩).toArray 40) := by
  go_enter Tryd.func16, Tryd.ntmps16
  go_upto_region 1 with fail
  refine wp_region_lit ?_
  go_step; go_step; go_step
  go_step; go_step; go_step
  refine wpList_build_g (by rfl) _ _ rfl (NdD.cells ⟨1, t, n⟩) (by kernel_rfl) ?_
  refine wpList_bslice_g (by rfl) 22 1 _ rfl #[(0, .agg (NdD.cells ⟨1, t, n⟩).toArray)] (by kernel_rfl) (.slice (some ⟨w.heap.size, 0, none⟩) 1 1) (w.alloc (.cells (NdD.cells ⟨1, t, n⟩).toArray 40)) (by kernel_rfl) ?_
  go_wp2_with fail
  go_ret
  exact ⟨rfl, rfl⟩
set_option maxRecDepth 100000 in
set_option maxHeartbeats 4000000 in
theorem rapply_any (op ty : Int) (L : List (List NdD)) (A : Option Addr) (c : Nat) (w : World) (hL : RdEs w A c L) (hs : (L.map List.length).sum ≤ 1000000) (hn : L.length ≤ 1000) :
    Calls Tryd.prog 18 #[.int .i64 op, .int .i64 ty, .slice A L.length c] w fun e w' => ∃ v, e = .returned v ∧ RdN w' 3 v ((L.flatten ++ [(⟨op, ty, 0⟩ : NdD)]).map NdD.cells) ∧ Below w.heap.size w w' := by
  have hc := hL.cap.2
  have hc9 : c ≤ 9223372036854775807 := by unfold maxLen at hc; omega
  have HL := hide hL
  have HS := hide hs
  clear hL hs hc
  go_enter Tryd.func18, Tryd.ntmps18
  go_wp2_with fail
  go_loopw [7, 12] (fun p z wr => ∃ k : Nat, k ≤ L.length ∧ z = .int .i64 k ∧ Hid (OwnN wr w.heap.size 40 3 p ((L.take k).flatten.map NdD.cells)) ∧ Hid (Below w.heap.size w wr)) (fun _ z _ => L.length - (intOf z).toNat)
  case atStart => exact ⟨0, Nat.zero_le _, rfl, hide (OwnN.nil _ _ _ _), hide (Below.refl _ _)⟩
  case round =>
    obtain ⟨wp, rfl⟩ : ∃ x, x = wr := ⟨_, rfl⟩
    obtain ⟨p, rfl⟩ : ∃ x, x = u7 := ⟨_, rfl⟩
    obtain ⟨j, hj, rfl, hO, hb⟩ := hrel
    have hsz : w.heap.size ≤ wp.heap.size := hb.out.size
    by_cases hlt2 : j < L.length
    · obtain ⟨l, hl⟩ : ∃ l, L[j]? = some l := ⟨_, List.getElem?_eq_getElem hlt2⟩
      obtain ⟨b, off, B, d, rfl, hbb, hcell, hrd⟩ := (HL.out.below' hb.out).at hl
      have HRd := hide hrd
      have HNX : Hid (((L.take (j + 1)).flatten.map NdD.cells) = ((L.take j).flatten.map NdD.cells) ++ l.map NdD.cells) := hide (by rw [flat_take hl, List.map_append])
      have HLN : Hid (((L.take j).flatten.map NdD.cells).length + (l.map NdD.cells).length ≤ 1000000) := hide (by
        rw [List.length_map, List.length_map, flat_sum]
        have h1 := sum_take hl
        have h2 := sum_le L (j + 1)
        have h3 := HS.out
        omega)
      clear hl hrd hbb
      go_upto_region 5 with fail
      clear hcell
      refine wp_region_lit ?_
      go_step; go_step; go_step
      go_step; go_step; go_step
      refine wpList_append_n _ rfl _ _ 22 rfl w.heap.size 40 3 _ 24 ndE p _ rfl hO.out _ (l.map NdD.cells) rfl HRd.out (nd_one l) ?b0 ?b1 hsz ?_
      case b0 => have := HLN.out; omega
      case b1 => have := HLN.out; unfold maxLen; omega
      rintro v' w' ho hf -
      have HO2 := hide ho
      have HB2 : Hid (Below w.heap.size w w') := hide (hb.out.trans (hf.toBelow (fun g hg => (hO.out.lt g (by simpa using hg)).1) hsz))
      clear ho hf hsz
      go_wp2_with fail
      go_roundw
      case rel => exact ⟨j + 1, by omega, by go_num, hide (by rw [HNX.out]; exact HO2.out), HB2⟩
      case measure => simp [intOf]; omega
    · have hjl : L.take j = L := List.take_of_length_le (by omega)
      rw [hjl] at hO
      clear hjl
      go_upto_region 7 with fail
      refine wp_region_lit ?_
      go_step; go_step; go_step
      go_step; go_step; go_step
      go_step; go_step; go_step
      refine wpList_build_g (by rfl) _ _ rfl (NdD.cells ⟨op, ty, 0⟩) (by kernel_rfl) ?_
      refine wpList_bslice_g (by rfl) 22 1 _ rfl #[(0, .agg (NdD.cells ⟨op, ty, 0⟩).toArray)] (by kernel_rfl) (.slice (some ⟨wp.heap.size, 0, none⟩) 1 1) (wp.alloc (.cells (NdD.cells ⟨op, ty, 0⟩).toArray 40)) (by kernel_rfl) ?_
      have hsz2 : w.heap.size ≤ (wp.alloc (.cells (NdD.cells ⟨op, ty, 0⟩).toArray 40)).heap.size := by simp; omega
      refine wpList_append_n _ rfl _ _ 22 rfl w.heap.size 40 3 _ 24 ndE p _ rfl (hO.out.alloc _) (.slice (some ⟨wp.heap.size, 0, none⟩) 1 1) [NdD.cells ⟨op, ty, 0⟩] rfl (rdn_nd _ _ _) (nd_one [⟨op, ty, 0⟩]) ?b2 ?b3 hsz2 ?_
      case b2 => rw [List.length_map, flat_sum]; have := HS.out; simp; omega
      case b3 => rw [List.length_map, flat_sum]; have := HS.out; unfold maxLen; simp; omega
      rintro v' w' ho hf -
      have HO2 := hide ho
      have HB2 : Hid (Below w.heap.size w w') := hide ((hb.out.alloc hsz _).trans (hf.toBelow (fun g hg => (hO.out.lt g (by simpa using hg)).1) hsz2))
      clear ho hf hsz hsz2
      go_wp2_with fail
      go_ret
      exact ⟨_, rfl, by rw [List.map_append]; exact HO2.out.rd, HB2.out⟩
theorem neqnd (a b c : Int) (W : World) : Sem.run Tryd.prog (binOp .neq 40 (.agg #[.int .i64 a, .int .i64 b, .int .i64 c]) (.agg #[.int .i64 a, .int .i64 b, .int .i64 c])) W = .ok (.bool false) W := by
  rw [run_neq_struct]
  simp [go_sem]
attribute [-go_sem] run_eql_struct run_equalIn_agg run_neq_struct
set_option maxRecDepth 100000 in
set_option maxHeartbeats 2000000 in
theorem equal_nd (u v : Value) (l : List NdD) (w : World) (hu : RdN w 3 u (l.map NdD.cells)) (hv : RdN w 3 v (l.map NdD.cells)) :
    Calls Tryd.prog 12 #[u, v] w fun e w' => e = .returned (.bool true) ∧ Below w.heap.size w w' := by
  obtain ⟨_, A, c, e1, hc, hm, _⟩ := id hu
  obtain ⟨_, A', c', e2, hc', hm', _⟩ := id hv
  rw [List.length_map] at e1 hc e2 hc'
  subst e1 e2
  have hc9 : c ≤ 9223372036854775807 := by unfold maxLen at hm; omega
  have hc9' : c' ≤ 9223372036854775807 := by unfold maxLen at hm'; omega
  have HU := hide hu
  have HV := hide hv
  clear hu hv hm hm'
  go_enter Tryd.func12, Tryd.ntmps12
  go_wp2_with fail
  go_loopw [13] (fun i wr => ∃ k : Nat, k ≤ l.length ∧ i = .int .i64 k ∧ Hid (Below w.heap.size w wr)) (fun i _ => l.length - (intOf i).toNat)
  case atStart => exact ⟨0, Nat.zero_le _, rfl, hide (Below.refl _ _)⟩
  case round =>
    obtain ⟨wq, rfl⟩ : ∃ x, x = wr := ⟨_, rfl⟩
    obtain ⟨k, hk, rfl, hB⟩ := hrel
    by_cases hlt : k < l.length
    · obtain ⟨x, hx⟩ : ∃ x, l[k]? = some x := ⟨_, List.getElem?_eq_getElem hlt⟩
      obtain ⟨x1, x2, x3⟩ := x
      obtain ⟨b, o, rfl, hb, hr⟩ := (HU.out.below' hB.out).row (i := k) (r := NdD.cells ⟨x1, x2, x3⟩) (by rw [List.getElem?_map, hx]; rfl)
      obtain ⟨b', o', rfl, hb', hr'⟩ := (HV.out.below' hB.out).row (i := k) (r := NdD.cells ⟨x1, x2, x3⟩) (by rw [List.getElem?_map, hx]; rfl)
      have c0 : wq.cell? ⟨b, o + k * 3, none⟩ = some (.int .i64 x1) := hr 0 _ rfl
      have c1 : wq.cell? ⟨b, o + k * 3 + 1, none⟩ = some (.int .i64 x2) := hr 1 _ rfl
      have c2 : wq.cell? ⟨b, o + k * 3 + 2, none⟩ = some (.int .i64 x3) := hr 2 _ rfl
      have d0 : wq.cell? ⟨b', o' + k * 3, none⟩ = some (.int .i64 x1) := hr' 0 _ rfl
      have d1 : wq.cell? ⟨b', o' + k * 3 + 1, none⟩ = some (.int .i64 x2) := hr' 1 _ rfl
      have d2 : wq.cell? ⟨b', o' + k * 3 + 2, none⟩ = some (.int .i64 x3) := hr' 2 _ rfl
      have hne := neqnd x1 x2 x3
      clear hx hb hr hb' hr'
      go_wp2_with fail
      go_quiet (fail)
      go_wp2_with fail
      go_roundw
      case rel => exact ⟨k + 1, by omega, by go_num, hide (Below.drewN' hB.out _)⟩
      case measure => simp [intOf]; omega
    · go_wp2_with fail
      go_ret
      exact ⟨rfl, hB.out⟩
end Go.Proofs.YtnhaanjpcnnifaaDoor

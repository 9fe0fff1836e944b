/-
  ExprCheck, layer 23 (expr): the row and its tied card.
-/
import Derived.Test.YtnhaanjpcnnifaaDoorExW
import Derived.Laws.StructEq
import Derived.Test.YtnhaanjpcnnifaaDoorExQ
import Derived.Test.YtnhaanjpcnnifaaDoorLeaf
import Derived.Test.YtnhaanjpcnnifaaDoorOpen
import Derived.Test.YtnhaanjpcnnifaaDoorCards
import Derived.Test.YtnhaanjpcnnifaaDoorTie
import Derived.Deep.DeepHandedRow
import Derived.Lib.LaidTab
import Derived.Test.YtnhaanjpcnnifaaDoorOpA
import Derived.Deep.Strs
import Derived.Test.YtnhaanjpcnnifaaDoorOpR
import Derived.Test.YtnhaanjpcnnifaaDoorRfK
import Derived.Test.YtnhaanjpcnnifaaDoorExM
import Derived.Test.YtnhaanjpcnnifaaDoorOpenN
import Derived.Test.YtnhaanjpcnnifaaDoorKit
namespace Go.Proofs.YtnhaanjpcnnifaaDoor
open Go.RowKit Go.Deep

set_option maxRecDepth 100000 in
set_option maxHeartbeats 4000000 in
theorem rreg_any (r : Int) (w : World) : Calls Tryd.prog 14 #[.int .i64 r] w fun e w' => e = .returned (.slice (some ⟨w.heap.size, 0, none⟩) 1 1) ∧ w' = w.alloc (.cells (NdD.cells ⟨4, 0, r⟩).toArray 40) := by
  go_enter Tryd.func14, Tryd.ntmps14
  go_upto_region 1 with fail
  refine wp_region_lit ?_
  go_step; go_step; go_step
  refine wpList_build_g (by rfl) _ _ rfl (NdD.cells ⟨4, 0, r⟩) (by kernel_rfl) ?_
  refine wpList_bslice_g (by rfl) 22 1 _ rfl #[(0, .agg (NdD.cells ⟨4, 0, r⟩).toArray)] (by kernel_rfl) (.slice (some ⟨w.heap.size, 0, none⟩) 1 1) (w.alloc (.cells (NdD.cells ⟨4, 0, r⟩).toArray 40)) (by kernel_rfl) ?_
  go_wp2_with fail
  go_ret
  exact ⟨rfl, rfl⟩
set_option maxRecDepth 100000 in
set_option maxHeartbeats 4000000 in
theorem rconst_any (t n : Int) (w : World) : Calls Tryd.prog 16 #[.int .i64 t, .int .i64 n] w fun e w' => e = .returned (.slice (some ⟨w.heap.size, 0, none⟩) 1 1) ∧ w' = w.alloc (.cells (NdD.cells ⟨1, t, n⟩).toArray 40) := by
  go_enter Tryd.func16, Tryd.ntmps16
  go_upto_region 1 with fail
  refine wp_region_lit ?_
  go_step; go_step; go_step
  go_step; go_step; go_step
  refine wpList_build_g (by rfl) _ _ rfl (NdD.cells ⟨1, t, n⟩) (by kernel_rfl) ?_
  refine wpList_bslice_g (by rfl) 22 1 _ rfl #[(0, .agg (NdD.cells ⟨1, t, n⟩).toArray)] (by kernel_rfl) (.slice (some ⟨w.heap.size, 0, none⟩) 1 1) (w.alloc (.cells (NdD.cells ⟨1, t, n⟩).toArray 40)) (by kernel_rfl) ?_
  go_wp2_with fail
  go_ret
  exact ⟨rfl, rfl⟩
set_option maxRecDepth 100000 in
set_option maxHeartbeats 4000000 in
theorem rapply_any (op ty : Int) (L : List (List NdD)) (A : Option Addr) (c : Nat) (w : World) (hL : RdEs w A c L) (hs : (L.map List.length).sum ≤ 1000000) (hn : L.length ≤ 1000) :
    Calls Tryd.prog 18 #[.int .i64 op, .int .i64 ty, .slice A L.length c] w fun e w' => ∃ v, e = .returned v ∧ RdN w' 3 v ((L.flatten ++ [(⟨op, ty, 0⟩ : NdD)]).map NdD.cells) ∧ Below w.heap.size w w' := by
  have hc := hL.cap.2
  have hc9 : c ≤ 9223372036854775807 := by unfold maxLen at hc; omega
  have HL := hide hL
  have HS := hide hs
  clear hL hs hc
  go_enter Tryd.func18, Tryd.ntmps18
  go_wp2_with fail
  go_loopw [7, 12] (fun p z wr => ∃ k : Nat, k ≤ L.length ∧ z = .int .i64 k ∧ Hid (OwnN wr w.heap.size 40 3 p ((L.take k).flatten.map NdD.cells)) ∧ Hid (Below w.heap.size w wr)) (fun _ z _ => L.length - (intOf z).toNat)
  case atStart => exact ⟨0, Nat.zero_le _, rfl, hide (OwnN.nil _ _ _ _), hide (Below.refl _ _)⟩
  case round =>
    obtain ⟨wp, rfl⟩ : ∃ x, x = wr := ⟨_, rfl⟩
    obtain ⟨p, rfl⟩ : ∃ x, x = u7 := ⟨_, rfl⟩
    obtain ⟨j, hj, rfl, hO, hb⟩ := hrel
    have hsz : w.heap.size ≤ wp.heap.size := hb.out.size
    by_cases hlt2 : j < L.length
    · obtain ⟨l, hl⟩ : ∃ l, L[j]? = some l := ⟨_, List.getElem?_eq_getElem hlt2⟩
      obtain ⟨b, off, B, d, rfl, hbb, hcell, hrd⟩ := (HL.out.below' hb.out).at hl
      have HRd := hide hrd
      have HNX : Hid (((L.take (j + 1)).flatten.map NdD.cells) = ((L.take j).flatten.map NdD.cells) ++ l.map NdD.cells) := hide (by rw [flat_take hl, List.map_append])
      have HLN : Hid (((L.take j).flatten.map NdD.cells).length + (l.map NdD.cells).length ≤ 1000000) := hide (by
        rw [List.length_map, List.length_map, flat_sum]
        have h1 := sum_take hl
        have h2 := sum_le L (j + 1)
        have h3 := HS.out
        omega)
      clear hl hrd hbb
      go_upto_region 5 with fail
      clear hcell
      refine wp_region_lit ?_
      go_step; go_step; go_step
      go_step; go_step; go_step
      refine wpList_append_n _ rfl _ _ 22 rfl w.heap.size 40 3 _ 24 ndE p _ rfl hO.out _ (l.map NdD.cells) rfl HRd.out (nd_one l) ?b0 ?b1 hsz ?_
      case b0 => have := HLN.out; omega
      case b1 => have := HLN.out; unfold maxLen; omega
      rintro v' w' ho hf -
      have HO2 := hide ho
      have HB2 : Hid (Below w.heap.size w w') := hide (hb.out.trans (hf.toBelow (fun g hg => (hO.out.lt g (by simpa using hg)).1) hsz))
      clear ho hf hsz
      go_wp2_with fail
      go_roundw
      case rel => exact ⟨j + 1, by omega, by go_num, hide (by rw [HNX.out]; exact HO2.out), HB2⟩
      case measure => simp [intOf]; omega
    · have hjl : L.take j = L := List.take_of_length_le (by omega)
      rw [hjl] at hO
      clear hjl
      go_upto_region 7 with fail
      refine wp_region_lit ?_
      go_step; go_step; go_step
      go_step; go_step; go_step
      go_step; go_step; go_step
      refine wpList_build_g (by rfl) _ _ rfl (NdD.cells ⟨op, ty, 0⟩) (by kernel_rfl) ?_
      refine wpList_bslice_g (by rfl) 22 1 _ rfl #[(0, .agg (NdD.cells ⟨op, ty, 0⟩).toArray)] (by kernel_rfl) (.slice (some ⟨wp.heap.size, 0, none⟩) 1 1) (wp.alloc (.cells (NdD.cells ⟨op, ty, 0⟩).toArray 40)) (by kernel_rfl) ?_
      have hsz2 : w.heap.size ≤ (wp.alloc (.cells (NdD.cells ⟨op, ty, 0⟩).toArray 40)).heap.size := by simp; omega
      refine wpList_append_n _ rfl _ _ 22 rfl w.heap.size 40 3 _ 24 ndE p _ rfl (hO.out.alloc _) (.slice (some ⟨wp.heap.size, 0, none⟩) 1 1) [NdD.cells ⟨op, ty, 0⟩] rfl (rdn_nd _ _ _) (nd_one [⟨op, ty, 0⟩]) ?b2 ?b3 hsz2 ?_
      case b2 => rw [List.length_map, flat_sum]; have := HS.out; simp; omega
      case b3 => rw [List.length_map, flat_sum]; have := HS.out; unfold maxLen; simp; omega
      rintro v' w' ho hf -
      have HO2 := hide ho
      have HB2 : Hid (Below w.heap.size w w') := hide ((hb.out.alloc hsz _).trans (hf.toBelow (fun g hg => (hO.out.lt g (by simpa using hg)).1) hsz2))
      clear ho hf hsz hsz2
      go_wp2_with fail
      go_ret
      exact ⟨_, rfl, by rw [List.map_append]; exact HO2.out.rd, HB2.out⟩
theorem neqnd (a b c : Int) (W : World) : Sem.run Tryd.prog (binOp .neq 40 (.agg #[.int .i64 a, .int .i64 b, .int .i64 c]) (.agg #[.int .i64 a, .int .i64 b, .int .i64 c])) W = .ok (.bool false) W := by
  rw [run_neq_struct]
  simp [go_sem]
attribute [-go_sem] run_eql_struct run_equalIn_agg run_neq_struct
set_option maxRecDepth 100000 in
set_option maxHeartbeats 2000000 in
theorem equal_nd (u v : Value) (l : List NdD) (w : World) (hu : RdN w 3 u (l.map NdD.cells)) (hv : RdN w 3 v (l.map NdD.cells)) :
    Calls Tryd.prog 12 #[u, v] w fun e w' => e = .returned (.bool true) ∧ Below w.heap.size w w' := by
  obtain ⟨_, A, c, e1, hc, hm, _⟩ := id hu
  obtain ⟨_, A', c', e2, hc', hm', _⟩ := id hv
  rw [List.length_map] at e1 hc e2 hc'
  subst e1 e2
  have hc9 : c ≤ 9223372036854775807 := by unfold maxLen at hm; omega
  have hc9' : c' ≤ 9223372036854775807 := by unfold maxLen at hm'; omega
  have HU := hide hu
  have HV := hide hv
  clear hu hv hm hm'
  go_enter Tryd.func12, Tryd.ntmps12
  go_wp2_with fail
  go_loopw [13] (fun i wr => ∃ k : Nat, k ≤ l.length ∧ i = .int .i64 k ∧ Hid (Below w.heap.size w wr)) (fun i _ => l.length - (intOf i).toNat)
  case atStart => exact ⟨0, Nat.zero_le _, rfl, hide (Below.refl _ _)⟩
  case round =>
    obtain ⟨wq, rfl⟩ : ∃ x, x = wr := ⟨_, rfl⟩
    obtain ⟨k, hk, rfl, hB⟩ := hrel
    by_cases hlt : k < l.length
    · obtain ⟨x, hx⟩ : ∃ x, l[k]? = some x := ⟨_, List.getElem?_eq_getElem hlt⟩
      obtain ⟨x1, x2, x3⟩ := x
      obtain ⟨b, o, rfl, hb, hr⟩ := (HU.out.below' hB.out).row (i := k) (r := NdD.cells ⟨x1, x2, x3⟩) (by rw [List.getElem?_map, hx]; rfl)
      obtain ⟨b', o', rfl, hb', hr'⟩ := (HV.out.below' hB.out).row (i := k) (r := NdD.cells ⟨x1, x2, x3⟩) (by rw [List.getElem?_map, hx]; rfl)
      have c0 : wq.cell? ⟨b, o + k * 3, none⟩ = some (.int .i64 x1) := hr 0 _ rfl
      have c1 : wq.cell? ⟨b, o + k * 3 + 1, none⟩ = some (.int .i64 x2) := hr 1 _ rfl
      have c2 : wq.cell? ⟨b, o + k * 3 + 2, none⟩ = some (.int .i64 x3) := hr 2 _ rfl
      have d0 : wq.cell? ⟨b', o' + k * 3, none⟩ = some (.int .i64 x1) := hr' 0 _ rfl
      have d1 : wq.cell? ⟨b', o' + k * 3 + 1, none⟩ = some (.int .i64 x2) := hr' 1 _ rfl
      have d2 : wq.cell? ⟨b', o' + k * 3 + 2, none⟩ = some (.int .i64 x3) := hr' 2 _ rfl
      have hne := neqnd x1 x2 x3
      clear hx hb hr hb' hr'
      go_wp2_with fail
      go_quiet (fail)
      go_wp2_with fail
      go_roundw
      case rel => exact ⟨k + 1, by omega, by go_num, hide (Below.drewN' hB.out _)⟩
      case measure => simp [intOf]; omega
    · go_wp2_with fail
      go_ret
      exact ⟨rfl, hB.out⟩
end Go.Proofs.YtnhaanjpcnnifaaDoor
namespace Go.Proofs.YtnhaanjpcnnifaaDoor
open Go.RowKit Go.Deep

theorem reg2_any (r : Int) (w : World) : Calls Tryd.prog 13 #[.int .i64 r] w fun e w' => ∃ A c, e = .returned (.slice A 1 c) ∧ RdN w' 3 (.slice A 1 c) ([(⟨4, 0, r⟩ : NdD)].map NdD.cells) ∧ Below w.heap.size w w' :=
  (reg_any r w).mono fun e w' ⟨h1, h2⟩ => ⟨_, _, h1, by rw [h2]; exact rdn_nd _ _ _, by rw [h2]; exact (Below.refl _ _).alloc (Nat.le_refl _) _⟩
theorem rreg2_any (r : Int) (w : World) : Calls Tryd.prog 14 #[.int .i64 r] w fun e w' => ∃ A c, e = .returned (.slice A 1 c) ∧ RdN w' 3 (.slice A 1 c) ([(⟨4, 0, r⟩ : NdD)].map NdD.cells) ∧ Below w.heap.size w w' :=
  (rreg_any r w).mono fun e w' ⟨h1, h2⟩ => ⟨_, _, h1, by rw [h2]; exact rdn_nd _ _ _, by rw [h2]; exact (Below.refl _ _).alloc (Nat.le_refl _) _⟩
theorem const2_any (t n : Int) (w : World) : Calls Tryd.prog 15 #[.int .i64 t, .int .i64 n] w fun e w' => ∃ A c, e = .returned (.slice A 1 c) ∧ RdN w' 3 (.slice A 1 c) ([(⟨1, t, n⟩ : NdD)].map NdD.cells) ∧ Below w.heap.size w w' :=
  (const_any t n w).mono fun e w' ⟨h1, h2⟩ => ⟨_, _, h1, by rw [h2]; exact rdn_nd _ _ _, by rw [h2]; exact (Below.refl _ _).alloc (Nat.le_refl _) _⟩
theorem rconst2_any (t n : Int) (w : World) : Calls Tryd.prog 16 #[.int .i64 t, .int .i64 n] w fun e w' => ∃ A c, e = .returned (.slice A 1 c) ∧ RdN w' 3 (.slice A 1 c) ([(⟨1, t, n⟩ : NdD)].map NdD.cells) ∧ Below w.heap.size w w' :=
  (rconst_any t n w).mono fun e w' ⟨h1, h2⟩ => ⟨_, _, h1, by rw [h2]; exact rdn_nd _ _ _, by rw [h2]; exact (Below.refl _ _).alloc (Nat.le_refl _) _⟩
theorem rdes_two {w : World} {t : TypeId} {A B : Option Addr} {ca cb : Nat} {a b : List NdD} (ha : RdN w 3 (.slice A a.length ca) (a.map NdD.cells)) (hb : RdN w 3 (.slice B b.length cb) (b.map NdD.cells)) :
    RdEs (w.alloc (.cells #[.slice A a.length ca, .slice B b.length cb] t)) (some ⟨w.heap.size, 0, none⟩) 2 [a, b] := by
  have b3 : Below w.heap.size w (w.alloc (.cells #[.slice A a.length ca, .slice B b.length cb] t)) := (Below.refl _ _).alloc (Nat.le_refl _) _
  have H3 := Whole.new w t #[.slice A a.length ca, .slice B b.length cb]
  refine ⟨[.slice A a.length ca, .slice B b.length cb], rfl, ⟨_, _, rfl, Nat.le_refl _, by unfold maxLen; omega, fun _ => ⟨w.heap.size, 0, rfl, H3.lt, fun j v hv => by rw [Nat.zero_add, H3.cell j]; simpa using hv⟩⟩, fun i l hi => ?_⟩
  match i, hi with
  | 0, hi =>
    obtain rfl : a = l := by simpa using hi
    exact ⟨A, ca, rfl, ha.below' b3⟩
  | 1, hi =>
    obtain rfl : b = l := by simpa using hi
    exact ⟨B, cb, rfl, hb.below' b3⟩
  | n + 2, hi => simp at hi
theorem rdes_nil {w : World} : RdEs w none 0 [] := ⟨[], rfl, ⟨none, 0, rfl, Nat.le_refl _, Nat.zero_le _, fun h => absurd h (by simp)⟩, fun i l h => by simp at h⟩
/-- Apply at two expressions. -/
theorem apply2 (op ty : Int) (a b : List NdD) (A B : Option Addr) (ca cb : Nat) (w : World) (ha : RdN w 3 (.slice A a.length ca) (a.map NdD.cells)) (hb : RdN w 3 (.slice B b.length cb) (b.map NdD.cells)) (hl : a.length ≤ 100 ∧ b.length ≤ 100) :
    Calls Tryd.prog 17 #[.int .i64 op, .int .i64 ty, .slice (some ⟨w.heap.size, 0, none⟩) 2 2] (w.alloc (.cells #[.slice A a.length ca, .slice B b.length cb] 22)) fun e w' => ∃ v, e = .returned v ∧ RdN w' 3 v ((a ++ b ++ [(⟨op, ty, 0⟩ : NdD)]).map NdD.cells) ∧ Below w.heap.size w w' :=
  (apply_any op ty [a, b] (some ⟨w.heap.size, 0, none⟩) 2 _ (rdes_two ha hb) (by simp; omega) (by simp)).mono fun e w' ⟨v, h1, h2, h3⟩ => ⟨v, h1, by simpa using h2, Below.all ((Below.refl _ _).alloc (Nat.le_refl _) _) h3⟩
theorem rapply2 (op ty : Int) (a b : List NdD) (A B : Option Addr) (ca cb : Nat) (w : World) (ha : RdN w 3 (.slice A a.length ca) (a.map NdD.cells)) (hb : RdN w 3 (.slice B b.length cb) (b.map NdD.cells)) (hl : a.length ≤ 100 ∧ b.length ≤ 100) :
    Calls Tryd.prog 18 #[.int .i64 op, .int .i64 ty, .slice (some ⟨w.heap.size, 0, none⟩) 2 2] (w.alloc (.cells #[.slice A a.length ca, .slice B b.length cb] 22)) fun e w' => ∃ v, e = .returned v ∧ RdN w' 3 v ((a ++ b ++ [(⟨op, ty, 0⟩ : NdD)]).map NdD.cells) ∧ Below w.heap.size w w' :=
  (rapply_any op ty [a, b] (some ⟨w.heap.size, 0, none⟩) 2 _ (rdes_two ha hb) (by simp; omega) (by simp)).mono fun e w' ⟨v, h1, h2, h3⟩ => ⟨v, h1, by simpa using h2, Below.all ((Below.refl _ _).alloc (Nat.le_refl _) _) h3⟩
theorem apply0 (op ty : Int) (w : World) :
    Calls Tryd.prog 17 #[.int .i64 op, .int .i64 ty, .slice none 0 0] w fun e w' => ∃ v, e = .returned v ∧ RdN w' 3 v ([(⟨op, ty, 0⟩ : NdD)].map NdD.cells) ∧ Below w.heap.size w w' :=
  (apply_any op ty [] none 0 w rdes_nil (by simp) (by simp)).mono fun e w' ⟨v, h1, h2, h3⟩ => ⟨v, h1, by simpa using h2, h3⟩
set_option maxRecDepth 100000 in
set_option maxHeartbeats 8000000 in
theorem builds_law (op ty n : Int) (a b : List NdD) (AA BA : Option Addr) (ac bc : Nat) (w : World) (hT : Tab w) (hO : OpTab w) (ha : RdN w 3 (.slice AA a.length ac) (a.map NdD.cells)) (hb : RdN w 3 (.slice BA b.length bc) (b.map NdD.cells)) :
    Calls Tryd.prog 4 #[.int .i64 op, .int .i64 ty, .int .i64 n, .slice AA a.length ac, .slice BA b.length bc] w fun e w' => LawDone w e w' := by
  have HT := hide hT
  have HO := hide hO
  have HA := hide ha
  have HBb := hide hb
  clear hT hO ha hb
  by_cases h1 : 100 < a.length
  · have g1 : decide ((a.length : Int) > 100) = true := by simp; omega
    have g2 : decide ((100 : Int) < (a.length : Int)) = true := by simp; omega
    go_enter Tryd.func4, Tryd.ntmps4
    go_wp2_with (go_at_call 9; refine (works_any _ HT.out HO.out).mono ?_; rintro en w3 ⟨rfl, hb⟩; have HB := hide hb; clear hb)
    go_ret
    exact ⟨rfl, HB.out⟩
  by_cases h2 : 100 < b.length
  · have g1 : decide ((a.length : Int) > 100) = false := by simp; omega
    have g2 : decide ((100 : Int) < (a.length : Int)) = false := by simp; omega
    have g3 : decide ((b.length : Int) > 100) = true := by simp; omega
    have g4 : decide ((100 : Int) < (b.length : Int)) = true := by simp; omega
    clear h1 h2
    go_enter Tryd.func4, Tryd.ntmps4
    go_wp2_with (go_at_call 9; refine (works_any _ HT.out HO.out).mono ?_; rintro en w3 ⟨rfl, hb⟩; have HB := hide hb; clear hb)
    go_ret
    exact ⟨rfl, HB.out⟩
  · have g1 : decide ((a.length : Int) > 100) = false := by simp; omega
    have g2 : decide ((100 : Int) < (a.length : Int)) = false := by simp; omega
    have g3 : decide ((b.length : Int) > 100) = false := by simp; omega
    have g4 : decide ((100 : Int) < (b.length : Int)) = false := by simp; omega
    have HL : Hid (a.length ≤ 100 ∧ b.length ≤ 100) := hide (by omega)
    clear h1 h2
    go_enter Tryd.func4, Tryd.ntmps4
    go_upto_region 4 with fail
    have HB : Hid (Below w.heap.size w w) := hide (Below.refl _ _)
    go_wp2_with (first
      | (go_at_call 13; refine (reg2_any _ _).mono ?_; rintro en wa ⟨A1, c1, rfl, hr, hb⟩; have R1 := hide hr; replace HB := hide (Below.all HB.out hb); clear hr hb)
      | (go_at_call 14; refine (rreg2_any _ _).mono ?_; rintro en wb ⟨A2, c2, rfl, hr, hb⟩; have S1 := hide hr; replace R1 := hide (R1.out.below' hb); replace HB := hide (Below.all HB.out hb); clear hr hb)
      | (go_at_call 12; refine (equal_nd _ _ _ _ R1.out S1.out).mono ?_; rintro en wc ⟨rfl, hb⟩; clear R1 S1; replace HB := hide (Below.all HB.out hb); clear hb)
      | (go_at_call 15; refine (const2_any _ _ _).mono ?_; rintro en wd ⟨A3, c3, rfl, hr, hb⟩; have R2 := hide hr; replace HB := hide (Below.all HB.out hb); clear hr hb)
      | (go_at_call 16; refine (rconst2_any _ _ _).mono ?_; rintro en we ⟨A4, c4, rfl, hr, hb⟩; have S2 := hide hr; replace R2 := hide (R2.out.below' hb); replace HB := hide (Below.all HB.out hb); clear hr hb)
      | (go_at_call 12; refine (equal_nd _ _ _ _ R2.out S2.out).mono ?_; rintro en wf ⟨rfl, hb⟩; clear R2 S2; replace HB := hide (Below.all HB.out hb); clear hb)
      | (go_at_call 17; refine (apply2 op ty a b AA BA ac bc wf (HA.out.below' HB.out) (HBb.out.below' HB.out) HL.out).mono ?_; rintro en wg ⟨v3, rfl, hr, hb⟩; have R3 := hide hr; replace HB := hide (Below.all HB.out hb); clear hr hb)
      | (go_at_call 18; refine (rapply2 op ty a b AA BA ac bc wg (HA.out.below' HB.out) (HBb.out.below' HB.out) HL.out).mono ?_; rintro en wh ⟨v4, rfl, hr, hb⟩; have S3 := hide hr; replace R3 := hide (R3.out.below' hb); replace HB := hide (Below.all HB.out hb); clear hr hb)
      | (go_at_call 12; refine (equal_nd _ _ _ _ R3.out S3.out).mono ?_; rintro en wi ⟨rfl, hb⟩; clear R3 S3; replace HB := hide (Below.all HB.out hb); clear hb)
      | (go_at_call 17; refine (apply0 op ty _).mono ?_; rintro en wj ⟨v5, rfl, hr, hb⟩; have R4 := hide hr; replace HB := hide (Below.all HB.out hb); clear hr hb)
      | (go_at_call 12; refine (equal_nd _ _ [⟨op, ty, 0⟩] _ (R4.out.below' ((Below.refl _ _).alloc (Nat.le_refl _) _)) (rdn_nd wj _ ⟨op, ty, 0⟩)).mono ?_; rintro en wk ⟨rfl, hb⟩; clear R4; replace HB := hide (Below.all (HB.out.alloc HB.out.size _) hb); clear hb)
      | (go_at_call 9; refine (works_any _ (HT.out.below HB.out) (HO.out.below HB.out)).mono ?_; rintro en wl ⟨rfl, hb⟩; replace HB := hide (Below.all HB.out hb); clear hb))
    go_ret
    exact ⟨rfl, HB.out⟩
end Go.Proofs.YtnhaanjpcnnifaaDoor
namespace Go.Proofs.YtnhaanjpcnnifaaDoor
open Go.RowKit Go.Deep

def bigE (en rn gn fn : Nat) : Bool := decide (150 < en) || decide (500 < rn) || decide (100 < gn) || decide (100 < fn)
set_option maxRecDepth 100000 in
set_option maxHeartbeats 4000000 in
theorem large_any (en ec rn rc gn gc fn fc : Nat) (EA RA GA FA : Option Addr) (v0 v1 v2 v4 : Value) (w : World) :
    Calls Tryd.prog 8 #[.slice EA en ec, .agg #[v0, v1, v2, .slice RA rn rc, v4], .agg #[.slice GA gn gc, .slice FA fn fc]] w fun e w' => e = .returned (.bool (bigE en rn gn fn)) ∧ Below w.heap.size w w' := by
  obtain ⟨bF, hbF⟩ : ∃ b, w.heap.size = b := ⟨_, rfl⟩
  obtain ⟨w1, hw1⟩ : ∃ z, (w.alloc (.cells #[v0, v1, v2, .slice RA rn rc, v4] 28)).alloc (.cells #[.slice GA gn gc, .slice FA fn fc] 32) = z := ⟨_, rfl⟩
  have HB : Hid (Below w.heap.size w w1) := hide (by rw [← hw1]; exact ((Below.refl _ _).alloc (Nat.le_refl _) _).alloc (by simp) _)
  have HF : Whole w1 bF 28 #[v0, v1, v2, .slice RA rn rc, v4] := by rw [← hw1, ← hbF]; exact (Whole.new w _ _).alloc _
  have HM : Whole w1 (bF + 1) 32 #[.slice GA gn gc, .slice FA fn fc] := by
    rw [← hw1, ← hbF, show w.heap.size + 1 = (w.alloc (.cells #[v0, v1, v2, .slice RA rn rc, v4] 28)).heap.size by simp]; exact Whole.new _ _ _
  have f3 : w1.cell? ⟨bF, 3, none⟩ = some (.slice RA rn rc) := HF.cell 3
  have m0 : w1.cell? ⟨bF + 1, 0, none⟩ = some (.slice GA gn gc) := HM.cell 0
  have m1 : w1.cell? ⟨bF + 1, 1, none⟩ = some (.slice FA fn fc) := HM.cell 1
  clear HF HM
  by_cases h0 : 150 < en
  · have g0 : decide (((en : Nat) : Int) > 150) = true := by simp; omega
    have k0 : decide ((150 : Int) < (en : Int)) = true := by simp; omega
    go_enter Tryd.func8, Tryd.ntmps8
    go_upto_region 1 with fail
    clear hw1 hbF
    go_wp2_with fail
    go_ret
    exact ⟨by simp [bigE, h0], HB.out⟩
    
  by_cases h1 : 500 < rn
  · have g0 : decide (((en : Nat) : Int) > 150) = false := by simp; omega
    have k0 : decide ((150 : Int) < (en : Int)) = false := by simp; omega
    have g1 : decide (((rn : Nat) : Int) > 500) = true := by simp; omega
    have k1 : decide ((500 : Int) < (rn : Int)) = true := by simp; omega
    go_enter Tryd.func8, Tryd.ntmps8
    go_upto_region 1 with fail
    clear hw1 hbF
    go_wp2_with fail
    go_ret
    exact ⟨by simp [bigE, h1], HB.out⟩
    
  by_cases h2 : 100 < gn
  · have g0 : decide (((en : Nat) : Int) > 150) = false := by simp; omega
    have k0 : decide ((150 : Int) < (en : Int)) = false := by simp; omega
    have g1 : decide (((rn : Nat) : Int) > 500) = false := by simp; omega
    have k1 : decide ((500 : Int) < (rn : Int)) = false := by simp; omega
    have g2 : decide (((gn : Nat) : Int) > 100) = true := by simp; omega
    have k2 : decide ((100 : Int) < (gn : Int)) = true := by simp; omega
    go_enter Tryd.func8, Tryd.ntmps8
    go_upto_region 1 with fail
    clear hw1 hbF
    go_wp2_with fail
    go_ret
    exact ⟨by simp [bigE, h2], HB.out⟩
    
  by_cases h3 : 100 < fn
  · have g0 : decide (((en : Nat) : Int) > 150) = false := by simp; omega
    have k0 : decide ((150 : Int) < (en : Int)) = false := by simp; omega
    have g1 : decide (((rn : Nat) : Int) > 500) = false := by simp; omega
    have k1 : decide ((500 : Int) < (rn : Int)) = false := by simp; omega
    have g2 : decide (((gn : Nat) : Int) > 100) = false := by simp; omega
    have k2 : decide ((100 : Int) < (gn : Int)) = false := by simp; omega
    have g3 : decide (((fn : Nat) : Int) > 100) = true := by simp; omega
    have k3 : decide ((100 : Int) < (fn : Int)) = true := by simp; omega
    go_enter Tryd.func8, Tryd.ntmps8
    go_upto_region 1 with fail
    clear hw1 hbF
    go_wp2_with fail
    go_ret
    exact ⟨by simp [bigE, h3], HB.out⟩
    
  have g0 : decide (((en : Nat) : Int) > 150) = false := by simp; omega
  have k0 : decide ((150 : Int) < (en : Int)) = false := by simp; omega
  have g1 : decide (((rn : Nat) : Int) > 500) = false := by simp; omega
  have k1 : decide ((500 : Int) < (rn : Int)) = false := by simp; omega
  have g2 : decide (((gn : Nat) : Int) > 100) = false := by simp; omega
  have k2 : decide ((100 : Int) < (gn : Int)) = false := by simp; omega
  have g3 : decide (((fn : Nat) : Int) > 100) = false := by simp; omega
  have k3 : decide ((100 : Int) < (fn : Int)) = false := by simp; omega
  go_enter Tryd.func8, Tryd.ntmps8
  go_upto_region 1 with fail
  clear hw1 hbF
  go_wp2_with fail
  go_ret
  exact ⟨by simp [bigE, h0, h1, h2, h3], HB.out⟩
theorem bigE_no {en rn gn fn : Nat} (h : bigE en rn gn fn = false) : en ≤ 150 := by
  unfold bigE at h
  simp only [Bool.or_eq_false_iff, decide_eq_false_iff_not] at h
  omega
set_option maxRecDepth 100000 in
set_option maxHeartbeats 8000000 in
theorem check_law (e : List NdD) (EA PA RA BA GA FA : Option Addr) (ec pn pc rc bn bc gn gc fc : Nat) (nm : ByteArray) (res : Int) (rl : List Int) (fs : List FD) (hsh : ∀ d ∈ fs, Shp d) (w : World) (hT : Tab w) (hO : OpTab w)
    (he : RdN w 3 (.slice EA e.length ec) (e.map NdD.cells)) (hrl : Rd w .i64 (.slice RA rl.length rc) rl) (hfs : FnsAt w FA fs) :
    Calls Tryd.prog 3 #[.slice EA e.length ec, .agg #[.string nm, .slice PA pn pc, .int .i64 res, .slice RA rl.length rc, .slice BA bn bc], .agg #[.slice GA gn gc, .slice FA fs.length fc]] w fun e w' => LawDone w e w' := by
  have HT := hide hT
  have HO := hide hO
  have HE := hide he
  have HRL := hide hrl
  have HFS := hide hfs
  have HSH := hide hsh
  obtain ⟨bF, hbF⟩ : ∃ b, w.heap.size = b := ⟨_, rfl⟩
  obtain ⟨w1, hw1⟩ : ∃ z, (w.alloc (.cells #[.string nm, .slice PA pn pc, .int .i64 res, .slice RA rl.length rc, .slice BA bn bc] 28)).alloc (.cells #[.slice GA gn gc, .slice FA fs.length fc] 32) = z := ⟨_, rfl⟩
  have HB : Hid (Below w.heap.size w w1) := hide (by rw [← hw1]; exact ((Below.refl _ _).alloc (Nat.le_refl _) _).alloc (by simp) _)
  have HF : Hid (Whole w1 bF 28 ([.string nm, .slice PA pn pc, .int .i64 res, .slice RA rl.length rc, .slice BA bn bc] : List Value).toArray) := hide (by rw [← hw1, ← hbF]; exact (Whole.new w _ _).alloc _)
  have HM : Hid (Whole w1 (bF + 1) 32 ([.slice GA gn gc, .slice FA fs.length fc] : List Value).toArray) := hide (by
    rw [← hw1, ← hbF, show w.heap.size + 1 = (w.alloc (.cells #[.string nm, .slice PA pn pc, .int .i64 res, .slice RA rl.length rc, .slice BA bn bc] 28)).heap.size by simp]; exact Whole.new _ _ _)
  have hi5 : (Tryd.prog.info? 28).map (·.size) = some 5 := by kernel_rfl
  have hi2 : (Tryd.prog.info? 32).map (·.size) = some 2 := by kernel_rfl
  have HI5 := hide hi5
  have HI2 := hide hi2
  have HU5 := hide Tryd.underlying28
  have HU2 := hide Tryd.underlying32
  clear hT hO he hrl hfs hsh hi5 hi2
  go_enter Tryd.func3, Tryd.ntmps3
  go_upto_region 1 with fail
  clear hw1 hbF
  refine wp_region_lit ?_
  go_step; go_step; go_step
  refine wpList_load_mid (by rfl) _ _ rfl bF 0 (by rfl) [.string nm, .slice PA pn pc, .int .i64 res, .slice RA rl.length rc, .slice BA bn bc] _ HF.out.range HU5.out rfl HI5.out ?_
  refine wpList_load_mid (by rfl) _ _ rfl (bF + 1) 0 (by rfl) [.slice GA gn gc, .slice FA fs.length fc] _ HM.out.range HU2.out rfl HI2.out ?_
  go_step; go_step
  refine (large_any e.length ec rl.length rc gn gc fs.length fc EA RA GA FA _ _ _ _ _).mono ?_
  rintro en w2 ⟨rfl, hb⟩
  replace HF := hide (HF.out.below' hb)
  replace HM := hide (HM.out.below' hb)
  replace HB := hide (Below.all HB.out hb)
  clear hb
  simp only []
  cases hbig : bigE e.length rl.length gn fs.length with
  | true =>
    go_wp2_with (go_at_call 9; refine (works_any _ (HT.out.below HB.out) (HO.out.below HB.out)).mono ?_; rintro en w3 ⟨rfl, hb⟩; replace HB := hide (Below.all HB.out hb); clear hb)
    go_ret
    exact ⟨rfl, HB.out⟩
  | false =>
    have HL := hide (bigE_no hbig)
    obtain ⟨C1, hC1⟩ : ∃ z, (chkE rl gn fs.length e).1 = z := ⟨_, rfl⟩
    obtain ⟨C2, hC2⟩ : ∃ z, (chkE rl gn fs.length e).2 = z := ⟨_, rfl⟩
    have HC1 := hide hC1
    have HC2 := hide hC2
    have g1 : (C1 == C1) = true := by simp
    have g2 : (C2 == C2) = true := by simp
    clear hC1 hC2 hbig
    go_upto_region 3 with fail
    refine wp_region_lit ?_
    go_step; go_step; go_step
    refine wpList_load_mid (by rfl) _ _ rfl bF 0 (by rfl) [.string nm, .slice PA pn pc, .int .i64 res, .slice RA rl.length rc, .slice BA bn bc] _ HF.out.range HU5.out rfl HI5.out ?_
    refine wpList_load_mid (by rfl) _ _ rfl (bF + 1) 0 (by rfl) [.slice GA gn gc, .slice FA fs.length fc] _ HM.out.range HU2.out rfl HI2.out ?_
    go_step; go_step
    refine (chk_any e EA ec _ _ _ _ RA GA FA rl rc gn gc fc fs _ (HT.out.below HB.out) (HO.out.below HB.out) (HE.out.below' HB.out) (by have := HL.out; omega) (HRL.out.below' HB.out) (HFS.out.below HB.out)).mono ?_
    rintro en w3 ⟨rfl, hb⟩
    rw [HC1.out, HC2.out]
    replace HF := hide (HF.out.below' hb)
    replace HM := hide (HM.out.below' hb)
    replace HB := hide (Below.all HB.out hb)
    clear hb
    simp only []
    go_upto_region 4 with fail
    refine wp_region_lit ?_
    go_step; go_step; go_step
    refine wpList_load_mid (by rfl) _ _ rfl bF 0 (by rfl) [.string nm, .slice PA pn pc, .int .i64 res, .slice RA rl.length rc, .slice BA bn bc] _ HF.out.range HU5.out rfl HI5.out ?_
    refine wpList_load_mid (by rfl) _ _ rfl (bF + 1) 0 (by rfl) [.slice GA gn gc, .slice FA fs.length fc] _ HM.out.range HU2.out rfl HI2.out ?_
    go_step; go_step
    refine (rchk_any e EA ec _ _ _ _ RA GA FA rl rc gn gc fc fs HSH.out _ (HT.out.below HB.out) (HO.out.below HB.out) (HE.out.below' HB.out) (by have := HL.out; omega) (HRL.out.below' HB.out) (HFS.out.below HB.out)).mono ?_
    rintro en w4 ⟨rfl, hb⟩
    rw [HC1.out, HC2.out]
    replace HF := hide (HF.out.below' hb)
    replace HM := hide (HM.out.below' hb)
    replace HB := hide (Below.all HB.out hb)
    clear hb
    simp only []
    clear HF HM
    go_wp2_with (go_at_call 9; refine (works_any _ (HT.out.below HB.out) (HO.out.below HB.out)).mono ?_; rintro en w5 ⟨rfl, hb⟩; replace HB := hide (Below.all HB.out hb); clear hb)
    go_ret
    exact ⟨rfl, HB.out⟩
end Go.Proofs.YtnhaanjpcnnifaaDoor
namespace Go.Proofs.YtnhaanjpcnnifaaDoor
open Go.ChangeShapes Go.WideShapes Go.ChangeAt Go.RowKit

theorem str_cells {H : Type} {enc : TypeId × Value → H} {P : Program} {w : World} {base : Nat} {sp : Nat → Bool} {held : Bool} {fuel : Nat} {t e : TypeId} {n : Nat} {cs : List Value} {l : List (List UInt8)} {p : List MemPlace}
    (ht : P.underlying t = some (.array n e)) (he : P.underlying e = some .string) (hce : P.cellsOf e = 1) (hct : P.cellsOf t = n)
    (h : DataW.trod enc P w base sp held fuel t cs = some (.agg (l.map fun s => .lit (.string s)), p)) (i : Nat) (s : List UInt8) (hi : l[i]? = some s) : cs[i]? = some (.string ⟨s.toArray⟩) := by
  cases fuel with
  | zero => simp [DataW.trod] at h
  | succ fuel =>
    simp only [DataW.trod, ht, hce, hct, Nat.mul_one] at h
    split at h
    · obtain ⟨xs, hm, hx⟩ := Option.map_eq_some_iff.1 h
      have hxs : xs.map (·.1) = l.map fun s => (DataW.lit (.string s) : DataW H) := by
        have := congrArg Prod.fst hx
        simpa using this
      have hxi : (xs.map (·.1))[i]? = some (DataW.lit (.string s) : DataW H) := by rw [hxs]; simp [hi]
      rw [List.getElem?_map] at hxi
      obtain ⟨y, hy, hy1⟩ := Option.map_eq_some_iff.1 hxi
      have hl := Lib.mapM_length hm
      have hin : i < n := by
        have h1 : i < xs.length := (List.getElem?_eq_some_iff.1 hy).1
        simp at hl
        omega
      obtain ⟨b, hb, hf⟩ := Lib.mapM_at hm i i (by simp [hin])
      obtain rfl : b = y := Option.some.inj (hb.symm.trans hy)
      obtain ⟨s', hc, rfl, _⟩ := DataW.trod_string he hf
      have h1 : cs[i]? = some (.string s') := by
        have := congrArg (·[0]?) hc
        simpa [List.getElem?_take, List.getElem?_drop] using this
      have h2 : s'.data.toList = s := by simpa using hy1
      subst h2
      rw [h1]
    · cases h

theorem own : ownKnob Tryd.prog.godebug = none := by kernel_rfl
theorem gTab : Tryd.prog.globalNamed "burnish/intn.widths" = some 4 := by kernel_rfl
theorem gTabType : (Tryd.prog.globals[4]?).map (·.type) = some 146 := by kernel_rfl
theorem cellsTab : Tryd.prog.cellsOf 146 = 5 := by kernel_rfl
theorem cellsInt : Tryd.prog.cellsOf 3 = 1 := by kernel_rfl
theorem cellsNam : Tryd.prog.cellsOf 117 = 8 := by kernel_rfl
theorem cellsStr : Tryd.prog.cellsOf 9 = 1 := by kernel_rfl
def namesL : List (List UInt8) := [[], [98, 111, 111, 108], [105, 56], [105, 51, 50], [105, 54, 52], [112, 116, 114], [118, 50], [118, 52]]
theorem tab_of_laid {W : World} (h : laidMetH Tryd.prog Rows.exprBuildsRow.laid W) : Tab W := by
  have h1 : laidMet Tryd.prog [("burnish/intn.widths", Rows.laid_burnish_intn_widths)] W := laidMetH.filter (fun x => x.1 == "burnish/intn.widths") h
  have ht : Lib.TabIs Tryd.prog W "burnish/intn.widths" .i64 [0, 1, 8, 32, 64] := Lib.tabIs_of_head (rest := []) gTab gTabType Tryd.underlying146 Tryd.underlying3 cellsInt cellsTab h1
  exact ⟨ht.cell gTab 0 (by decide), ht.cell gTab 1 (by decide), ht.cell gTab 2 (by decide), ht.cell gTab 3 (by decide), ht.cell gTab 4 (by decide)⟩

/-- The values that a listed table lays. -/
def laidVals : DataW Unit → Array Value
  | .agg l => (l.map fun
      | .lit (.int k n) => Value.int k n
      | .lit (.string s) => Value.string ⟨s.toArray⟩
      | _ => default).toArray
  | _ => #[]
def putVals (g : Nat) (d : DataW Unit) (hp : Array Obj) : Array Obj := hp.modify g fun
  | .cells _ t frozen => .cells (laidVals d) t frozen
  | o => o
end Go.Proofs.YtnhaanjpcnnifaaDoor
namespace Go.Proofs.YtnhaanjpcnnifaaDoor
open Go.ChangeShapes Go.WideShapes Go.ChangeAt Go.RowKit

/-- A row of the table as the list lays it. -/
def rowD {H : Type} (r : Nat × (Nat × Nat × Nat × Nat) × Nat) : DataW H := .agg [.lit (.int .u8 (r.1 : Int)), Lib.tabData .u8 [(r.2.1.1 : Int), (r.2.1.2.1 : Int), (r.2.1.2.2.1 : Int), (r.2.1.2.2.2 : Int)], .lit (.int .i64 (r.2.2 : Int))]
theorem rules_laid {H : Type} : (Rows.laid_burnish_opcode_rules : DataW H) = .agg ((List.range 34).map fun i => rowD (ruleM i)) := by rfl
theorem names_laid {H : Type} : (Rows.laid_burnish_opcode_names : DataW H) = .agg (opNames.map fun s => .lit (.string s)) := by rfl
theorem tnames_laid {H : Type} : (Rows.laid_burnish_opcode_typeNames : DataW H) = .agg (tyNames.map fun s => .lit (.string s)) := by rfl

set_option maxRecDepth 100000 in
theorem row_cells6 {H : Type} {enc : TypeId × Value → H} {w : World} {base : Nat} {sp : Nat → Bool} {held : Bool} {fuel : Nat} {cs : List Value} {r : Nat × (Nat × Nat × Nat × Nat) × Nat} {p : List MemPlace}
    (h : DataW.trod enc Tryd.prog w base sp held fuel 120 cs = some (rowD r, p)) :
    cs = [.int .u8 (r.1 : Int), .int .u8 (r.2.1.1 : Int), .int .u8 (r.2.1.2.1 : Int), .int .u8 (r.2.1.2.2.1 : Int), .int .u8 (r.2.1.2.2.2 : Int), .int .i64 (r.2.2 : Int)] := by
  obtain ⟨y0, y1, y2, n, hx, hl, e0, e1, e2⟩ := Deep.trod_struct3 Tryd.underlying120 h
  rw [show Tryd.prog.cellsOf 120 = 6 by kernel_rfl] at hl
  simp only [show Tryd.prog.cellsOf 94 = 1 by kernel_rfl] at e0
  simp only [show Tryd.prog.cellsOf 118 = 4 by kernel_rfl] at e1
  simp only [show Tryd.prog.cellsOf 3 = 1 by kernel_rfl] at e2
  simp only [rowD, Prod.mk.injEq, DataW.agg.injEq, List.cons.injEq, and_true] at hx
  obtain ⟨⟨x0, x1, x2⟩, _⟩ := hx
  match cs, hl with
  | [c0, c1, c2, c3, c4, c5], _ =>
    obtain ⟨z0, h0, d0, _⟩ := DataW.trod_int Tryd.underlying94 e0
    obtain ⟨z5, h5, d5, _⟩ := DataW.trod_int Tryd.underlying3 e2
    have h1 : [c1, c2, c3, c4] = _ := Lib.cells_of_tab (zs := [(r.2.1.1 : Int), (r.2.1.2.1 : Int), (r.2.1.2.2.1 : Int), (r.2.1.2.2.2 : Int)]) (p := y1.2) Tryd.underlying118 Tryd.underlying94 (by kernel_rfl) (by kernel_rfl) (e1.trans (by rw [x1]))
    rw [d0] at x0
    rw [d5] at x2
    simp at x0 x2 h0 h5 h1
    obtain ⟨rfl, rfl, rfl, rfl⟩ := h1
    subst x0 x2 h0 h5
    rfl
set_option maxRecDepth 100000 in
theorem rules_cells {H : Type} {enc : TypeId × Value → H} {w : World} {base : Nat} {sp : Nat → Bool} {held : Bool} {fuel : Nat} {cs : List Value} {p : List MemPlace}
    (h : DataW.trod enc Tryd.prog w base sp held fuel 121 cs = some (.agg ((List.range 34).map fun i => rowD (ruleM i)), p)) (i : Nat) (hi : i < 34) :
    (cs.drop (i * 6)).take 6 = [.int .u8 ((ruleM i).1 : Int), .int .u8 ((ruleM i).2.1.1 : Int), .int .u8 ((ruleM i).2.1.2.1 : Int), .int .u8 ((ruleM i).2.1.2.2.1 : Int), .int .u8 ((ruleM i).2.1.2.2.2 : Int), .int .i64 ((ruleM i).2.2 : Int)] := by
  cases fuel with
  | zero => simp [DataW.trod] at h
  | succ fuel =>
    simp only [DataW.trod, Tryd.underlying121, show Tryd.prog.cellsOf 120 = 6 by kernel_rfl] at h
    split at h
    · obtain ⟨xs, hm, hx⟩ := Option.map_eq_some_iff.1 h
      have hxs : xs.map (·.1) = (List.range 34).map fun i => (rowD (ruleM i) : DataW H) := by
        have := congrArg Prod.fst hx
        simpa using this
      obtain ⟨b, hb, hf⟩ := Lib.mapM_at hm i i (by simp [hi])
      have h2 : (xs.map (·.1))[i]? = some (rowD (ruleM i)) := by rw [hxs]; simp [hi]
      rw [List.getElem?_map, hb] at h2
      have h3 : b.1 = rowD (ruleM i) := by simpa using h2
      exact row_cells6 (p := b.2) (by rw [hf, ← h3])
    · cases h
theorem gNm : Tryd.prog.globalNamed "burnish/opcode.names" = some 0 := by kernel_rfl
theorem gNmT : (Tryd.prog.globals[0]?).map (·.type) = some 116 := by kernel_rfl
theorem gTn : Tryd.prog.globalNamed "burnish/opcode.typeNames" = some 1 := by kernel_rfl
theorem gTnT : (Tryd.prog.globals[1]?).map (·.type) = some 117 := by kernel_rfl
theorem gRu : Tryd.prog.globalNamed "burnish/opcode.rules" = some 2 := by kernel_rfl
theorem gRuT : (Tryd.prog.globals[2]?).map (·.type) = some 121 := by kernel_rfl
theorem cells34 : Tryd.prog.cellsOf 116 = 34 := by kernel_rfl
theorem names_met {W : World} (h : laidMet Tryd.prog [("burnish/opcode.names", Rows.laid_burnish_opcode_names)] W) (i : Nat) (s : List UInt8) (hs : opNames[i]? = some s) : W.cell? ⟨0, i, none⟩ = some (.string ⟨s.toArray⟩) := by
  obtain ⟨ps, ⟨g', t', cs, fuel, p, q, hg', ht', hvar, hd, _, _⟩, _⟩ := h
  obtain rfl := Option.some.inj (gNm.symm.trans hg')
  obtain rfl := Option.some.inj (gNmT.symm.trans ht')
  rw [names_laid] at hd
  have h1 := str_cells (l := opNames) Tryd.underlying116 Tryd.underlying9 cellsStr cells34 hd i s hs
  rw [Array.getElem?_toList] at h1
  exact (World.var?_cell gNm hvar i).trans h1
theorem types_met {W : World} (h : laidMet Tryd.prog [("burnish/opcode.typeNames", Rows.laid_burnish_opcode_typeNames)] W) (i : Nat) (s : List UInt8) (hs : tyNames[i]? = some s) : W.cell? ⟨1, i, none⟩ = some (.string ⟨s.toArray⟩) := by
  obtain ⟨ps, ⟨g', t', cs, fuel, p, q, hg', ht', hvar, hd, _, _⟩, _⟩ := h
  obtain rfl := Option.some.inj (gTn.symm.trans hg')
  obtain rfl := Option.some.inj (gTnT.symm.trans ht')
  rw [tnames_laid] at hd
  have h1 := str_cells (l := tyNames) Tryd.underlying117 Tryd.underlying9 cellsStr cellsNam hd i s hs
  rw [Array.getElem?_toList] at h1
  exact (World.var?_cell gTn hvar i).trans h1
theorem rules_met {W : World} (h : laidMet Tryd.prog [("burnish/opcode.rules", Rows.laid_burnish_opcode_rules)] W) (i j : Nat) (hi : i < 34) (v : Value) (hv : [Value.int .u8 ((ruleM i).1 : Int), .int .u8 ((ruleM i).2.1.1 : Int), .int .u8 ((ruleM i).2.1.2.1 : Int), .int .u8 ((ruleM i).2.1.2.2.1 : Int), .int .u8 ((ruleM i).2.1.2.2.2 : Int), .int .i64 ((ruleM i).2.2 : Int)][j]? = some v) : W.cell? ⟨2, i * 6 + j, none⟩ = some v := by
  obtain ⟨ps, ⟨g', t', cs, fuel, p, q, hg', ht', hvar, hd, _, _⟩, _⟩ := h
  obtain rfl := Option.some.inj (gRu.symm.trans hg')
  obtain rfl := Option.some.inj (gRuT.symm.trans ht')
  rw [rules_laid] at hd
  have h1 := rules_cells hd i hi
  have h2 := congrArg (·[j]?) h1
  simp only [hv, List.getElem?_take, List.getElem?_drop] at h2
  have hj : j < 6 := by have := (List.getElem?_eq_some_iff.1 hv).1; simpa using this
  rw [if_pos hj, Array.getElem?_toList] at h2
  exact (World.var?_cell gRu hvar (i * 6 + j)).trans h2
theorem optab_of_laid {W : World} (h : laidMetH Tryd.prog Rows.exprBuildsRow.laid W) : OpTab W :=
  have hn : laidMet Tryd.prog [("burnish/opcode.names", Rows.laid_burnish_opcode_names)] W := laidMetH.filter (fun x => x.1 == "burnish/opcode.names") h
  have ht : laidMet Tryd.prog [("burnish/opcode.typeNames", Rows.laid_burnish_opcode_typeNames)] W := laidMetH.filter (fun x => x.1 == "burnish/opcode.typeNames") h
  have hr : laidMet Tryd.prog [("burnish/opcode.rules", Rows.laid_burnish_opcode_rules)] W := laidMetH.filter (fun x => x.1 == "burnish/opcode.rules") h
  ⟨names_met hn, types_met ht, fun i hi => rules_met hr i 0 hi _ rfl, fun i hi => rules_met hr i 1 hi _ rfl, fun i hi => rules_met hr i 2 hi _ rfl, fun i hi => rules_met hr i 3 hi _ rfl, fun i hi => rules_met hr i 4 hi _ rfl, fun i hi => rules_met hr i 5 hi _ rfl⟩
theorem optabw_of_laid {W : World} (h : laidMetH Tryd.prog Rows.exprBuildsRow.laid W) : Tab W := by
  have h1 : laidMet Tryd.prog [("burnish/intn.widths", Rows.laid_burnish_intn_widths)] W := laidMetH.filter (fun x => x.1 == "burnish/intn.widths") h
  have ht : Lib.TabIs Tryd.prog W "burnish/intn.widths" .i64 [0, 1, 8, 32, 64] := Lib.tabIs_of_head (rest := []) gTab gTabType Tryd.underlying146 Tryd.underlying3 cellsInt cellsTab h1
  exact ⟨ht.cell gTab 0 (by decide), ht.cell gTab 1 (by decide), ht.cell gTab 2 (by decide), ht.cell gTab 3 (by decide), ht.cell gTab 4 (by decide)⟩

/-- The cells that a value of the list lays, whatever its depth. -/
def cellsOfD : Nat → DataW Unit → List Value
  | 0, _ => []
  | _ + 1, .lit (.int k n) => [.int k n]
  | _ + 1, .lit (.string s) => [.string ⟨s.toArray⟩]
  | m + 1, .agg l => l.flatMap (cellsOfD m)
  | _ + 1, _ => []
def putD (g : Nat) (d : DataW Unit) (hp : Array Obj) : Array Obj := hp.modify g fun
  | .cells _ t frozen => .cells (cellsOfD 4 d).toArray t frozen
  | o => o
noncomputable def opHeap (hp : Array Obj) : Array Obj :=
  putD 4 Rows.laid_burnish_intn_widths (putD 0 Rows.laid_burnish_opcode_names (putD 2 Rows.laid_burnish_opcode_rules (putD 1 Rows.laid_burnish_opcode_typeNames (putD 5 Rows.laid_math_bits_deBruijn32tab (putD 6 Rows.laid_math_bits_deBruijn64tab (putD 3 Rows.laid_internal_strconv_uint64pow10 hp))))))
/-- A WORLD FOR THE WITNESS: the settled one, the tables holding what their initialisers lay. -/
noncomputable def opWorld (os : Os) : World :=
  { World.holding Tryd.prog os ⟨#[], #[], []⟩ with heap := opHeap (World.holding Tryd.prog os ⟨#[], #[], []⟩).heap }
end Go.Proofs.YtnhaanjpcnnifaaDoor
namespace Go.Proofs.YtnhaanjpcnnifaaDoor
open Go.RowKit Go.ChangeShapes Go.WideShapes

section
variable {P : Program}
theorem opensW_ints {t e : TypeId} {k : IntKind} (ht : P.underlying t = some (.slice e)) (he : P.underlying e = some (.int k)) (hm : P.cellsOf e = 1) {H : Type} {enc : TypeId × Value → H} {W : World} {held : Bool} {fuel : Nat} {cs : List Value} {x : DataW H × List MemPlace} (h : DataW.trod enc P W 0 (fun _ => true) held fuel t cs = some x) :
    ∃ v l, cs = [v] ∧ Rd W k v l ∧ (0 < l.length → ∃ n ∈ x.1.weights P t, l.length * P.bytesOf e ≤ n) := by
  obtain ⟨v, l, h1, h2, _⟩ := opens_ints ht he hm H enc W held fuel cs x h
  refine ⟨v, l, h1, h2, fun h0 => ?_⟩
  obtain ⟨A, c, rfl, hc, -, -⟩ := h2
  rcases Deep.open_slice ht h with ⟨e1, _⟩ | ⟨a, len, cap, m, n, D, Pl, e1, _, hl, _, hk, e2, _⟩
  · rw [e1] at h1
    injection h1 with h1
    injection h1 with _ h1 _
    omega
  · rw [e1] at h1
    injection h1 with h1
    injection h1 with _ h1 _
    refine ⟨((List.range len).map D).length * P.bytesOf e + (((List.range (m - len)).map fun j => D (len + j))).length * P.bytesOf e, ?_, ?_⟩
    · rw [e2]
      simp only [DataW.weights, ht, List.mem_cons]
      exact .inl (by rw [Nat.add_mul])
    · rw [List.length_map, List.length_range, h1]
      exact Nat.le_add_right _ _
end
section
variable {H : Type} {enc : TypeId × Value → H} {W : World} {r : Reach} {b0 : Nat} {v : Value} {d : DataW H} {ps : List MemPlace}
theorem slice_form {t e : TypeId} (ht : Tryd.prog.underlying t = some (.slice e)) {held : Bool} {fuel : Nat} {c0 : Value} {x : DataW H × List MemPlace} (h : DataW.trod enc Tryd.prog W 0 (fun _ => true) held fuel t [c0] = some x) : ∃ A n c, c0 = .slice A n c := by
  rcases Deep.open_slice ht h with ⟨e, _⟩ | ⟨a, len, cap, k, n, D, Pl, e, _⟩
  · exact ⟨none, 0, 0, by simpa using e⟩
  · exact ⟨some a, len, cap, by simpa using e⟩
set_option maxRecDepth 100000 in
theorem open_in (hval : Value.okWide Tryd.prog W r b0 78 v) (hd : DataW.Trod enc Tryd.prog W 0 (fun _ => true) true 78 v d ps) :
    ∃ op ty dst : Int, ∃ A c, ∃ l : List Int, ∃ imm sym el : Int, ∃ nw : Bool, v = .agg #[.int .i64 op, .int .i64 ty, .int .i64 dst, .slice A l.length c, .int .i64 imm, .int .i64 sym, .int .i64 el, .bool nw] ∧ Rd W .i64 (.slice A l.length c) l := by
  obtain ⟨cs, rfl, _⟩ := okWide_struct Tryd.underlying78 hval
  obtain ⟨fuel, hfu⟩ := hd
  have hf' : DataW.trod enc Tryd.prog W 0 (fun _ => true) true fuel 78 cs.toList = some (d, ps) := hfu
  obtain ⟨op, ty, dst, A, c, l, imm, sym, el, nw, h1, h2, _⟩ := opens_in H enc W true fuel _ _ hf'
  exact ⟨op, ty, dst, A, c, l, imm, sym, el, nw, by congr 1; exact Array.toList_inj.1 h1, h2⟩
set_option maxRecDepth 100000 in
theorem open_mod (hval : Value.okWide Tryd.prog W r b0 32 v) (hd : DataW.Trod enc Tryd.prog W 0 (fun _ => true) true 32 v d ps) :
    ∃ GA gn gc FA fc, ∃ fs : List FD, v = .agg #[.slice GA gn gc, .slice FA fs.length fc] ∧ FnsAt W FA fs := by
  obtain ⟨cs, rfl, _⟩ := okWide_struct Tryd.underlying32 hval
  obtain ⟨fuel, hfu⟩ := hd
  have hf' : DataW.trod enc Tryd.prog W 0 (fun _ => true) true fuel 32 cs.toList = some (d, ps) := hfu
  obtain ⟨GA, gn, gc, FA, fc, fs, h1, h2⟩ := opens_mod H enc W true fuel _ _ hf'
  exact ⟨GA, gn, gc, FA, fc, fs, by congr 1; exact Array.toList_inj.1 h1, h2⟩
set_option maxRecDepth 100000 in
theorem open_fn (hval : Value.okWide Tryd.prog W r b0 28 v) (hd : DataW.Trod enc Tryd.prog W 0 (fun _ => true) true 28 v d ps) :
    ∃ nm : ByteArray, ∃ PA pn pc, ∃ res : Int, ∃ RA rc, ∃ rl : List Int, ∃ BA bn bc, v = .agg #[.string nm, .slice PA pn pc, .int .i64 res, .slice RA rl.length rc, .slice BA bn bc] ∧ Rd W .i64 (.slice RA rl.length rc) rl ∧ (0 < rl.length → ∃ n ∈ d.weights Tryd.prog 28, rl.length * 8 ≤ n) := by
  obtain ⟨cs, rfl, _⟩ := okWide_struct Tryd.underlying28 hval
  obtain ⟨fuel, hfu⟩ := hd
  have hf' : DataW.trod enc Tryd.prog W 0 (fun _ => true) true fuel 28 cs.toList = some (d, ps) := hfu
  obtain ⟨xs, n, _, hx, hl, hlen, hf⟩ := DataW.trod_struct Tryd.underlying28 hf'
  rw [show Tryd.prog.cellsOf 28 = 5 by kernel_rfl] at hl
  obtain ⟨l, rfl⟩ : ∃ l : List Value, cs = l.toArray := ⟨cs.toList, by simp⟩
  match xs, hlen with
  | [y0, y1, y2, y3, y4], _ =>
    have e0 : DataW.trod enc Tryd.prog W 0 (fun _ => true) true n 9 ((l.drop 0).take (Tryd.prog.cellsOf 9)) = some y0 := hf 0 _ rfl
    have e1 : DataW.trod enc Tryd.prog W 0 (fun _ => true) true n 23 ((l.drop 1).take (Tryd.prog.cellsOf 23)) = some y1 := hf 1 _ rfl
    have e2 : DataW.trod enc Tryd.prog W 0 (fun _ => true) true n 24 ((l.drop 2).take (Tryd.prog.cellsOf 24)) = some y2 := hf 2 _ rfl
    have e3 : DataW.trod enc Tryd.prog W 0 (fun _ => true) true n 25 ((l.drop 3).take (Tryd.prog.cellsOf 25)) = some y3 := hf 3 _ rfl
    have e4 : DataW.trod enc Tryd.prog W 0 (fun _ => true) true n 26 ((l.drop 4).take (Tryd.prog.cellsOf 26)) = some y4 := hf 4 _ rfl
    simp only [show Tryd.prog.cellsOf 9 = 1 by kernel_rfl] at e0
    simp only [show Tryd.prog.cellsOf 23 = 1 by kernel_rfl] at e1
    simp only [show Tryd.prog.cellsOf 24 = 1 by kernel_rfl] at e2
    simp only [show Tryd.prog.cellsOf 25 = 1 by kernel_rfl] at e3
    simp only [show Tryd.prog.cellsOf 26 = 1 by kernel_rfl] at e4
    match l, hl with
    | [c0, c1, c2, c3, c4], _ =>
      obtain ⟨s, h0, _, _⟩ := DataW.trod_string Tryd.underlying9 e0
      obtain ⟨PA, pn, pc, rfl⟩ := slice_form Tryd.underlying23 (c0 := c1) e1
      obtain ⟨z2, h2, _, _⟩ := DataW.trod_int Tryd.underlying24 e2
      obtain ⟨v3, rl, h3, r3, w3⟩ := opensW_ints Tryd.underlying25 Tryd.underlying24 (by kernel_rfl) e3
      obtain ⟨BA, bn, bc, rfl⟩ := slice_form Tryd.underlying26 (c0 := c4) e4
      simp at h0 h2 h3
      obtain ⟨RA, rc, q3, _⟩ := id r3
      subst h0 h2 h3 q3
      refine ⟨s, PA, pn, pc, z2, RA, rc, rl, BA, bn, bc, rfl, r3, fun h => ?_⟩
      obtain ⟨m, hm, hle⟩ := w3 h
      rw [show Tryd.prog.bytesOf 24 = 8 by kernel_rfl] at hle
      refine ⟨m, ?_, hle⟩
      injection hx with hx _
      rw [hx]
      simp only [DataW.weights, Tryd.underlying28, List.map_cons, List.map_nil, DataW.weightsEach, List.mem_append]
      exact .inr (.inr (.inr (.inl hm)))
end
end Go.Proofs.YtnhaanjpcnnifaaDoor
namespace Go.Proofs.YtnhaanjpcnnifaaDoor
open Go.RowKit Go.ChangeShapes Go.WideShapes

set_option maxRecDepth 100000 in
theorem opens_fnS : Opens Tryd.prog 28 (fun W cs => ∃ d : FD, cs = [d.u0, .slice d.PA d.pl.length d.pc, .int .i64 d.res, .slice d.CA d.cl.length d.cc, d.u4] ∧ Rd W .i64 (.slice d.PA d.pl.length d.pc) d.pl ∧ Rd W .i64 (.slice d.CA d.cl.length d.cc) d.cl ∧ Shp d) := by
  intro H enc W held fuel cs x h
  obtain ⟨d, h1, h2, h3⟩ := opens_fn H enc W held fuel cs x h
  refine ⟨d, h1, h2, h3, ?_⟩
  obtain ⟨xs, n, _, _, hl, hlen, hf⟩ := DataW.trod_struct Tryd.underlying28 h
  subst h1
  match xs, hlen with
  | [y0, y1, y2, y3, y4], _ =>
    have e0 : DataW.trod enc Tryd.prog W 0 (fun _ => true) held n 9 (([d.u0, .slice d.PA d.pl.length d.pc, .int .i64 d.res, .slice d.CA d.cl.length d.cc, d.u4].drop 0).take (Tryd.prog.cellsOf 9)) = some y0 := hf 0 _ rfl
    have e4 : DataW.trod enc Tryd.prog W 0 (fun _ => true) held n 26 (([d.u0, .slice d.PA d.pl.length d.pc, .int .i64 d.res, .slice d.CA d.cl.length d.cc, d.u4].drop 4).take (Tryd.prog.cellsOf 26)) = some y4 := hf 4 _ rfl
    simp only [show Tryd.prog.cellsOf 9 = 1 by kernel_rfl] at e0
    simp only [show Tryd.prog.cellsOf 26 = 1 by kernel_rfl] at e4
    obtain ⟨s, h0, _, _⟩ := DataW.trod_string Tryd.underlying9 e0
    obtain ⟨BA, bn, bc, h4⟩ := slice_form Tryd.underlying26 (c0 := d.u4) e4
    simp at h0
    exact ⟨⟨s, h0⟩, BA, bn, bc, h4⟩
set_option maxRecDepth 100000 in
theorem opens_modS : Opens Tryd.prog 32 (fun W cs => ∃ GA gn gc FA fc, ∃ fs : List FD, cs = [.slice GA gn gc, .slice FA fs.length fc] ∧ FnsAt W FA fs ∧ ∀ d ∈ fs, Shp d) := by
  intro H enc W held fuel cs x h
  obtain ⟨xs, n, _, _, hl, hlen, hf⟩ := DataW.trod_struct Tryd.underlying32 h
  rw [show Tryd.prog.cellsOf 32 = 2 by kernel_rfl] at hl
  match xs, hlen with
  | [y0, y1], _ =>
    have e0 : DataW.trod enc Tryd.prog W 0 (fun _ => true) held n 29 ((cs.drop 0).take (Tryd.prog.cellsOf 29)) = some y0 := hf 0 _ rfl
    have e1 : DataW.trod enc Tryd.prog W 0 (fun _ => true) held n 30 ((cs.drop 1).take (Tryd.prog.cellsOf 30)) = some y1 := hf 1 _ rfl
    simp only [show Tryd.prog.cellsOf 29 = 1 by kernel_rfl] at e0
    simp only [show Tryd.prog.cellsOf 30 = 1 by kernel_rfl] at e1
    match cs, hl with
    | [c0, c1], _ =>
      have h0 : ∃ GA gn gc, c0 = .slice GA gn gc := by
        rcases Deep.open_slice Tryd.underlying29 e0 with ⟨e, _⟩ | ⟨a, len, cap, k, n, D, Pl, e, _⟩
        · exact ⟨none, 0, 0, by simpa using e⟩
        · exact ⟨some a, len, cap, by simpa using e⟩
      obtain ⟨GA, gn, gc, rfl⟩ := h0
      obtain ⟨v, rows, h1, hN, hrow⟩ := opens_slice (m := 5) Tryd.underlying30 (by kernel_rfl) (by decide) opens_fnS H enc W held n _ _ e1
      obtain ⟨fs, rfl, hfs⟩ := map_of_each (f := fun d : FD => [d.u0, .slice d.PA d.pl.length d.pc, .int .i64 d.res, .slice d.CA d.cl.length d.cc, d.u4]) (p := fun d => (Rd W .i64 (.slice d.PA d.pl.length d.pc) d.pl ∧ Rd W .i64 (.slice d.CA d.cl.length d.cc) d.cl) ∧ Shp d) rows (fun y hy => by
        obtain ⟨d, a, b, c, e⟩ := hrow y hy
        exact ⟨d, a, ⟨b, c⟩, e⟩)
      obtain ⟨_, FA, fc, e, _, _, hc⟩ := hN
      rw [List.length_map] at e hc
      simp at h1
      subst h1 e
      refine ⟨GA, gn, gc, FA, fc, fs, rfl, fun s d hs => ?_, fun d hd => (hfs d hd).2⟩
      have hlt := (List.getElem?_eq_some_iff.1 hs).1
      obtain ⟨b, off, rfl, _, hcell⟩ := hc (by omega)
      have hg := fun (j : Nat) (z : Value) (hz : [d.u0, Value.slice d.PA d.pl.length d.pc, .int .i64 d.res, .slice d.CA d.cl.length d.cc, d.u4][j]? = some z) => hcell s j _ z (by rw [List.getElem?_map, hs]; rfl) hz
      obtain ⟨⟨r1, r2⟩, _⟩ := hfs d (List.mem_of_getElem? hs)
      exact ⟨b, off, rfl, hg 0 _ rfl, by rw [Nat.add_assoc]; exact hg 1 _ rfl, by rw [Nat.add_assoc]; exact hg 2 _ rfl, by rw [Nat.add_assoc]; exact hg 3 _ rfl, by rw [Nat.add_assoc]; exact hg 4 _ rfl, r1, r2⟩
section
variable {H : Type} {enc : TypeId × Value → H} {W : World} {r : Reach} {b0 : Nat} {v : Value} {d : DataW H} {ps : List MemPlace}
set_option maxRecDepth 100000 in
theorem open_modS (hval : Value.okWide Tryd.prog W r b0 32 v) (hd : DataW.Trod enc Tryd.prog W 0 (fun _ => true) true 32 v d ps) :
    ∃ GA gn gc FA fc, ∃ fs : List FD, v = .agg #[.slice GA gn gc, .slice FA fs.length fc] ∧ FnsAt W FA fs ∧ ∀ d ∈ fs, Shp d := by
  obtain ⟨cs, rfl, _⟩ := okWide_struct Tryd.underlying32 hval
  obtain ⟨fuel, hfu⟩ := hd
  have hf' : DataW.trod enc Tryd.prog W 0 (fun _ => true) true fuel 32 cs.toList = some (d, ps) := hfu
  obtain ⟨GA, gn, gc, FA, fc, fs, h1, h2, h3⟩ := opens_modS H enc W true fuel _ _ hf'
  exact ⟨GA, gn, gc, FA, fc, fs, by congr 1; exact Array.toList_inj.1 h1, h2, h3⟩
end
end Go.Proofs.YtnhaanjpcnnifaaDoor
namespace Go.Proofs.YtnhaanjpcnnifaaDoor
open Go.RowKit Go.ChangeShapes Go.WideShapes

set_option maxRecDepth 100000 in
theorem opens_es : Opens Tryd.prog 22 (fun W cs => ∃ A c, ∃ e : List NdD, cs = [.slice A e.length c] ∧ RdN W 3 (.slice A e.length c) (e.map NdD.cells)) := by
  intro H enc W held fuel cs x h
  have hs := opens_slice Tryd.underlying22 (show Tryd.prog.cellsOf 40 = 3 by kernel_rfl) (by omega)
    (opens_struct3 Tryd.underlying40 (by kernel_rfl) ⟨rfl, rfl, rfl⟩ (by kernel_rfl) (by kernel_rfl) (by kernel_rfl) (opens_int Tryd.underlying3) (opens_int Tryd.underlying24) (opens_int Tryd.underlying2))
  obtain ⟨v, rows, rfl, hr, hall⟩ := hs H enc W held fuel cs x h
  obtain ⟨e, rfl, -⟩ := map_of_each (f := NdD.cells) (p := fun _ => True) rows (fun r hm => by
    obtain ⟨a, b, c, rfl, ⟨z0, h0, -⟩, ⟨z1, h1, -⟩, ⟨z2, h2, -⟩⟩ := hall r hm
    injection h0 with h0 _
    injection h1 with h1 _
    injection h2 with h2 _
    subst h0 h1 h2
    exact ⟨⟨z0, z1, z2⟩, rfl, trivial⟩)
  obtain ⟨_, A, c, e1, -⟩ := id hr
  rw [List.length_map] at e1
  subst e1
  exact ⟨A, c, e, rfl, hr⟩
section
variable {H : Type} {enc : TypeId × Value → H} {W : World} {r : Reach} {b0 : Nat} {v : Value} {d : DataW H} {ps : List MemPlace}
set_option maxRecDepth 100000 in
theorem open_es (hd : DataW.Trod enc Tryd.prog W 0 (fun _ => true) true 22 v d ps) (hv : Value.okWide Tryd.prog W r b0 22 v) :
    ∃ A c, ∃ e : List NdD, v = .slice A e.length c ∧ RdN W 3 (.slice A e.length c) (e.map NdD.cells) := by
  have hc : v.cells.toList = [v] := by
    obtain ⟨a, len, cap, rfl⟩ := okWide_slice Tryd.underlying22 hv
    rfl
  obtain ⟨A, c, e, h1, h2⟩ := open_cell opens_es hc hd
  injection h1 with h1 _
  exact ⟨A, c, e, h1, h2⟩
end
end Go.Proofs.YtnhaanjpcnnifaaDoor
namespace Go.Proofs.YtnhaanjpcnnifaaDoor.exprCheck
open Go.ChangeShapes Go.WideShapes Go.ChangeAt Go.RowKit

theorem params_ok : ∀ t ∈ (#[22, 28, 32] : Array TypeId).toList, Tryd.prog.readableRec t = true ∧ t < Tryd.prog.types.size := by
  intro t ht
  have hall : ((#[22, 28, 32] : Array TypeId).toList.all fun u => Tryd.prog.readableRec u && decide (u < Tryd.prog.types.size)) = true := by kernel_rfl
  have := List.all_eq_true.1 hall t ht
  simpa using this

set_option maxRecDepth 100000 in
theorem contract (H : Type) (enc : TypeId × Value → H) (W : World) (base : Nat) (args : Array Value) (ds gs : List (DataW H)) (before : List MemPlace)
    (hval : ∀ (j : Nat) t v, Tryd.f3.params[j]? = some t → args[j]? = some v → Value.okWide Tryd.prog W .any base t v)
    (hW : DataW.Whole enc Tryd.prog Tryd.f3.params.toList Rows.exprCheckSpec.vars false W args.toList ds gs before) (hL : laidMetH Tryd.prog Rows.exprCheckRow.laid W) :
    Calls Tryd.prog 3 args W fun e W' => ∃ v, e = .returned v ∧ Rows.exprCheckSpec.post enc Tryd.prog Tryd.f3 false true false false W args v W' := by
  have hW' := hW
  have hT : Tab W := optabw_of_laid hL
  have hO : OpTab W := optab_of_laid hL
  obtain ⟨p, q, hA0, _, rfl, _, _⟩ := hW
  have hA : DataW.TrodAll enc Tryd.prog W 0 (fun _ => true) true Tryd.f3.params.toList args.toList ds p := hA0
  rw [Tryd.params3] at hA hval
  obtain ⟨v0, vs0, d0, ds0, p0, q0, hargs, rfl, rfl, h0, r0⟩ := trodAll_cons hA
  obtain ⟨v1, vs1, d1, ds1, p1, q1, rfl, rfl, rfl, h1, r1⟩ := trodAll_cons r0
  obtain ⟨v2, vs2, d2, ds2, p2, q2, rfl, rfl, rfl, h2, r2⟩ := trodAll_cons r1
  obtain ⟨rfl, rfl, rfl⟩ := trodAll_nil r2
  obtain rfl : args = #[v0, v1, v2] := by cases args; simp_all
  clear hA0
  obtain ⟨A0, c0, e0, rfl, he0⟩ := open_es h0 (hval 0 22 v0 rfl rfl)
  obtain ⟨nm1, PA1, pn1, pc1, res1, RA1, rc1, rl1, BA1, bn1, bc1, rfl, rr1, wg1⟩ := open_fn (hval 1 28 v1 rfl rfl) h1
  obtain ⟨GA2, gn2, gc2, FA2, fc2, fs2, rfl, fr2, sh2⟩ := open_modS (hval 2 32 v2 rfl rfl) h2
  have walk : Calls Tryd.prog 3 #[.slice A0 e0.length c0, .agg #[.string nm1, .slice PA1 pn1 pc1, .int .i64 res1, .slice RA1 rl1.length rc1, .slice BA1 bn1 bc1], .agg #[.slice GA2 gn2 gc2, .slice FA2 fs2.length fc2]] W (LawDone W) := by
    exact (check_law e0 A0 PA1 RA1 BA1 GA2 FA2 c0 pn1 pc1 rc1 bn1 bc1 gn2 gc2 fc2 nm1 res1 rl1 fs2 sh2 W hT hO he0 rr1 fr2).mono fun e W' h => h
  refine walk.mono fun e W' ⟨he, hb⟩ => ?_
  subst he
  exact ⟨_, rfl, law_post (T := 4) (by kernel_rfl) (by rw [Tryd.params3]; exact params_ok) (by kernel_rfl) Tryd.underlying4 rfl
    (fun ds hd => by rw [Tryd.params3] at hd; match ds, hd with | [a0, a1, a2], _ => exact ⟨rfl, rfl, rfl⟩) hW' hb⟩

set_option maxRecDepth 100000 in
theorem laid_met (os : Os) : laidMet Tryd.prog Rows.exprCheckRow.laid ((opWorld os).forCall (fun _ _ => 0) ⟨#[], #[.slice none 0 0, .agg #[.string ⟨#[]⟩, .slice none 0 0, .int .i64 0, .slice none 0 0, .slice none 0 0], .agg #[.slice none 0 0, .slice none 0 0]], []⟩).memory :=
  laidMet_of_run' 8 (by kernel_rfl) (by kernel_rfl)
set_option maxRecDepth 100000 in
theorem reads (os : Os) {H : Type} (enc : TypeId × Value → H) : ∃ places, DataW.whole enc Tryd.prog ((opWorld os).forCall (fun _ _ => 0) ⟨#[], #[.slice none 0 0, .agg #[.string ⟨#[]⟩, .slice none 0 0, .int .i64 0, .slice none 0 0, .slice none 0 0], .agg #[.slice none 0 0, .slice none 0 0]], []⟩).memory Tryd.f3.params.toList Rows.exprCheckSpec.vars false (#[.slice none 0 0, .agg #[.string ⟨#[]⟩, .slice none 0 0, .int .i64 0, .slice none 0 0, .slice none 0 0], .agg #[.slice none 0 0, .slice none 0 0]] : Array Value).toList 8 = some ([.nil, .agg [.lit (.string []), .nil, .lit (.int .i64 0), .nil, .nil], .agg [.nil, .nil]], [], places) :=
  ⟨[], by kernel_rfl⟩

set_option maxRecDepth 100000 in
theorem lifted (os : Os) (started : os.Started) (H : Type) (enc : TypeId × Value → H) (F : Stop.Interp) :
    ReturnsInHanded {} Tryd.checked os 3 .any ((OpenSpec.ofChange Rows.exprCheckSpec).preRow enc Tryd.prog Tryd.f3 Rows.exprCheckRow.domain false Rows.exprCheckRow.laid) (((OpenSpec.ofChange Rows.exprCheckSpec).at F).post enc Tryd.prog Tryd.f3 false true false false) := by
  obtain ⟨places, hx⟩ := reads os enc
  refine returnsInHanded_of_row (C := Tryd.checked) (s := (OpenSpec.ofChange Rows.exprCheckSpec)) own started (by kernel_rfl) Tryd.func3
    (witness_row_at (enc := enc) (C := Tryd.checked) false (opWorld os) #[.slice none 0 0, .agg #[.string ⟨#[]⟩, .slice none 0 0, .int .i64 0, .slice none 0 0, .slice none 0 0], .agg #[.slice none 0 0, .slice none 0 0]] rfl (by kernel_rfl) (by kernel_rfl) (by kernel_rfl)
      (OpenSpec.preRow_of_cond 8 hx (by kernel_rfl) (fun k hk => by cases hk) (by kernel_rfl) (laid_met os))) ?_
  intro W base args ds gs before hval hW _ _ _ hL _ _
  exact contract H enc W base args ds gs before hval hW hL

theorem said : Rows.ExprCheckSaid :=
  OpenClaim.holds_of_cond 3 Tryd.f3 rfl rfl rfl rfl rfl rfl rfl ⟨rfl, rfl, rfl, rfl, rfl⟩ rfl rfl rfl rfl rfl (by kernel_rfl) Tryd.func3 (by kernel_rfl)
    (of_decide_eq_true (by kernel_rfl)) (by unfold Func.isWrapper; first | (rw [if_pos (by decide +kernel)]; kernel_rfl) | (rw [if_neg (by decide +kernel)]; exact ⟨rfl, rfl⟩))
    (fun os started H enc _ F => by rw [OpenClaim.pre_eq_preRow]; exact lifted os started H enc F)

theorem params_plain (t : TypeId) (ht : t ∈ ([22, 28, 32] : List TypeId)) : Tryd.prog.wantsStandIn t = false := by
  have hall : (([22, 28, 32] : List TypeId).all fun u => !Tryd.prog.wantsStandIn u) = true := by kernel_rfl
  simpa using List.all_eq_true.1 hall t ht
theorem plain (f : FuncId) (fn : Func) (hf : Tryd.pinned.checked.prog.funcNamed "burnish/burnishlaw23.ExprCheck" = some f) (hfn : Tryd.pinned.checked.prog.funcs[f]? = some fn) :
    false = Tryd.pinned.checked.prog.looks [] ∧ ∀ (j : Nat) t, fn.params[j]? = some t → Tryd.pinned.checked.prog.wantsStandIn t = false := by
  obtain rfl : f = 3 := Option.some.inj ((show Tryd.prog.funcNamed "burnish/burnishlaw23.ExprCheck" = some 3 by kernel_rfl).symm.trans hf) |>.symm
  obtain rfl : fn = Tryd.f3 := (Option.some.inj (Tryd.func3.symm.trans hfn)).symm
  refine ⟨by kernel_rfl, fun j t ht => ?_⟩
  rw [Tryd.params3] at ht
  exact params_plain t (List.mem_of_getElem? (by simpa using ht) |> fun h => by simpa using h)

/-- THE CARD. -/
theorem card : Rows.ExprCheckCardSaid :=
  Claim7.holds_tied_plain_at .later [] _ _ _ _ said (fun _ h => by cases h) (by kernel_rfl) (fun _ h => by cases h) exprCheck_row_tie rfl ⟨rfl, rfl⟩ (by kernel_rfl) rfl plain (by kernel_rfl)
end Go.Proofs.YtnhaanjpcnnifaaDoor.exprCheck

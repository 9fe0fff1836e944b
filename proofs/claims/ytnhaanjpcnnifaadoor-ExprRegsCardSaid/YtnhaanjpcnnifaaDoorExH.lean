/-
  Layer 23 (expr): Reg, Const, Apply (and slices.Concat, slices.Grow at expressions).
-/
import Derived.Shelf.Spec.SlicesGrow
import Derived.Test.YtnhaanjpcnnifaaDoorExS
import Derived.Test.YtnhaanjpcnnifaaDoorExD
import Derived.Test.YtnhaanjpcnnifaaDoorVals
namespace Go.Proofs.YtnhaanjpcnnifaaDoor
open Go.RowKit Go.Deep Go.Shelf

def rhoGT (n : Nat) : Nat := if n = 0 then 0 else if n = 3 then 3 else if n = 4 then 4 else if n = 9 then 9 else if n = 20 then 20 else if n = 22 then 22 else if n = 25 then 40 else 0
def rhoG : Ren := ⟨fun _ => 47, rhoGT, fun n => n⟩
set_option maxRecDepth 100000 in
theorem layGrow : Lays8.n4 Tryd.prog rhoG := by
  constructor <;> first | kernel_rfl | (intro w; kernel_rfl) | exact ⟨"slices.Grow[[]burnish/api.ExprNode,burnish/api.ExprNode]", by decide, by kernel_rfl⟩
def zNd : Value := .agg #[.int .i64 0, .int .i64 0, .int .i64 0]
theorem ndE : ElemN Tryd.prog 22 40 3 zNd 24 := ⟨Tryd.underlying22, rfl, by omega, info9 (by kernel_rfl)⟩
theorem nd_len (e : List NdD) : ∀ r ∈ e.map NdD.cells, r.length = 3 := fun r h => by
  obtain ⟨x, _, rfl⟩ := List.mem_map.1 h
  rfl
theorem nd_one (e : List NdD) : ∀ r ∈ e.map NdD.cells, ∀ x ∈ r, x.oneCell' = true := fun r h x hx => by
  obtain ⟨y, _, rfl⟩ := List.mem_map.1 h
  simp [NdD.cells] at hx
  rcases hx with rfl | rfl | rfl <;> rfl
theorem whole_range {w : World} {g : Nat} {T : TypeId} {r : List Value} (h : Whole w g T r.toArray) : w.rangeAt g 0 r := h.range
theorem rdn_nd (w : World) (t : TypeId) (x : NdD) : RdN (w.alloc (.cells x.cells.toArray t)) 3 (.slice (some ⟨w.heap.size, 0, none⟩) 1 1) [x.cells] := by
  refine ⟨fun r hr => by rw [List.mem_singleton.1 hr]; rfl, some ⟨w.heap.size, 0, none⟩, 1, rfl, Nat.le_refl _, by unfold maxLen; omega, fun _ => ⟨w.heap.size, 0, rfl, by simp, ?_⟩⟩
  intro i j r v hr hv
  have hi : i = 0 := by
    have := (List.getElem?_eq_some_iff.1 hr).1
    simp at this
    exact this
  subst hi
  have h2 : r = x.cells := by simpa using hr.symm
  subst h2
  have h := (Whole.new w t x.cells.toArray).cell j
  rw [List.getElem?_toArray, hv] at h
  simpa using h
/-- A row of expressions. -/
def RdEs (w : World) (A : Option Addr) (c : Nat) (L : List (List NdD)) : Prop :=
  ∃ rows : List Value, rows.length = L.length ∧ RdV w (.slice A L.length c) rows ∧ ∀ (i : Nat) (l : List NdD), L[i]? = some l → ∃ (B : Option Addr) (d : Nat), rows[i]? = some (Value.slice B l.length d) ∧ RdN w 3 (.slice B l.length d) (l.map NdD.cells)
theorem RdEs.below' {w w' : World} {A : Option Addr} {c : Nat} {L : List (List NdD)} (h : RdEs w A c L) (hb : Below w.heap.size w w') : RdEs w' A c L := by
  obtain ⟨rows, h1, h2, h3⟩ := h
  exact ⟨rows, h1, h2.below' hb, fun i l hi => by
    obtain ⟨B, d, h4, h5⟩ := h3 i l hi
    exact ⟨B, d, h4, h5.below' hb⟩⟩
theorem RdEs.at {w : World} {A : Option Addr} {c : Nat} {L : List (List NdD)} (h : RdEs w A c L) {i : Nat} {l : List NdD} (hi : L[i]? = some l) :
    ∃ b off B d, A = some ⟨b, off, none⟩ ∧ b < w.heap.size ∧ w.cell? ⟨b, off + i, none⟩ = some (Value.slice B l.length d) ∧ RdN w 3 (.slice B l.length d) (l.map NdD.cells) := by
  obtain ⟨rows, h1, h2, h3⟩ := h
  obtain ⟨B, d, h4, h5⟩ := h3 i l hi
  obtain ⟨b, off, h6, h7, h8⟩ := h2.at i _ h4
  exact ⟨b, off, B, d, h6, h7, h8, h5⟩
theorem RdEs.cap {w : World} {A : Option Addr} {c : Nat} {L : List (List NdD)} (h : RdEs w A c L) : L.length ≤ c ∧ c ≤ maxLen := by
  obtain ⟨rows, h1, ⟨A', c', h2, h3, h4, _⟩, _⟩ := h
  injection h2 with e1 e2 e3
  subst e3
  omega
theorem zeroCells_size (n : Nat) : (Builtin.zeroCells zNd.cells n).size = n * 3 := by
  unfold Builtin.zeroCells
  rw [Array.size_map, Array.size_range]
  rfl
theorem grow_any (n : Nat) (hn : n ≤ 1000000) (w : World) :
    Calls Tryd.prog 47 #[.slice none 0 0, .int .i64 n] w fun e w' => ∃ v, e = .returned v ∧ OwnN w' w.heap.size 40 3 v [] ∧ Below w.heap.size w w' := by
  rcases Nat.eq_zero_or_pos n with h0 | h0
  · subst h0
    exact (Any8.slices_Grow_room layGrow none 0 0 0 w (Nat.le_refl _) (by omega) (by omega) (Nat.le_refl _)).mono fun e w' ⟨h1, h2⟩ => ⟨_, h1, by subst h2; exact OwnN.nil _ _ _ _, by subst h2; exact Below.refl _ _⟩
  · obtain ⟨i, hi, hz, hs, hby⟩ := ndE.info
    refine (Any8.slices_Grow_grow layGrow i zNd hi hz (by omega) none 0 0 n [] w (Nat.le_refl _) (by omega) (by rw [hby]; omega) (by omega) (by simp) (fun _ => rfl) (fun a h => by cases h)).mono fun e w' ⟨h1, h2⟩ => ⟨_, h1, ?_, ?_⟩
    · subst h2
      refine ⟨⟨by simp, .inr ⟨w.heap.size, _, _, rfl, Nat.le_refl _, heap_alloc_new w.drew _, Nat.zero_le _, grownCap_le_maxLen _ _ _ _ (by unfold maxLen; omega), ?_, by simp⟩⟩, fun r h => by cases h⟩
      have h3 := grownCap_ge w (0 + n) 0 (rhoG.t 25)
      simp only [Array.size_append, zeroCells_size, List.size_toArray, List.length_nil]
      omega
    · subst h2
      exact ((Below.refl w.heap.size w).drew).alloc (Nat.le_refl _) _
theorem sum_take {L : List (List NdD)} {k : Nat} {l : List NdD} (h : L[k]? = some l) : ((L.take (k + 1)).map List.length).sum = ((L.take k).map List.length).sum + l.length := by
  have hk := (List.getElem?_eq_some_iff.1 h).1
  rw [List.take_succ_eq_append_getElem hk, (List.getElem?_eq_some_iff.1 h).2]
  simp
theorem sum_le (L : List (List NdD)) (k : Nat) : ((L.take k).map List.length).sum ≤ (L.map List.length).sum := by
  have h : L.map List.length = (L.take k).map List.length ++ (L.drop k).map List.length := by rw [← List.map_append, List.take_append_drop]
  rw [h, List.sum_append]
  omega
theorem flat_take {L : List (List NdD)} {k : Nat} {l : List NdD} (h : L[k]? = some l) : (L.take (k + 1)).flatten = (L.take k).flatten ++ l := by
  have hk := (List.getElem?_eq_some_iff.1 h).1
  rw [List.take_succ_eq_append_getElem hk, (List.getElem?_eq_some_iff.1 h).2]
  simp
theorem flat_sum (L : List (List NdD)) : L.flatten.length = (L.map List.length).sum := by simp [List.length_flatten]
set_option maxRecDepth 100000 in
set_option maxHeartbeats 4000000 in
theorem concat_any (L : List (List NdD)) (A : Option Addr) (c : Nat) (w : World) (hL : RdEs w A c L) (hs : (L.map List.length).sum ≤ 1000000) (hn : L.length ≤ 1000) :
    Calls Tryd.prog 31 #[.slice A L.length c] w fun e w' => ∃ v, e = .returned v ∧ OwnN w' w.heap.size 40 3 v (L.flatten.map NdD.cells) ∧ Below w.heap.size w w' := by
  have hc := hL.cap.2
  have hc9 : c ≤ 9223372036854775807 := by unfold maxLen at hc; omega
  have HL := hide hL
  have HS := hide hs
  clear hL hs hc
  go_enter Tryd.func31, Tryd.ntmps31
  go_wp2_with fail
  go_loopw [3, 11] (fun p z wr => ∃ k : Nat, k ≤ L.length ∧ z = .int .i64 k ∧ p = .int .i64 ((((L.take k).map List.length).sum : Nat) : Int) ∧ wr = w) (fun _ z _ => L.length - (intOf z).toNat)
  case atStart => exact ⟨0, Nat.zero_le _, rfl, rfl, rfl⟩
  case round =>
    obtain ⟨wq, rfl⟩ : ∃ x, x = wr := ⟨_, rfl⟩
    obtain ⟨k, hk, rfl, rfl, rfl⟩ := hrel
    by_cases hlt : k < L.length
    · obtain ⟨l, hl⟩ : ∃ l, L[k]? = some l := ⟨_, List.getElem?_eq_getElem hlt⟩
      obtain ⟨b, off, B, d, rfl, hb, hcell, hrd⟩ := HL.out.at hl
      have h1 := sum_take hl
      have h2 := sum_le L (k + 1)
      have h3 := HS.out
      obtain ⟨s0, hs0⟩ : ∃ s, ((L.take k).map List.length).sum = s := ⟨_, rfl⟩
      rw [hs0] at h1 ⊢
      have hs6 : s0 + l.length ≤ 1000000 := by omega
      have g0 : decide (((s0 : Int) + (l.length : Int)) < 0) = false := by simp; omega
      have H1 := hide h1
      clear hl hrd h1 h2 h3 hs0
      go_wp2_with fail
      go_roundw
      case rel => exact ⟨k + 1, by omega, by go_num, by rw [H1.out]; simp, trivial⟩
      case measure => simp [intOf]; omega
    · have hkl : L.take k = L := List.take_of_length_le (by omega)
      rw [hkl]
      obtain ⟨n, hn2⟩ : ∃ n, (L.map List.length).sum = n := ⟨_, rfl⟩
      have hn6 : n ≤ 1000000 := by rw [← hn2]; exact HS.out
      rw [hn2]
      clear hn2 hkl
      go_wp2_with (go_at_call 47; refine (grow_any n hn6 _).mono ?_; rintro en w1 ⟨v, rfl, ho, hb⟩; have HO := hide ho; have HB := hide hb; clear ho hb)
      go_loopw [6, 27] (fun p z wr => ∃ k : Nat, k ≤ L.length ∧ z = .int .i64 k ∧ Hid (OwnN wr wq.heap.size 40 3 p ((L.take k).flatten.map NdD.cells)) ∧ Hid (Below wq.heap.size wq wr)) (fun _ z _ => L.length - (intOf z).toNat)
      case atStart => exact ⟨0, Nat.zero_le _, rfl, HO, HB⟩
      case round =>
        clear HO HB
        obtain ⟨wp, rfl⟩ : ∃ x, x = wr := ⟨_, rfl⟩
        obtain ⟨p, rfl⟩ : ∃ x, x = u6 := ⟨_, rfl⟩
        obtain ⟨j, hj, rfl, hO, hb⟩ := hrel
        by_cases hlt2 : j < L.length
        · obtain ⟨l, hl⟩ : ∃ l, L[j]? = some l := ⟨_, List.getElem?_eq_getElem hlt2⟩
          obtain ⟨b, off, B, d, rfl, hbb, hcell, hrd⟩ := (HL.out.below' hb.out).at hl
          have HRd := hide hrd
          have HNX : Hid (((L.take (j + 1)).flatten.map NdD.cells) = ((L.take j).flatten.map NdD.cells) ++ l.map NdD.cells) := hide (by rw [flat_take hl, List.map_append])
          have HLN : Hid (((L.take j).flatten.map NdD.cells).length + (l.map NdD.cells).length ≤ 1000000) := hide (by
            rw [List.length_map, List.length_map, flat_sum]
            have h1 := sum_take hl
            have h2 := sum_le L (j + 1)
            have h3 := HS.out
            omega)
          have hsz : wq.heap.size ≤ wp.heap.size := hb.out.size
          clear hl hrd hbb
          go_upto_region 13 with fail
          clear hcell
          refine wp_region_lit ?_
          go_step; go_step; go_step
          go_step; go_step; go_step
          (refine wpList_append_n _ rfl _ _ 22 rfl wq.heap.size 40 3 _ 24 ndE p _ rfl hO.out _ (l.map NdD.cells) rfl HRd.out (nd_one l) ?b0 ?b1 hsz ?_)
          case b0 => have := HLN.out; omega
          case b1 => have := HLN.out; unfold maxLen; omega
          rintro v' w' ho hf -
          have HO2 := hide ho
          have HB2 : Hid (Below wq.heap.size wq w') := hide (hb.out.trans (hf.toBelow (fun g hg => (hO.out.lt g (by simpa using hg)).1) hsz))
          clear ho hf hsz
          go_wp2_with fail
          go_roundw
          case rel => exact ⟨j + 1, by omega, by go_num, hide (by rw [HNX.out]; exact HO2.out), HB2⟩
          case measure => simp [intOf]; omega
        · have hjl : L.take j = L := List.take_of_length_le (by omega)
          rw [hjl] at hO
          clear hjl
          obtain ⟨_, Ap, cp, ep, -⟩ := id hO.out.rd
          obtain ⟨np, hp⟩ : ∃ n, p = .slice Ap n cp := ⟨_, ep⟩
          clear ep
          subst hp
          go_wp2_with fail
          go_ret
          exact ⟨_, rfl, hO.out, hb.out⟩
set_option maxRecDepth 100000 in
set_option maxHeartbeats 4000000 in
theorem apply_any (op ty : Int) (L : List (List NdD)) (A : Option Addr) (c : Nat) (w : World) (hL : RdEs w A c L) (hs : (L.map List.length).sum ≤ 1000000) (hn : L.length ≤ 1000) :
    Calls Tryd.prog 17 #[.int .i64 op, .int .i64 ty, .slice A L.length c] w fun e w' => ∃ v, e = .returned v ∧ RdN w' 3 v ((L.flatten ++ [(⟨op, ty, 0⟩ : NdD)]).map NdD.cells) ∧ Below w.heap.size w w' := by
  have HC := hide (concat_any L A c w hL hs hn)
  have HS := hide hs
  clear hL hs hn
  go_enter Tryd.func17, Tryd.ntmps17
  go_upto_region 1 with fail
  refine wp_region_lit ?_
  go_step; go_step; go_step
  go_step; go_step
  refine HC.out.mono ?_
  rintro en w1 ⟨v, rfl, ho, hb⟩
  have HO := hide ho
  have HB := hide hb
  clear ho hb HC
  simp only []
  go_step
  go_step; go_step; go_step
  go_step; go_step; go_step
  refine wpList_build_g (by rfl) _ _ rfl (NdD.cells ⟨op, ty, 0⟩) (by kernel_rfl) ?_
  refine wpList_bslice_g (by rfl) 22 1 _ rfl #[(0, .agg (NdD.cells ⟨op, ty, 0⟩).toArray)] (by kernel_rfl) (.slice (some ⟨w1.heap.size, 0, none⟩) 1 1) (w1.alloc (.cells (NdD.cells ⟨op, ty, 0⟩).toArray 40)) (by kernel_rfl) ?_
  have hsz : w.heap.size ≤ (w1.alloc (.cells (NdD.cells ⟨op, ty, 0⟩).toArray 40)).heap.size := by have := HB.out.size; simp; omega
  refine wpList_append_n _ rfl _ _ 22 rfl w.heap.size 40 3 _ 24 ndE v _ rfl (HO.out.alloc _) (.slice (some ⟨w1.heap.size, 0, none⟩) 1 1) [NdD.cells ⟨op, ty, 0⟩] rfl (rdn_nd _ _ _) (nd_one [⟨op, ty, 0⟩]) ?b0 ?b1 hsz ?_
  case b0 => rw [List.length_map, flat_sum]; have := HS.out; simp; omega
  case b1 => rw [List.length_map, flat_sum]; have := HS.out; unfold maxLen; simp; omega
  rintro v' w' ho hf -
  have HO2 := hide ho
  have HB2 : Hid (Below w.heap.size w w') := hide ((HB.out.alloc (by have := HB.out.size; omega) _).trans (hf.toBelow (fun g hg => (HO.out.lt g (by simpa using hg)).1) hsz))
  clear ho hf hsz
  go_wp2_with fail
  go_ret
  exact ⟨_, rfl, by rw [List.map_append]; exact HO2.out.rd, HB2.out⟩
set_option maxRecDepth 100000 in
set_option maxHeartbeats 4000000 in
theorem reg_any (r : Int) (w : World) : Calls Tryd.prog 13 #[.int .i64 r] w fun e w' => e = .returned (.slice (some ⟨w.heap.size, 0, none⟩) 1 1) ∧ w' = w.alloc (.cells (NdD.cells ⟨4, 0, r⟩).toArray 40) := by
  go_enter Tryd.func13, Tryd.ntmps13
  go_upto_region 1 with fail
  refine wp_region_lit ?_
  go_step; go_step; go_step
  refine wpList_build_g (by rfl) _ _ rfl (NdD.cells ⟨4, 0, r⟩) (by kernel_rfl) ?_
  refine wpList_bslice_g (by rfl) 22 1 _ rfl #[(0, .agg (NdD.cells ⟨4, 0, r⟩).toArray)] (by kernel_rfl) (.slice (some ⟨w.heap.size, 0, none⟩) 1 1) (w.alloc (.cells (NdD.cells ⟨4, 0, r⟩).toArray 40)) (by kernel_rfl) ?_
  go_wp2_with fail
  go_ret
  exact ⟨rfl, rfl⟩
set_option maxRecDepth 100000 in
set_option maxHeartbeats 4000000 in
theorem const_any (t n : Int) (w : World) : Calls Tryd.prog 15 #[.int .i64 t, .int .i64 n] w fun e w' => e = .returned (.slice (some ⟨w.heap.size, 0, none⟩) 1 1) ∧ w' = w.alloc (.cells (NdD.cells ⟨1, t, n⟩).toArray 40) := by
  go_enter Tryd.func15, Tryd.ntmps15
  go_upto_region 1 with fail
  refine wp_region_lit ?_
  go_step; go_step; go_step
  go_step; go_step; go_step
  refine wpList_build_g (by rfl) _ _ rfl (NdD.cells ⟨1, t, n⟩) (by kernel_rfl) ?_
  refine wpList_bslice_g (by rfl) 22 1 _ rfl #[(0, .agg (NdD.cells ⟨1, t, n⟩).toArray)] (by kernel_rfl) (.slice (some ⟨w.heap.size, 0, none⟩) 1 1) (w.alloc (.cells (NdD.cells ⟨1, t, n⟩).toArray 40)) (by kernel_rfl) ?_
  go_wp2_with fail
  go_ret
  exact ⟨rfl, rfl⟩
end Go.Proofs.YtnhaanjpcnnifaaDoor

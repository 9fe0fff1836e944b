/-
  Layer 7 (scc): condense: the graph of the components.
-/
import Derived.Test.YtakojoedifhcnaaTStray
namespace Go.Proofs.Ytakojoedifhcnaa
open Go.RowKit

/-- The numbers of the successors l of x that have another number. -/
def hop (num : Nat → Nat) (x : Nat) (l : List Int) : List Int := (l.filter fun m => num m.toNat != num x).map fun m => (num m.toNat : Int)
def condTo (g : List (List Int)) (num : Nat → Nat) (a k : Nat) : List Int := (List.range a).flatMap fun x => if num x = k then hop num x (g.getD x []) else []
def condRow (g : List (List Int)) (num : Nat → Nat) (a j k : Nat) : List Int := condTo g num a k ++ (if num a = k then hop num a ((g.getD a []).take j) else [])
def condAt (g : List (List Int)) (num : Nat → Nat) (cnt a j : Nat) : List (List Int) := (List.range cnt).map (condRow g num a j)
def cond (g : List (List Int)) (num : Nat → Nat) (cnt : Nat) : List (List Int) := (List.range cnt).map (condTo g num g.length)
section
variable (g : List (List Int)) (num : Nat → Nat) (cnt : Nat)
theorem cond_len : (cond g num cnt).length = cnt := by simp [cond]
theorem hop_nil (x : Nat) : hop num x [] = [] := rfl
theorem hop_len (x : Nat) (l : List Int) : (hop num x l).length ≤ l.length := by unfold hop; rw [List.length_map]; exact List.length_filter_le _ _
theorem condTo_succ (a k : Nat) : condTo g num (a + 1) k = condTo g num a k ++ (if num a = k then hop num a (g.getD a []) else []) := by
  unfold condTo; rw [List.range_succ, List.flatMap_append]; simp
theorem condAt_len (a j : Nat) : (condAt g num cnt a j).length = cnt := by simp [condAt]
theorem condAt_get (a j : Nat) {k : Nat} (hk : k < cnt) : (condAt g num cnt a j)[k]? = some (condRow g num a j k) := by simp [condAt, hk]
theorem condAt_zero : condAt g num cnt 0 0 = List.replicate cnt [] := by
  apply List.ext_getElem
  · simp [condAt]
  · intro i _ _; simp [condAt, condRow, condTo, hop]
theorem condAt_row (a j : Nat) (hj : (g.getD a []).length ≤ j) : condAt g num cnt a j = condAt g num cnt (a + 1) 0 := by
  unfold condAt
  refine List.map_congr_left fun k _ => ?_
  unfold condRow
  rw [condTo_succ, List.take_of_length_le hj, List.take_zero, hop_nil]
  simp
theorem condAt_end : condAt g num cnt g.length 0 = cond g num cnt := by
  unfold condAt cond
  refine List.map_congr_left fun k _ => ?_
  unfold condRow
  rw [List.take_zero, hop_nil]
  simp
theorem hop_take (x : Nat) (l : List Int) (j : Nat) (m : Nat) (hm : l[j]? = some (m : Int)) : hop num x (l.take (j + 1)) = hop num x (l.take j) ++ (if num m = num x then [] else [(num m : Int)]) := by
  unfold hop
  rw [List.take_add_one, hm]
  simp only [Option.toList_some, List.filter_append, List.map_append, List.filter_cons, List.filter_nil, Int.toNat_natCast]
  by_cases e : num m = num x <;> simp [e]
theorem condAt_in (a j : Nat) {m : Nat} (hm : (g.getD a [])[j]? = some (m : Int)) (hne : num m ≠ num a) : (condAt g num cnt a j).set (num a) (condRow g num a j (num a) ++ [(num m : Int)]) = condAt g num cnt a (j + 1) := by
  apply List.ext_getElem?
  intro i
  by_cases hi : i < cnt
  · rw [condAt_get g num cnt a (j + 1) hi]
    by_cases e : i = num a
    · subst e
      rw [List.getElem?_set_self (by rw [condAt_len]; exact hi)]
      unfold condRow
      rw [if_pos rfl, if_pos rfl, hop_take num a _ j m hm, if_neg hne, List.append_assoc]
    · rw [List.getElem?_set_ne (fun x => e x.symm), condAt_get g num cnt a j hi]
      unfold condRow
      rw [if_neg (fun x => e x.symm), if_neg (fun x => e x.symm)]
  · rw [List.getElem?_eq_none (by rw [List.length_set, condAt_len]; omega), List.getElem?_eq_none (by rw [condAt_len]; omega)]
theorem condAt_out (a j : Nat) {m : Nat} (hm : (g.getD a [])[j]? = some (m : Int)) (he : num m = num a) : condAt g num cnt a j = condAt g num cnt a (j + 1) := by
  unfold condAt
  refine List.map_congr_left fun i _ => ?_
  unfold condRow
  rw [hop_take num a _ j m hm, if_pos he, List.append_nil]
theorem condTo_edges (k : Nat) : ∀ a, a ≤ g.length → (condTo g num a k).length ≤ ((g.map List.length).take a).sum
  | 0, _ => by simp [condTo]
  | a + 1, ha => by
    have h1 := condTo_edges k a (by omega)
    have h2 := hop_len num a (g.getD a [])
    rw [condTo_succ, List.length_append, List.take_add_one, List.sum_append, List.getElem?_map, List.getElem?_eq_getElem (by omega)]
    rw [List.getD_eq_getElem?_getD, List.getElem?_eq_getElem (by omega)] at h2
    have h3 : (if num a = k then hop num a (g.getD a []) else []).length ≤ (hop num a (g.getD a [])).length := by split <;> simp
    simp only [List.getD_eq_getElem?_getD, List.getElem?_eq_getElem (show a < g.length by omega), Option.getD_some, Option.map_some, Option.toList_some, List.sum_cons, List.sum_nil] at h2 h3 ⊢
    omega
theorem condRow_edges (a j k : Nat) (ha : a < g.length) : (condRow g num a j k).length ≤ edges g := by
  have h1 := condTo_edges g num k a (by omega)
  have h2 := hop_len num a ((g.getD a []).take j)
  have h3 := sum_take (g.map List.length) (a + 1)
  rw [List.take_add_one, List.sum_append, List.getElem?_map, List.getElem?_eq_getElem ha] at h3
  have h4 : ((g.getD a []).take j).length ≤ (g.getD a []).length := by rw [List.length_take]; omega
  have h5 : (if num a = k then hop num a ((g.getD a []).take j) else []).length ≤ (hop num a ((g.getD a []).take j)).length := by split <;> simp
  unfold condRow
  rw [List.length_append]
  rw [List.getD_eq_getElem?_getD, List.getElem?_eq_getElem ha] at h2 h4 h5 ⊢
  simp only [Option.getD_some, Option.map_some, Option.toList_some, List.sum_cons, List.sum_nil] at h2 h3 h4 h5 ⊢
  unfold edges
  omega
end

set_option maxRecDepth 100000 in
set_option maxHeartbeats 4000000 in
theorem cond_any (A : Option Addr) (c : Nat) (g : List (List Int)) (num : Nat → Nat) (cnt F : Nat) (w : World) (hg : RdL w A c g) (hn : Rd w .i64 (.slice (some ⟨F, 0, none⟩) g.length g.length) (fl g.length num)) (hok : okG g = true) (hnum : ∀ x, x < g.length → num x < cnt) (hcnt : cnt ≤ g.length) (hN : g.length ≤ 65536) (hE : edges g ≤ 1000000) :
    Calls Try.prog 24 #[.agg #[.slice A g.length c], .slice (some ⟨F, 0, none⟩) g.length g.length, .int .i64 (cnt : Nat)] w fun en w' => ∃ D, en = .returned (.agg #[.slice (some ⟨D, 0, none⟩) cnt cnt]) ∧ (∃ R, OwnL w' w.heap.size D R (cond g num cnt)) ∧ Below w.heap.size w w' := by
  have hc := hg.cap
  have hc9 : c ≤ 9223372036854775807 := by unfold maxLen at hc; omega
  have HEE := hide hE
  obtain ⟨w2, hw2⟩ : ∃ x, (w.alloc (.cells #[.slice A g.length c] 24)).alloc (.cells #[.slice none 0 0] 24) = x := ⟨_, rfl⟩
  have hB2 : Below w.heap.size w w2 := by rw [← hw2]; exact ((Below.refl _ _).alloc (Nat.le_refl _) _).alloc (by simp) _
  have hx : w2.cell? ⟨w.heap.size, 0, none⟩ = some (.slice A g.length c) := by rw [← hw2]; simp [go_sem]
  have hxw : Whole w2 (w.heap.size + 1) 24 #[.slice none 0 0] := by
    rw [← hw2]
    have := Whole.new (w.alloc (.cells #[.slice A g.length c] 24)) 24 #[.slice none 0 0]; rw [World.size_alloc] at this; exact this
  have hs2 : w2.heap.size = w.heap.size + 2 := by rw [← hw2]; simp
  have HG2 : Hid (RdL w2 A c g) := hide (hg.below' hB2)
  have HW := hide hxw
  have HB := hide hB2
  have HX := hide hx
  have hmk := run_made w2 22 29 (.slice none 0 0) 24 Try.underlying22 infoInts rfl (Nat.le_refl _) cnt (by omega)
  obtain ⟨w3, hw3⟩ : ∃ x, w2.alloc (.cells (madeCells #[.slice none 0 0] cnt) 29) = x := ⟨_, rfl⟩
  have HL : Hid (OwnL w3 w2.heap.size w2.heap.size (List.replicate cnt (.slice none 0 0)) (condAt g num cnt 0 0)) := hide (by rw [← hw3, condAt_zero]; exact OwnL.made w2 w2.heap.size cnt (by unfold maxLen; omega) (Nat.le_refl _))
  have HM : Hid (Below w2.heap.size w2 w3) := hide (by rw [← hw3]; exact (Below.refl _ _).alloc (Nat.le_refl _) _)
  have hx3 : w3.cell? ⟨w.heap.size, 0, none⟩ = some (.slice A g.length c) := (HM.out.cell (p := ⟨w.heap.size, 0, none⟩) (lt_of_cell hx)).trans hx
  have HS2 := hide hs2
  have HK := hide hok
  have HNU := hide hnum
  have HR0 : Hid (∀ W, Below w2.heap.size w2 W → ∀ x, x < g.length → W.cell? ⟨F, x, none⟩ = some (.int .i64 (num x : Nat))) := hide fun W hW x hx => by
    obtain ⟨b, off, e, hbl, hcl⟩ := rd_at ((hn.below' hB2).below' hW) (fl_get num hx)
    injection e with e
    injection e with e1 e2
    subst e1 e2
    rw [Nat.zero_add] at hcl
    exact hcl
  clear hg hE hc hB2 hxw hs2 hn hok hnum
  go_enter Try.func24, Try.ntmps24
  go_wp2_with fail
  clear hw2 hw3
  go_loopw [19] (fun z wr => ∃ (a : Nat) (R : List Value), a ≤ g.length ∧ z = .int .i64 a ∧ R.length = cnt ∧ OwnL wr w2.heap.size w2.heap.size R (condAt g num cnt a 0) ∧ Below w2.heap.size w2 wr) (fun z _ => g.length - (intOf z).toNat)
  case atStart => exact ⟨0, _, Nat.zero_le _, rfl, by simp, HL.out, HM.out⟩
  case round =>
    clear HL HM hx3 hmk hx
    obtain ⟨wq, rfl⟩ : ∃ x, x = wr := ⟨_, rfl⟩
    obtain ⟨a, R, ha, rfl, hR, hL, hb⟩ := hrel
    by_cases hlt : a < g.length
    · obtain ⟨l, hl⟩ : ∃ l, g[a]? = some l := ⟨_, List.getElem?_eq_getElem hlt⟩
      have hlt' : (a : Int) < g.length := by omega
      obtain ⟨b, off, B, d, rfl, hbl2, hcell2, hrow⟩ := HG2.out.at hl
      have hcell := (hb.cell (p := ⟨b, off + a, none⟩) hbl2).trans hcell2
      have hna := HR0.out wq hb a hlt
      have HR := hide hrow
      obtain ⟨_, _, e3, hd, hm, -⟩ := hrow
      injection e3 with e3 e4 e5
      subst e3 e5
      have hd9 : d ≤ 9223372036854775807 := by unfold maxLen at hm; omega
      have HH := hide (And.intro hL hb)
      have HLg := hide hl
      have HRl := hide hR
      clear hL hb hl hm hR hcell2 hbl2 e4
      go_wp2_with fail
      clear hcell hna
      go_loopw [30] (fun z wr => ∃ (j : Nat) (R : List Value), j ≤ l.length ∧ z = .int .i64 j ∧ Hid (R.length = cnt) ∧ OwnL wr w2.heap.size w2.heap.size R (condAt g num cnt a j) ∧ Below w2.heap.size w2 wr) (fun z _ => l.length - (intOf z).toNat)
      case atStart => exact ⟨0, R, Nat.zero_le _, rfl, HRl, HH.out.1, HH.out.2⟩
      case round =>
        clear HH HRl
        obtain ⟨wp, rfl⟩ : ∃ x, x = wr := ⟨_, rfl⟩
        obtain ⟨j, R, hj, rfl, hR, hL, hb⟩ := hrel
        by_cases hlt2 : j < l.length
        · obtain ⟨m, hm⟩ : ∃ m, l[j]? = some m := ⟨_, List.getElem?_eq_getElem hlt2⟩
          have hlt2' : (j : Int) < l.length := by omega
          obtain ⟨x, rfl, hx1⟩ := ok_node HK.out HLg.out hm
          have hx1' : (x : Int) < g.length := by omega
          obtain ⟨b2, off2, rfl, hbl2, cx⟩ := rd_at (HR.out.below' hb) hm
          have hnx := HR0.out wp hb x hx1
          have hgm : (g.getD a [])[j]? = some (x : Int) := by rw [getD_of HLg.out]; exact hm
          have hac := HNU.out a hlt
          have hac' : (num a : Int) < cnt := by omega
          by_cases h0 : num x = num a
          · have HH := hide (And.intro (condAt_out g num cnt a j hgm h0) (And.intro hL hb))
            rw [h0] at hnx
            clear hL hb hm hgm
            go_wp2_with fail
            go_roundw
            case rel => exact ⟨j + 1, R, by omega, by go_num, hR, by rw [← HH.out.1]; exact HH.out.2.1, HH.out.2.2⟩
            case measure => simp [intOf]; omega
          · have h0' : ¬ (num x : Int) = num a := by omega
            have h0b : ((num x : Int) == (num a : Int)) = false := by simpa using h0'
            have h0c : ((num x : Int) != (num a : Int)) = true := by simpa using h0'
            obtain ⟨v, hv⟩ : ∃ v, R[num a]? = some v := ⟨_, List.getElem?_eq_getElem (by rw [hR.out]; exact hac)⟩
            obtain ⟨ls, hls⟩ : ∃ ls, condRow g num a j (num a) = ls := ⟨_, rfl⟩
            have hget : (condAt g num cnt a j)[num a]? = some ls := by rw [condAt_get g num cnt a j hac, hls]
            have hown := hL.row (num a) v _ hv hget
            have hcv : wp.cell? ⟨w2.heap.size, num a, none⟩ = some v := hL.own.cellAt hv
            have HLe : Hid (ls.length ≤ 1000000) := hide (by have h3 := condRow_edges g num a j (num a) hlt; rw [hls] at h3; exact Nat.le_trans h3 HEE.out)
            have HO := hide hown
            have HLL := hide (And.intro hL (And.intro hv (And.intro hget (And.intro hgm hls))))
            have HBb := hide hb
            obtain ⟨Av, cv, rfl, hcv1, hcv2, -⟩ := hown.rd
            have hcv9 : cv ≤ 9223372036854775807 := by unfold maxLen at hcv2; omega
            clear hL hb hm hown hv hget hcv2 hls hgm
            go_wp2_with (first | (refine wpList_append_v _ rfl _ _ 29 rfl w2.heap.size 3 (.int .i64 0) 8 intV _ (ls.map (Value.int .i64)) rfl (HO.out.alloc _).toV _ [.int .i64 (num x : Nat)] rfl (rdv_one wp 3 _) ?b0 ?b1 ?b2 ?b3 ?_))
            case b0 => intro y hy; rw [List.mem_singleton.1 hy]; rfl
            case b1 => have := HLe.out; rw [List.length_map, List.length_singleton]; omega
            case b2 => have := HLe.out; unfold maxLen; rw [List.length_map, List.length_singleton]; omega
            case b3 => have := HBb.out.size; rw [World.size_alloc]; omega
            intro v' w5 ho5 hf5 hb5
            have hb5' : v'.ownBlock = (Value.slice Av ls.length cv).ownBlock ∨ ∀ g', v'.ownBlock = some g' → wp.heap.size + 1 ≤ g' := hb5.imp id (fun h g' hg' => by rw [h] at hg'; injection hg' with e; omega)
            have ho6 : Own w5 w2.heap.size 3 .i64 v' (ls ++ [(num x : Int)]) := OwnV.toI (by rw [List.map_append]; exact ho5)
            have hP := (HLL.out.1.frm ((Frm.refl wp []).alloc (.cells #[.int .i64 (num x : Nat)] 3))).push HLL.out.2.1 HLL.out.2.2.1 hf5 ho6 (by rw [World.size_alloc]; exact hb5')
            have hb6 : Below w2.heap.size w2 w5 := (HBb.out.alloc HBb.out.size _).trans (hf5.toBelow (fun g' hg' => (HO.out.size g' (by simpa using hg')).1) (by have := HBb.out.size; rw [World.size_alloc]; omega))
            have hcv6 : w5.cell? ⟨w2.heap.size, num a, none⟩ = some (.slice Av ls.length cv) := (hf5.cell (p := ⟨w2.heap.size, num a, none⟩) (by rw [World.size_alloc]; have := HLL.out.1.lt; show w2.heap.size < _; omega) (fun hg => HLL.out.1.apart (num a) _ HLL.out.2.1 (by simpa using hg))).trans (((Below.refl wp.heap.size wp).alloc (Nat.le_refl _) _).cell (p := ⟨w2.heap.size, num a, none⟩) HLL.out.1.lt.2 |>.trans hcv)
            have hfr6 : w5.frozen? ⟨w2.heap.size, num a, none⟩ = false := (HLL.out.1.own.frm (((Frm.refl wp _).alloc (.cells #[.int .i64 (num x : Nat)] 3)).trans hf5) (fun g' hg' => by
              have e : g' = w2.heap.size := by simpa [Value.ownBlock] using hg'.symm
              subst e
              exact fun hg => HLL.out.1.apart (num a) _ HLL.out.2.1 (by simpa using hg))).freeAt (num a)
            have HP := hide (And.intro hP hb6)
            obtain ⟨A5, c5, e9, -, -, -⟩ := ho6.rd
            rw [List.length_append, List.length_singleton] at e9
            subst e9
            clear hP hb6 ho6 ho5 hf5 hb5 hb5' hcv
            go_wp2_with fail
            go_roundw
            case rel => exact ⟨j + 1, R.set (num a) (.slice A5 (ls.length + 1) c5), by omega, by go_num, hide (by rw [List.length_set]; exact hR.out), by
              have h9 := HP.out.1
              have h8 := condAt_in g num cnt a j HLL.out.2.2.2.1 h0
              rw [HLL.out.2.2.2.2] at h8
              rw [h8] at h9
              exact h9, HP.out.2.setCell (p := ⟨w2.heap.size, num a, none⟩) (Nat.le_refl _) _⟩
            case measure => simp [intOf]; omega
        · obtain rfl : j = l.length := by omega
          go_wp2_with fail
          go_roundw
          case rel =>
            have hL2 : OwnL wp w2.heap.size w2.heap.size R (condAt g num cnt (a + 1) 0) := by
              rw [← condAt_row g num cnt a l.length (by rw [getD_of HLg.out]; exact Nat.le_refl _)]
              exact hL
            exact ⟨a + 1, R, by omega, by go_num, hR.out, hL2, hb⟩
          case measure => simp [intOf]; omega
    · obtain rfl : a = g.length := by omega
      have HH := hide (And.intro hL hb)
      have f1 : Whole wq (w.heap.size + 1) 24 #[.slice none 0 0] := HW.out.below' hb
      have c0 : wq.cell? ⟨w.heap.size + 1, 0, none⟩ = some (.slice none 0 0) := f1.cell 0
      have f0 : wq.frozen? ⟨w.heap.size + 1, 0, none⟩ = false := f1.free 0
      have HF := hide f1
      clear hL hb hR f1
      go_wp2_with fail
      have HW2 := (HF.out.set 0 (.slice (some ⟨w2.heap.size, 0, none⟩) cnt cnt)).cell 0
      have HB2 := (HB.out.trans (HH.out.2.mono HB.out.size)).setCell (p := ⟨w.heap.size + 1, 0, none⟩) (by show w.heap.size ≤ w.heap.size + 1; omega) (.slice (some ⟨w2.heap.size, 0, none⟩) cnt cnt)
      refine bodyPost_ret (v := .agg #[.slice (some ⟨w2.heap.size, 0, none⟩) cnt cnt]) ?_ rfl ⟨w2.heap.size, rfl, ?_, HB2⟩
      · simp [results, Try.f24, go_sem, HW2]
      · have h9 := HH.out.1
        rw [condAt_end] at h9
        exact ⟨R, (h9.far ((Frm.refl wq [w.heap.size + 1]).setCell ⟨w.heap.size + 1, 0, none⟩ _ (.inl (by simp))) (fun g' hg' => by rw [List.mem_singleton.1 hg', HS2.out]; omega)).low (by rw [HS2.out]; omega)⟩
end Go.Proofs.Ytakojoedifhcnaa

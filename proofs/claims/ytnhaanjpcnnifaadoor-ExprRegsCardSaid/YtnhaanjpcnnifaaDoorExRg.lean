/-
  Layer 23 (expr): Regs of both, and the law ExprRegs.
-/
import Derived.Test.YtnhaanjpcnnifaaDoorExSo
import Derived.Test.YtnhaanjpcnnifaaDoorExLb
namespace Go.Proofs.YtnhaanjpcnnifaaDoor
open Go.RowKit Go.Deep

theorem regsE_next {e : List NdD} {k : Nat} {x : NdD} (h : e[k]? = some x) : regsE (e.take (k + 1)) = regsE (e.take k) ++ (if x.op = 4 then [x.n] else []) := by
  rw [take_next h, regsE_append]
  congr 1
  unfold regsE
  by_cases h4 : x.op = 4
  · simp [h4]
  · simp [h4]
set_option maxRecDepth 100000 in
set_option maxHeartbeats 8000000 in
theorem regs2_any (e : List NdD) (EA : Option Addr) (ec : Nat) (w : World) (he : RdN w 3 (.slice EA e.length ec) (e.map NdD.cells)) (hlen : e.length ≤ 1000) :
    Calls Tryd.prog 20 #[.slice EA e.length ec] w fun en w' => ∃ v, en = .returned v ∧ Rd w' .i64 v (insE e) ∧ Below w.heap.size w w' := by
  have hec : ec ≤ 9223372036854775807 := by have h := he.room.2; unfold maxLen at h; omega
  have HE := hide he
  have HLn := hide hlen
  have hi3 : (Tryd.prog.info? 40).map (·.size) = some 3 := by kernel_rfl
  have HI3 := hide hi3
  have HU3 := hide Tryd.underlying40
  clear he hi3
  go_enter Tryd.func20, Tryd.ntmps20
  go_wp2_with fail
  go_loopw [3, 8] (fun p z wr => ∃ k : Nat, k ≤ e.length ∧ z = .int .i64 k ∧ Hid (Own wr w.heap.size 3 .i64 p (regsE (e.take k))) ∧ Hid (Below w.heap.size w wr)) (fun _ z _ => e.length - (intOf z).toNat)
  case atStart => exact ⟨0, Nat.zero_le _, rfl, hide Own.nil, hide (Below.refl _ _)⟩
  case round =>
    obtain ⟨wq, rfl⟩ : ∃ x, x = wr := ⟨_, rfl⟩
    obtain ⟨p, rfl⟩ : ∃ x, x = u3 := ⟨_, rfl⟩
    obtain ⟨k, hk, rfl, hO, hb⟩ := hrel
    by_cases hlt : k < e.length
    · obtain ⟨x, hx⟩ : ∃ x, e[k]? = some x := ⟨_, List.getElem?_eq_getElem hlt⟩
      obtain ⟨bb, off, rfl, hlb, hrow⟩ := (HE.out.below' hb.out).row (i := k) (r := x.cells) (by rw [List.getElem?_map, hx]; rfl)
      have HRow : Hid (wq.rangeAt bb (off + k * 3) x.cells) := hide hrow
      have HX := hide hx
      have HJ := hide hlt
      have hlen' : e.length ≤ 1000 := HLn.out
      clear hx hlb hrow
      go_upto_region 4 with fail
      refine wp_region_lit ?_
      go_step; go_step; go_step
      refine wpList_load_mid (by rfl) _ _ rfl bb (off + k * 3) (by rfl) x.cells _ HRow.out HU3.out rfl HI3.out ?_
      go_step; go_step; go_step
      refine wpList_store_new (by rfl) _ _ _ rfl _ _ x.cells (by rfl) (by rfl) (by rfl) HI3.out (nd_all1 x) ?_
      obtain ⟨bX, hbX⟩ : ∃ bX, wq.heap.size = bX := ⟨_, rfl⟩
      rw [hbX]
      obtain ⟨w3, hw3⟩ : ∃ z, wq.alloc (.cells x.cells.toArray 40) = z := ⟨_, rfl⟩
      have b13 : Below wq.heap.size wq w3 := by rw [← hw3]; exact (Below.refl _ _).alloc (Nat.le_refl _) _
      have HV : Hid (Whole w3 bX 40 x.cells.toArray) := hide (by rw [← hw3, ← hbX]; exact Whole.new wq _ _)
      replace hb := hide (Below.all hb.out b13)
      replace hO := hide (hO.out.below' b13)
      rw [hw3]
      clear hw3 b13 HRow hbX
      obtain ⟨op, ty, n⟩ := x
      
      have n0 : w3.cell? ⟨bX, 0, none⟩ = some (.int .i64 op) := HV.out.cell 0
      by_cases h4 : op = 4
      · subst h4
        have n2 : w3.cell? ⟨bX, 2, none⟩ = some (.int .i64 n) := HV.out.cell 2
        have hal : Below w3.heap.size w3 (w3.alloc (.cells #[.int .i64 n] 3)) := (Below.refl _ _).alloc (Nat.le_refl _) _
        have HO5 := hide (hO.out.below' hal)
        have hb6 := hide (Below.all hb.out hal)
        have hs5 : w.heap.size ≤ (w3.alloc (.cells #[.int .i64 n] 3)).heap.size := hb6.out.size
        have hlr : (regsE (e.take k)).length ≤ 1000 := by have := regsE_len (e.take k); rw [List.length_take] at this; omega
        clear hal hO hb
        go_wp2_with (refine wpList_append_rd _ rfl _ _ 23 rfl w.heap.size 3 .i64 8 intsE9 _ _ rfl HO5.out _ [n] rfl (rd_one _ _ _) ?b0 ?b1 hs5 ?_)
        case b0 => have h1 : [n].length = 1 := rfl; omega
        case b1 => have h1 : [n].length = 1 := rfl; unfold maxLen; omega
        rintro v' w' ho hg hbl -
        have HO6 := hide ho
        have hb7 := hide (hb6.out.trans hbl)
        clear ho hg hbl hs5 n0 n2
        go_wp2_with fail
        go_roundw
        case rel => exact ⟨k + 1, by have := HJ.out; omega, by go_num, hide (by rw [regsE_next HX.out, if_pos rfl]; exact HO6.out), hb7⟩
        case measure => have := HJ.out; simp [intOf]; omega
      · have g4 : (op == 4) = false := by simpa using h4
        have HN4 := hide h4
        clear h4
        go_wp2_with fail
        go_roundw
        case rel => exact ⟨k + 1, by have := HJ.out; omega, by go_num, hide (by rw [regsE_next HX.out, if_neg HN4.out, List.append_nil]; exact hO.out), hb⟩
        case measure => have := HJ.out; simp [intOf]; omega
    · have hkl : e.take k = e := List.take_of_length_le (by omega)
      rw [hkl] at hO
      clear hkl
      have hlr : (regsE e).length ≤ 1000000 := by have := regsE_len e; have := HLn.out; omega
      go_wp2_with fail
      refine (sort_own _ w.heap.size p (regsE e) hO.out hlr).mono ?_
      rintro en w4 ⟨rfl, ho, hf⟩
      have HO4 := hide ho
      have hb4 : Hid (Below w.heap.size w w4) := hide (hb.out.trans (hf.toBelow (fun g hg => (hO.out.size g (by simpa using hg)).1) hb.out.size))
      clear ho hf
      go_wp2_with fail
      refine (compact_own _ w.heap.size p (srtI (regsE e)) HO4.out).mono ?_
      rintro en w5 ⟨u, rfl, ho, hf, hu⟩
      have HO5 := hide ho
      have hb5 : Hid (Below w.heap.size w w5) := hide (hb4.out.trans (hf.toBelow (fun g hg => (HO4.out.size g (by simpa using hg)).1) hb4.out.size))
      clear ho hf hu
      go_wp2_with fail
      go_ret
      exact ⟨_, rfl, by rw [show insE e = dd (srtI (regsE e)) from (dd_ins _).symm]; exact HO5.out.rd, hb5.out⟩
def stepR (x : Int) (a : List Int × Bool) (y : Int) : List Int × Bool :=
  let b := if a.2 = false ∧ x ≤ y then (a.1 ++ [x], true) else a
  (if y ≠ x then b.1 ++ [y] else b.1, b.2)
def finR (x : Int) (a : List Int × Bool) : List Int := if a.2 = false then a.1 ++ [x] else a.1
theorem Own.low9 {w : World} {base b : Nat} {t : TypeId} {v : Value} {l : List Int} (h : Own w base t .i64 v l) (hb : b ≤ base) : Own w b t .i64 v l := by
  obtain ⟨h1, h2⟩ := h
  refine ⟨h1, ?_⟩
  rcases h2 with h2 | ⟨g, cap, cur, hv, hg, r⟩
  · exact .inl h2
  · exact .inr ⟨g, cap, cur, hv, by omega, r⟩
theorem stepR_in (x : Int) : ∀ (l : List Int) (p : List Int), l.foldl (stepR x) (p, true) = (p ++ l.filter (fun z => decide (z ≠ x)), true)
  | [], p => by simp
  | y :: l, p => by
    rw [List.foldl_cons]
    by_cases h : y = x
    · have e : stepR x (p, true) y = (p, true) := by simp [stepR, h]
      rw [e, stepR_in x l p]
      simp [h]
    · have e : stepR x (p, true) y = (p ++ [y], true) := by simp [stepR, h]
      rw [e, stepR_in x l (p ++ [y])]
      simp [h]
theorem stepR_out (x : Int) : ∀ (l : List Int) (p : List Int), finR x (l.foldl (stepR x) (p, false)) = p ++ insR x l
  | [], p => by simp [finR, insR]
  | y :: l, p => by
    rw [List.foldl_cons]
    by_cases h : x ≤ y
    · have e : stepR x (p, false) y = (p ++ [x] ++ (if y ≠ x then [y] else []), true) := by
        by_cases h2 : y = x <;> simp [stepR, h, h2]
      rw [e, stepR_in]
      unfold finR insR
      rw [if_pos h]
      by_cases h2 : y = x <;> simp [h2]
    · have e : stepR x (p, false) y = (p ++ [y], false) := by
        have h2 : y ≠ x := by omega
        simp [stepR, h, h2]
      rw [e, stepR_out x l (p ++ [y]), show insR x (y :: l) = y :: insR x l by rw [insR]; exact if_neg h]
      simp
theorem insE_next {e : List NdD} {k : Nat} {x : NdD} (h : e[k]? = some x) : insE (e.take (k + 1)) = if x.op = 4 then insR x.n (insE (e.take k)) else insE (e.take k) := by
  unfold insE
  rw [regsE_next h, List.foldl_append]
  by_cases h4 : x.op = 4
  · rw [if_pos h4, if_pos h4]; rfl
  · rw [if_neg h4, if_neg h4]; rfl
theorem insR_len (x : Int) : ∀ l : List Int, (insR x l).length ≤ l.length + 1
  | [] => by simp [insR]
  | y :: r => by
    unfold insR
    split
    · rw [List.length_cons]
      have := List.length_filter_le (fun z => decide (z ≠ x)) (y :: r)
      omega
    · have := insR_len x r
      rw [List.length_cons, List.length_cons]
      omega
theorem insE_len (e : List NdD) : ∀ k, k ≤ e.length → (insE (e.take k)).length ≤ k
  | 0, _ => by simp [insE, regsE]
  | k + 1, h => by
    have ih := insE_len e k (by omega)
    obtain ⟨x, hx⟩ : ∃ x, e[k]? = some x := ⟨_, List.getElem?_eq_getElem (by omega)⟩
    rw [insE_next hx]
    split
    · have := insR_len x.n (insE (e.take k))
      omega
    · omega
theorem stepR_len (x : Int) : ∀ (l : List Int) (a : List Int × Bool), (l.foldl (stepR x) a).1.length ≤ a.1.length + 2 * l.length
  | [], a => by simp
  | y :: l, a => by
    rw [List.foldl_cons]
    have := stepR_len x l (stepR x a y)
    have h2 : (stepR x a y).1.length ≤ a.1.length + 2 := by
      unfold stepR
      dsimp only
      split <;> split <;> (try simp only [List.length_append, List.length_singleton]) <;> omega
    rw [List.length_cons]
    omega
set_option maxRecDepth 100000 in
set_option maxHeartbeats 8000000 in
theorem rregs_any (e : List NdD) (EA : Option Addr) (ec : Nat) (w : World) (he : RdN w 3 (.slice EA e.length ec) (e.map NdD.cells)) (hlen : e.length ≤ 1000) :
    Calls Tryd.prog 21 #[.slice EA e.length ec] w fun en w' => ∃ v, en = .returned v ∧ Rd w' .i64 v (insE e) ∧ Below w.heap.size w w' := by
  have hec : ec ≤ 9223372036854775807 := by have h := he.room.2; unfold maxLen at h; omega
  have HE := hide he
  have HLn := hide hlen
  have hi3 : (Tryd.prog.info? 40).map (·.size) = some 3 := by kernel_rfl
  have HI3 := hide hi3
  have HU3 := hide Tryd.underlying40
  clear he hi3
  go_enter Tryd.func21, Tryd.ntmps21
  go_wp2_with fail
  go_loopw [3, 12] (fun p z wr => ∃ k : Nat, k ≤ e.length ∧ z = .int .i64 k ∧ Hid (Own wr w.heap.size 3 .i64 p (insE (e.take k))) ∧ Hid (Below w.heap.size w wr)) (fun _ z _ => e.length - (intOf z).toNat)
  case atStart => exact ⟨0, Nat.zero_le _, rfl, hide Own.nil, hide (Below.refl _ _)⟩
  case round =>
    obtain ⟨wq, rfl⟩ : ∃ x, x = wr := ⟨_, rfl⟩
    obtain ⟨p, rfl⟩ : ∃ x, x = u3 := ⟨_, rfl⟩
    obtain ⟨k, hk, rfl, hO, hb⟩ := hrel
    by_cases hlt : k < e.length
    · obtain ⟨x, hx⟩ : ∃ x, e[k]? = some x := ⟨_, List.getElem?_eq_getElem hlt⟩
      obtain ⟨bb, off, rfl, hlb, hrow⟩ := (HE.out.below' hb.out).row (i := k) (r := x.cells) (by rw [List.getElem?_map, hx]; rfl)
      have HRow : Hid (wq.rangeAt bb (off + k * 3) x.cells) := hide hrow
      have HX := hide hx
      have HJ := hide hlt
      have hlen' : e.length ≤ 1000 := HLn.out
      clear hx hlb hrow
      go_upto_region 4 with fail
      refine wp_region_lit ?_
      go_step; go_step; go_step
      refine wpList_load_mid (by rfl) _ _ rfl bb (off + k * 3) (by rfl) x.cells _ HRow.out HU3.out rfl HI3.out ?_
      go_step; go_step; go_step
      refine wpList_store_new (by rfl) _ _ _ rfl _ _ x.cells (by rfl) (by rfl) (by rfl) HI3.out (nd_all1 x) ?_
      obtain ⟨bX, hbX⟩ : ∃ bX, wq.heap.size = bX := ⟨_, rfl⟩
      rw [hbX]
      obtain ⟨w3, hw3⟩ : ∃ z, wq.alloc (.cells x.cells.toArray 40) = z := ⟨_, rfl⟩
      have b13 : Below wq.heap.size wq w3 := by rw [← hw3]; exact (Below.refl _ _).alloc (Nat.le_refl _) _
      have HV : Hid (Whole w3 bX 40 x.cells.toArray) := hide (by rw [← hw3, ← hbX]; exact Whole.new wq _ _)
      replace hb := hide (Below.all hb.out b13)
      replace hO := hide (hO.out.below' b13)
      rw [hw3]
      clear hw3 b13 HRow hbX
      obtain ⟨op, ty, n⟩ := x
      
      have n0 : w3.cell? ⟨bX, 0, none⟩ = some (.int .i64 op) := HV.out.cell 0
      have hil : Hid ((insE (e.take k)).length ≤ 1000) := hide (by have := insE_len e k hk; omega)
      by_cases h4 : op = 4
      · subst h4
        have HNX : Hid (insE (e.take (k + 1)) = insR n (insE (e.take k))) := hide (by rw [insE_next HX.out, if_pos rfl])
        obtain ⟨I, hI⟩ : ∃ I, insE (e.take k) = I := ⟨_, rfl⟩
        rw [hI] at hO hil HNX
        obtain ⟨Ap, cp, ep, hcp, hmp, -⟩ := id hO.out.rd
        subst ep
        have hcp9 : cp ≤ 9223372036854775807 := by unfold maxLen at hmp; omega
        have hI9 : I.length ≤ 1000 := hil.out
        clear hI hmp hcp
        obtain ⟨L, hL⟩ : ∃ L, w3.heap.size = L := ⟨_, rfl⟩
        have HL := hide hL
        clear hL
        go_wp2_with fail
        clear n0
        go_loopw [6, 7, 21] (fun v d z wr => ∃ (j : Nat) (a : List Int × Bool), j ≤ I.length ∧ z = .int .i64 j ∧ d = .bool a.2 ∧ Hid ((I.take j).foldl (stepR n) ([], false) = a) ∧ Hid (Own wr L 3 .i64 v a.1) ∧ Hid (Below L w3 wr)) (fun _ _ z _ => I.length - (intOf z).toNat)
        case atStart => exact ⟨0, ([], false), Nat.zero_le _, rfl, rfl, hide rfl, hide Own.nil, hide (Below.refl _ _)⟩
        case round =>
          obtain ⟨wp, rfl⟩ : ∃ x, x = wr := ⟨_, rfl⟩
          obtain ⟨v, rfl⟩ : ∃ x, x = u6 := ⟨_, rfl⟩
          obtain ⟨j, a, hj, rfl, rfl, hA, hV, hb3⟩ := hrel
          have hb3' : Hid (Below w3.heap.size w3 wp) := hide (by rw [HL.out]; exact hb3.out)
          have hal9 : a.1.length ≤ 3000 := by
            have := stepR_len n (I.take j) ([], false)
            rw [hA.out, List.length_take] at this
            simp only [List.length_nil] at this
            omega
          have n2 : wp.cell? ⟨bX, 2, none⟩ = some (.int .i64 n) := (HV.out.below' hb3'.out).cell 2
          by_cases hlt2 : j < I.length
          · obtain ⟨y, hy⟩ : ∃ y, I[j]? = some y := ⟨_, List.getElem?_eq_getElem hlt2⟩
            obtain ⟨b2, o2, e2, hb2, hc2⟩ := (hO.out.rd.below' hb3'.out).toV.at j (.int .i64 y) (by rw [List.getElem?_map, hy]; rfl)
            subst e2
            have cy : wp.cell? ⟨b2, o2 + j, none⟩ = some (.int .i64 y) := hc2
            have HNXj : Hid ((I.take (j + 1)).foldl (stepR n) ([], false) = stepR n a y) := hide (by
              rw [List.take_succ_eq_append_getElem hlt2, List.foldl_append, hA.out, show I[j] = y by rw [List.getElem?_eq_getElem hlt2] at hy; injection hy]
              rfl)
            have HJ2 := hide hlt2
            clear hy hb2 hc2
            obtain ⟨l, d⟩ := a
            simp only at hal9 hV ⊢
            have hV0 : Hid (Own wp L 3 .i64 v l) := hV
            clear hV
            have HB3 := hb3
            clear hb3
            by_cases hyx : y = n
            · subst hyx
              have gy : (y != y) = false := by simp
              cases d with
              | true =>
                have hst : Hid (stepR y (l, true) y = (l, true)) := hide (by simp [stepR])
                go_wp2_with fail
                go_roundw
                case rel => exact ⟨j + 1, (l, true), by have := HJ2.out; omega, by go_num, rfl, hide (by rw [HNXj.out, hst.out]), hV0, HB3⟩
                case measure => have := HJ2.out; simp [intOf]; omega
              | false =>
                have gle : decide (y ≤ y) = true := by simp
                have hst : Hid (stepR y (l, false) y = (l ++ [y], true)) := hide (by simp [stepR])
                have hal : Below wp.heap.size wp (wp.alloc (.cells #[.int .i64 y] 3)) := (Below.refl _ _).alloc (Nat.le_refl _) _
                have HO5 := hide (hV0.out.below' hal)
                have hb6 : Hid (Below L w3 (wp.alloc (.cells #[.int .i64 y] 3))) := hide (HB3.out.trans (hal.mono (by have := HB3.out.size; have := HL.out; omega)))
                have hs5 : L ≤ (wp.alloc (.cells #[.int .i64 y] 3)).heap.size := by have := hb6.out.size; have := HL.out; omega
                clear hal
                go_wp2_with (refine wpList_append_rd _ rfl _ _ 23 rfl L 3 .i64 8 intsE9 _ _ rfl HO5.out _ [y] rfl (rd_one _ _ _) ?b0 ?b1 hs5 ?_)
                case b0 => have h1 : [y].length = 1 := rfl; omega
                case b1 => have h1 : [y].length = 1 := rfl; unfold maxLen; omega
                rintro v' w4 ho hg hbl -
                have HO6 : Hid (Own w4 L 3 .i64 v' (l ++ [y])) := hide ho
                have hb7 : Hid (Below L w3 w4) := hide (hb6.out.trans hbl)
                clear ho hg hbl hs5 hb6 HO5
                have n2' : w4.cell? ⟨bX, 2, none⟩ = some (.int .i64 y) := (HV.out.below' (by rw [HL.out]; exact hb7.out)).cell 2
                go_wp2_with fail
                go_roundw
                case rel => exact ⟨j + 1, (l ++ [y], true), by have := HJ2.out; omega, by go_num, rfl, hide (by rw [HNXj.out, hst.out]), HO6, hb7⟩
                case measure => have := HJ2.out; simp [intOf]; omega
            · have gy : (y != n) = true := by simpa using hyx
              cases d with
              | true =>
                have hst : Hid (stepR n (l, true) y = (l ++ [y], true)) := hide (by simp [stepR, hyx])
                clear hyx
                have hal : Below wp.heap.size wp (wp.alloc (.cells #[.int .i64 y] 3)) := (Below.refl _ _).alloc (Nat.le_refl _) _
                have HO5 := hide (hV0.out.below' hal)
                have hb6 : Hid (Below L w3 (wp.alloc (.cells #[.int .i64 y] 3))) := hide (HB3.out.trans (hal.mono (by have := HB3.out.size; have := HL.out; omega)))
                have hs5 : L ≤ (wp.alloc (.cells #[.int .i64 y] 3)).heap.size := by have := hb6.out.size; have := HL.out; omega
                clear hal
                go_wp2_with (refine wpList_append_rd _ rfl _ _ 23 rfl L 3 .i64 8 intsE9 _ _ rfl HO5.out _ [y] rfl (rd_one _ _ _) ?b0 ?b1 hs5 ?_)
                case b0 => have h1 : [y].length = 1 := rfl; omega
                case b1 => have h1 : [y].length = 1 := rfl; unfold maxLen; omega
                rintro v' w4 ho hg hbl -
                have HO6 : Hid (Own w4 L 3 .i64 v' (l ++ [y])) := hide ho
                have hb7 : Hid (Below L w3 w4) := hide (hb6.out.trans hbl)
                clear ho hg hbl hs5 hb6 HO5
                go_wp2_with fail
                go_roundw
                case rel => exact ⟨j + 1, (l ++ [y], true), by have := HJ2.out; omega, by go_num, rfl, hide (by rw [HNXj.out, hst.out]), HO6, hb7⟩
                case measure => have := HJ2.out; simp [intOf]; omega
              | false =>
                by_cases hle : n ≤ y
                · have gle : decide (n ≤ y) = true := by simpa using hle
                  have hst : Hid (stepR n (l, false) y = (l ++ [n] ++ [y], true)) := hide (by simp [stepR, hyx, hle])
                  clear hyx hle
                  have hal : Below wp.heap.size wp (wp.alloc (.cells #[.int .i64 n] 3)) := (Below.refl _ _).alloc (Nat.le_refl _) _
                  have HO5 := hide (hV0.out.below' hal)
                  have hb6 : Hid (Below L w3 (wp.alloc (.cells #[.int .i64 n] 3))) := hide (HB3.out.trans (hal.mono (by have := HB3.out.size; have := HL.out; omega)))
                  have hs5 : L ≤ (wp.alloc (.cells #[.int .i64 n] 3)).heap.size := by have := hb6.out.size; have := HL.out; omega
                  clear hal
                  go_wp2_with (refine wpList_append_rd _ rfl _ _ 23 rfl L 3 .i64 8 intsE9 _ _ rfl HO5.out _ [n] rfl (rd_one _ _ _) ?b0 ?b1 hs5 ?_)
                  case b0 => have h1 : [n].length = 1 := rfl; omega
                  case b1 => have h1 : [n].length = 1 := rfl; unfold maxLen; omega
                  rintro v' w4 ho hg hbl -
                  have HO6 : Hid (Own w4 L 3 .i64 v' (l ++ [n])) := hide ho
                  have hb7 : Hid (Below L w3 w4) := hide (hb6.out.trans hbl)
                  clear ho hg hbl hs5 hb6 HO5
                  have n2' : w4.cell? ⟨bX, 2, none⟩ = some (.int .i64 n) := (HV.out.below' (by rw [HL.out]; exact hb7.out)).cell 2
                  have HOa := HO6
                  have HBa := hb7
                  have hal9' : (l ++ [n]).length ≤ 3001 := by rw [List.length_append, List.length_singleton]; omega
                  replace HB3 := HBa
                  obtain ⟨l2, hl2⟩ : ∃ l2, l ++ [n] = l2 := ⟨_, rfl⟩
                  rw [hl2] at HOa hal9' hst
                  clear HO6 hb7 HBa hl2 n2 hV0
                  have hal : Below w4.heap.size w4 (w4.alloc (.cells #[.int .i64 y] 3)) := (Below.refl _ _).alloc (Nat.le_refl _) _
                  have HO5 := hide (HOa.out.below' hal)
                  have hb6 : Hid (Below L w3 (w4.alloc (.cells #[.int .i64 y] 3))) := hide (HB3.out.trans (hal.mono (by have := HB3.out.size; have := HL.out; omega)))
                  have hs5 : L ≤ (w4.alloc (.cells #[.int .i64 y] 3)).heap.size := by have := hb6.out.size; have := HL.out; omega
                  clear hal
                  go_wp2_with (refine wpList_append_rd _ rfl _ _ 23 rfl L 3 .i64 8 intsE9 _ _ rfl HO5.out _ [y] rfl (rd_one _ _ _) ?b0 ?b1 hs5 ?_)
                  case b0 => have h1 : [y].length = 1 := rfl; omega
                  case b1 => have h1 : [y].length = 1 := rfl; unfold maxLen; omega
                  rintro v' w5 ho hg hbl -
                  have HO6 : Hid (Own w5 L 3 .i64 v' (l2 ++ [y])) := hide ho
                  have hb7 : Hid (Below L w3 w5) := hide (hb6.out.trans hbl)
                  clear ho hg hbl hs5 hb6 HO5
                  go_wp2_with fail
                  go_roundw
                  case rel => exact ⟨j + 1, (l2 ++ [y], true), by have := HJ2.out; omega, by go_num, rfl, hide (by rw [HNXj.out, hst.out]), HO6, hb7⟩
                  case measure => have := HJ2.out; simp [intOf]; omega
                · have gle : decide (n ≤ y) = false := by simpa using hle
                  have hst : Hid (stepR n (l, false) y = (l ++ [y], false)) := hide (by simp [stepR, hyx, hle])
                  clear hyx hle
                  have hal : Below wp.heap.size wp (wp.alloc (.cells #[.int .i64 y] 3)) := (Below.refl _ _).alloc (Nat.le_refl _) _
                  have HO5 := hide (hV0.out.below' hal)
                  have hb6 : Hid (Below L w3 (wp.alloc (.cells #[.int .i64 y] 3))) := hide (HB3.out.trans (hal.mono (by have := HB3.out.size; have := HL.out; omega)))
                  have hs5 : L ≤ (wp.alloc (.cells #[.int .i64 y] 3)).heap.size := by have := hb6.out.size; have := HL.out; omega
                  clear hal
                  go_wp2_with (refine wpList_append_rd _ rfl _ _ 23 rfl L 3 .i64 8 intsE9 _ _ rfl HO5.out _ [y] rfl (rd_one _ _ _) ?b0 ?b1 hs5 ?_)
                  case b0 => have h1 : [y].length = 1 := rfl; omega
                  case b1 => have h1 : [y].length = 1 := rfl; unfold maxLen; omega
                  rintro v' w4 ho hg hbl -
                  have HO6 : Hid (Own w4 L 3 .i64 v' (l ++ [y])) := hide ho
                  have hb7 : Hid (Below L w3 w4) := hide (hb6.out.trans hbl)
                  clear ho hg hbl hs5 hb6 HO5
                  go_wp2_with fail
                  go_roundw
                  case rel => exact ⟨j + 1, (l ++ [y], false), by have := HJ2.out; omega, by go_num, rfl, hide (by rw [HNXj.out, hst.out]), HO6, hb7⟩
                  case measure => have := HJ2.out; simp [intOf]; omega
          · have hfin : Hid (finR n a = insR n I) := hide (by
              rw [← hA.out, List.take_of_length_le (by omega)]
              have := stepR_out n I []
              simpa using this)
            obtain ⟨l, d⟩ := a
            simp only at hal9 hV ⊢
            cases d with
            | true =>
              have hl : Hid (l = insR n I) := hide (by have := hfin.out; simpa [finR] using this)
              go_wp2_with fail
              go_roundw
              case rel => exact ⟨k + 1, by have := HJ.out; omega, by go_num, hide (by rw [HNX.out, ← hl.out]; exact hV.out.low9 (by have := HL.out; have := hb.out.size; omega)), hide (Below.all hb.out hb3'.out)⟩
              case measure => have := HJ.out; simp [intOf]; omega
            | false =>
              have hl : Hid (l ++ [n] = insR n I) := hide (by have := hfin.out; simpa [finR] using this)
              have HB3 := hb3
              clear hb3
              have hal : Below wp.heap.size wp (wp.alloc (.cells #[.int .i64 n] 3)) := (Below.refl _ _).alloc (Nat.le_refl _) _
              have HO5 := hide (hV.out.below' hal)
              have hb6 : Hid (Below L w3 (wp.alloc (.cells #[.int .i64 n] 3))) := hide (HB3.out.trans (hal.mono (by have := HB3.out.size; have := HL.out; omega)))
              have hs5 : L ≤ (wp.alloc (.cells #[.int .i64 n] 3)).heap.size := by have := hb6.out.size; have := HL.out; omega
              clear hal
              go_wp2_with (refine wpList_append_rd _ rfl _ _ 23 rfl L 3 .i64 8 intsE9 _ _ rfl HO5.out _ [n] rfl (rd_one _ _ _) ?b0 ?b1 hs5 ?_)
              case b0 => have h1 : [n].length = 1 := rfl; omega
              case b1 => have h1 : [n].length = 1 := rfl; unfold maxLen; omega
              rintro v' w4 ho hg hbl -
              have HO6 : Hid (Own w4 L 3 .i64 v' (l ++ [n])) := hide ho
              have hb7 : Hid (Below L w3 w4) := hide (hb6.out.trans hbl)
              clear ho hg hbl hs5 hb6 HO5
              go_wp2_with fail
              go_roundw
              case rel => exact ⟨k + 1, by have := HJ.out; omega, by go_num, hide (by rw [HNX.out, ← hl.out]; exact HO6.out.low9 (by have := HL.out; have := hb.out.size; omega)), hide (Below.all hb.out (by rw [HL.out]; exact hb7.out))⟩
              case measure => have := HJ.out; simp [intOf]; omega
      · have g4 : (op != 4) = true := by simpa using h4
        have HN4 := hide h4
        clear h4
        go_wp2_with fail
        go_roundw
        case rel => exact ⟨k + 1, by have := HJ.out; omega, by go_num, hide (by rw [insE_next HX.out, if_neg HN4.out]; exact hO.out), hb⟩
        case measure => have := HJ.out; simp [intOf]; omega
    · have hkl : e.take k = e := List.take_of_length_le (by omega)
      rw [hkl] at hO
      clear hkl
      go_wp2_with fail
      go_ret
      exact ⟨_, rfl, hO.out.rd, hb.out⟩
end Go.Proofs.YtnhaanjpcnnifaaDoor

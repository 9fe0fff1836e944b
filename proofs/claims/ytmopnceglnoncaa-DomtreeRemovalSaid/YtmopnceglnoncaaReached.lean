/-
  Layer 8 (domtree): the law's 'reached': what is reached without a node.
-/
import Derived.Test.YtmopnceglnoncaaDomM
import Derived.Test.YtmopnceglnoncaaTReach
import Derived.Test.YtmopnceglnoncaaTGrow
namespace Go.Proofs.Ytmopnceglnoncaa
open Go.RowKit

/-- The first i rows of the graph without a. -/
def cutTo (g : List (List Int)) (a i : Nat) : List (List Int) := (List.range i).map (cutRow g a)
theorem cutTo_succ (g : List (List Int)) (a i : Nat) : cutTo g a (i + 1) = cutTo g a i ++ [cutRow g a i] := by
  unfold cutTo; rw [List.range_succ, List.map_append]; rfl
theorem cutTo_len (g : List (List Int)) (a i : Nat) : (cutTo g a i).length = i := by simp [cutTo]
/-- Of row i, the first j successors that stay. -/
def cutPart (l : List Int) (a i j : Nat) : List Int := (l.take j).filter fun s => decide (i ≠ a ∧ s ≠ (a : Int))
theorem cutPart_succ {l : List Int} {j : Nat} {s : Int} (hs : l[j]? = some s) (a i : Nat) : cutPart l a i (j + 1) = cutPart l a i j ++ (if i ≠ a ∧ s ≠ (a : Int) then [s] else []) := by
  unfold cutPart
  rw [List.take_add_one, hs]
  simp only [Option.toList_some, List.filter_append, List.filter_cons, List.filter_nil, decide_eq_true_eq]
theorem cutPart_le (l : List Int) (a i j : Nat) : (cutPart l a i j).length ≤ l.length := by
  unfold cutPart
  exact Nat.le_trans (List.length_filter_le _ _) (by rw [List.length_take]; omega)
theorem cutPart_end {g : List (List Int)} {l : List Int} {i : Nat} (hl : g[i]? = some l) (a : Nat) {j : Nat} (hj : l.length ≤ j) : cutPart l a i j = cutRow g a i := by
  unfold cutPart cutRow
  rw [getD_of hl, List.take_of_length_le hj]
theorem row_le_edges {g : List (List Int)} : ∀ {i : Nat} {l : List Int}, g[i]? = some l → l.length ≤ edges g := by
  unfold edges
  induction g with
  | nil => intro i l h; simp at h
  | cons x g ih =>
    intro i l h
    rw [List.map_cons, List.sum_cons]
    cases i with
    | zero =>
      rw [List.getElem?_cons_zero] at h
      injection h with h
      subst h
      omega
    | succ i =>
      rw [List.getElem?_cons_succ] at h
      have := ih h
      omega
theorem cut_code {g : List (List Int)} (h : codeG g = 0) (a : Nat) : codeG (cutG g a) = 0 := by
  obtain ⟨h1, h2⟩ := code_ok h
  unfold codeG
  rw [cutG_len, if_neg (by omega), if_pos (cut_ok h1 a)]

set_option maxRecDepth 100000 in
set_option maxHeartbeats 8000000 in
theorem reached_any (A : Option Addr) (c : Nat) (g : List (List Int)) (e a : Nat) (w : World) (hg : RdL w A c g) (hok : codeG g = 0) (he : e < g.length) (hE : edges g ≤ 1000000) :
    Calls Try.prog 29 #[.agg #[.slice A g.length c], .int .i64 (e : Nat), .int .i64 (a : Nat)] w fun en w' => (∃ D, en = .returned (.slice (some ⟨D, 0, none⟩) g.length g.length) ∧ OwnV w' w.heap.size 4 (.slice (some ⟨D, 0, none⟩) g.length g.length) (bl g.length (fun i => decide (e ≠ a) && decide (i ∈ post (cutG g a) e)))) ∧ Below w.heap.size w w' := by
  obtain ⟨hokG, hN⟩ := code_ok hok
  have hc := hg.cap
  have hc9 : c ≤ 9223372036854775807 := by unfold maxLen at hc; omega
  obtain ⟨q, hq⟩ : ∃ q, w.heap.size = q := ⟨_, rfl⟩
  obtain ⟨w1, hw1⟩ : ∃ x, w.alloc (.cells #[.slice A g.length c] 24) = x := ⟨_, rfl⟩
  have hs1 : w1.heap.size = q + 1 := by rw [← hw1, World.size_alloc, hq]
  have hb1 : Below q w w1 := by rw [← hw1, ← hq]; exact (Below.refl _ _).alloc (Nat.le_refl _) _
  have hx1 : w1.cell? ⟨q, 0, none⟩ = some (.slice A g.length c) := by rw [← hw1, ← hq]; simp [go_sem]
  obtain ⟨w2, hw2⟩ : ∃ x, w1.alloc (.cells #[.slice none 0 0] 24) = x := ⟨_, rfl⟩
  have hs2 : w2.heap.size = q + 1 + 1 := by rw [← hw2, World.size_alloc, hs1]
  have hb12 : Below w1.heap.size w1 w2 := by rw [← hw2]; exact (Below.refl _ _).alloc (Nat.le_refl _) _
  have hb2 : Below q w w2 := hb1.trans (hb12.mono (by omega))
  have hW2 : Whole w2 (q + 1) 24 #[.slice none 0 0] := by rw [← hw2, ← hs1]; exact Whole.new w1 _ _
  have hy2 := hW2.cell 0
  have hf2 := hW2.free 0
  have he2 : w2.setCell ⟨q + 1, 0, none⟩ (.slice none 0 0) = w2 := by rw [← hw2, ← hs1]; simp [go_sem]
  have hx2 : w2.cell? ⟨q, 0, none⟩ = some (.slice A g.length c) := (hb12.cell (p := ⟨q, 0, none⟩) (lt_of_cell hx1)).trans hx1
  have HB2 := hide hb2
  have HG := hide hg
  have HW2 := hide hW2
  have HX2 := hide hx2
  have HS2 := hide hs2
  have HOK := hide (And.intro hok (And.intro hE he))
  clear hg hok hE hb1 hb12 hb2 hW2 hc hokG
  go_enter Try.func29, Try.ntmps29
  go_wp2_with fail
  clear hw1 hw2 hx1 hs1 hs2 hf2 he2
  go_loopw [18] (fun z wr => ∃ (i : Nat) (sv : Value) (R : List Value), i ≤ g.length ∧ z = .int .i64 (i : Nat) ∧ Hid (Whole wr (q + 1) 24 #[sv]) ∧ Hid (OwnG wr w2.heap.size sv R (cutTo g a i)) ∧ Hid (Frm w2 wr [q + 1])) (fun z _ => g.length - (intOf z).toNat)
  case atStart => exact ⟨0, .slice none 0 0, [], Nat.zero_le _, rfl, HW2, hide OwnG.nil, hide (Frm.refl _ _)⟩
  case round =>
    clear hy2 hx2
    obtain ⟨wq, rfl⟩ : ∃ x, x = wr := ⟨_, rfl⟩
    obtain ⟨i, sv, R, hi, rfl, HW, HO, HF⟩ := hrel
    have HBQ : Hid (Below q w wq) := hide (HB2.out.trans (HF.out.toBelow (fun x hx => by rw [List.mem_singleton.1 hx]; omega) (by have := HS2.out; omega)))
    have HSQ : Hid (q + 1 + 1 ≤ wq.heap.size) := hide (by have h1 := HF.out.size; have h2 := HS2.out; omega)
    have HGQ := hide (HG.out.below' (by rw [hq]; exact HBQ.out))
    by_cases hlt : i < g.length
    · obtain ⟨l, hl⟩ : ∃ l, g[i]? = some l := ⟨_, List.getElem?_eq_getElem hlt⟩
      have hlt' : (i : Int) < g.length := by omega
      obtain ⟨b, off, B, d, rfl, -, hcell, hrow⟩ := HGQ.out.at hl
      have HR := hide hrow
      obtain ⟨_, _, e3, hd, hm, -⟩ := hrow
      injection e3 with e3 e4 e5
      subst e3 e5
      have hd9 : d ≤ 9223372036854775807 := by unfold maxLen at hm; omega
      have HLE : Hid (l.length ≤ 1000000) := hide (by have := row_le_edges hl; have := HOK.out.2.1; omega)
      have HLg := hide hl
      clear hm hl e4
      go_wp2_with fail
      clear hcell
      go_loopw [25, 10] (fun z mv wr => ∃ j : Nat, j ≤ l.length ∧ z = .int .i64 (j : Nat) ∧ Hid (Own wr wq.heap.size 3 .i64 mv (cutPart l a i j)) ∧ Hid (Below wq.heap.size wq wr)) (fun z _ _ => l.length - (intOf z).toNat)
      case atStart => exact ⟨0, Nat.zero_le _, rfl, hide (by unfold cutPart; exact Own.nil), hide (Below.refl _ _)⟩
      case round =>
        obtain ⟨wp, rfl⟩ : ∃ x, x = wr := ⟨_, rfl⟩
        obtain ⟨j, hj, rfl, HM, HB⟩ := hrel
        by_cases hlj : j < l.length
        · have hlj' : (j : Int) < l.length := by omega
          obtain ⟨s, hs⟩ : ∃ s, l[j]? = some s := ⟨_, List.getElem?_eq_getElem hlj⟩
          obtain ⟨b2, off2, rfl, -, cx⟩ := rd_at (HR.out.below' HB.out) hs
          have HCS := hide (cutPart_succ hs a i)
          clear hs
          by_cases hia : i = a
          · have t1 : ((i : Int) != (a : Int)) = false := by rw [bne_eq_false_iff_eq]; omega
            have t1' : (i != a) = false := by rw [bne_eq_false_iff_eq]; exact hia
            have HM2 := HM
            have e0 := HCS.out
            rw [if_neg (fun h => h.1 hia), List.append_nil] at e0
            rw [← e0] at HM2
            clear hia e0 HM HCS
            go_wp2_with fail
            go_roundw
            case rel => exact ⟨j + 1, by omega, by go_num, HM2, HB⟩
            case measure => simp [intOf]; omega
          · have t1 : ((i : Int) != (a : Int)) = true := bne_iff_ne.2 (by omega)
            have t1' : (i != a) = true := bne_iff_ne.2 hia
            by_cases hsa : s = (a : Int)
            · have t2 : (s != (a : Int)) = false := by rw [bne_eq_false_iff_eq]; exact hsa
              have HM2 := HM
              have e0 := HCS.out
              rw [if_neg (fun h => h.2 hsa), List.append_nil] at e0
              rw [← e0] at HM2
              clear hia hsa e0 HM HCS
              go_wp2_with fail
              go_roundw
              case rel => exact ⟨j + 1, by omega, by go_num, HM2, HB⟩
              case measure => simp [intOf]; omega
            · have t2 : (s != (a : Int)) = true := bne_iff_ne.2 hsa
              obtain ⟨el, hel⟩ : ∃ el, cutPart l a i j = el := ⟨_, rfl⟩
              have hell : el.length ≤ 1000000 := by rw [← hel]; exact Nat.le_trans (cutPart_le l a i j) HLE.out
              have HEX := HCS.out
              rw [if_pos ⟨hia, hsa⟩, hel] at HEX
              have HEX := hide HEX
              rw [hel] at HM
              obtain ⟨Av, cv, rfl, hcv, hcm, -⟩ := HM.out.rd
              have hcv9 : cv ≤ 9223372036854775807 := by unfold maxLen at hcm; omega
              have hws := HB.out.size
              clear hia hsa HCS hcm hel
              go_wp2_with (refine wpList_append_rd _ rfl _ _ 28 rfl wq.heap.size 3 .i64 8 intE _ el rfl (HM.out.alloc _) _ [s] rfl (rd_one wp 3 s) ?b1 ?b2 ?b3 ?_)
              case b1 => rw [List.length_singleton]; omega
              case b2 => unfold maxLen; rw [List.length_singleton]; omega
              case b3 => rw [World.size_alloc]; omega
              intro v' w5 ho5 hg5 _ hb5
              rw [← HEX.out] at ho5
              have HO5 := hide ho5
              have HF5 : Hid (Below wq.heap.size wq w5) := hide (HB.out.trans ((((Frm.refl wp (Value.slice Av el.length cv).ownBlock.toList).alloc _).trans (Frm.grown hg5)).toBelow (fun g hg => (HM.out.size g (by simpa using hg)).1) hws))
              clear ho5 hg5 hb5
              go_wp2_with fail
              go_roundw
              case rel => exact ⟨j + 1, by omega, by go_num, HO5, HF5⟩
              case measure => simp [intOf]; omega
        · obtain rfl : j = l.length := by omega
          have hmo := HM.out
          rw [cutPart_end HLg.out a (Nat.le_refl _)] at hmo
          have HMO := hide hmo
          obtain ⟨Am, cm, rfl, hcm, hcmm, -⟩ := hmo.rd
          have hcm9 : cm ≤ 9223372036854775807 := by unfold maxLen at hcmm; omega
          obtain ⟨rw_, hrw⟩ : ∃ r, cutRow g a i = r := ⟨_, rfl⟩
          rw [hrw] at hcm HMO hmo ⊢
          obtain ⟨A2, c2, rfl, hc2, hc2m⟩ := HO.out.form
          rw [cutTo_len] at hc2
          have HO' := HO
          rw [cutTo_len] at HO'
          rw [cutTo_len] at HW
          have hc29 : c2 ≤ 9223372036854775807 := by unfold maxLen at hc2m; omega
          have hRl : R.length = i := by rw [HO.out.len, cutTo_len]
          have hWp := HW.out.below' HB.out
          have cy : wp.cell? ⟨q + 1, 0, none⟩ = some (.slice A2 i c2) := hWp.cell 0
          have HWP := hide hWp
          have hws : wq.heap.size ≤ wp.heap.size := HB.out.size
          have HOP := hide (HO'.out.frm (Frm.below HB.out))
          have hsq := HSQ.out
          have hs2 := HS2.out
          have hfq := HF.out.size
          clear hmo hcmm hc2m hWp HO HM
          go_wp2_with (first | (refine wpList_append_v _ rfl _ _ 22 rfl w2.heap.size 28 (.slice none 0 0) 24 ⟨Try.underlying22, rfl, info_parts infoInts⟩ _ R rfl (HOP.out.own.alloc _) _ [.slice Am rw_.length cm] rfl (rdv_one wp 28 _) ?b0 ?b1 ?b2 ?b3 ?_))
          case b0 => first | rfl | (intro y hy; rw [List.mem_singleton.1 hy]; rfl)
          case b1 => (try simp only [List.length_singleton]); omega
          case b2 => unfold maxLen; (try simp only [List.length_singleton]); omega
          case b3 => (try rw [World.size_alloc]); omega
          intro v' w8 ho8 hf8 hb8
          replace ho8 : OwnV w8 w2.heap.size 28 v' (R ++ [.slice Am rw_.length cm]) := by rw [HS2.out]; exact ho8
          have hVb : ∀ x, (Value.slice Am rw_.length cm).ownBlock = some x → wq.heap.size ≤ x := fun x hx => (HMO.out.size x hx).1
          have hG8 := (HOP.out.frm ((Frm.refl wp []).alloc (.cells #[.slice Am rw_.length cm] 28))).add (v := .slice Am rw_.length cm) (l := rw_) hf8 ho8 ((HMO.out.low (b := w2.heap.size) (by omega)).alloc _) (hb8.imp id (fun h x hx => by rw [h] at hx; injection hx with hx; first | exact Nat.le_of_eq hx | (rw [World.size_alloc]; omega)))
            (fun x hx hc => by have h1 := (HO'.out.own.size x hc).2; have h2 := hVb x hx; omega)
            (fun k u x hk hu hc => by
              obtain ⟨lk, hlk⟩ : ∃ l, (cutTo g a i)[k]? = some l := ⟨_, List.getElem?_eq_getElem (by rw [← HO'.out.len]; exact (List.getElem?_eq_some_iff.1 hk).1)⟩
              have h1 := ((HO'.out.row k u lk hk hlk).size x hu).2
              have h2 := hVb x hc
              omega)
          have hF8 : Frm w2 w8 [q + 1] := ((HF.out.trans (Frm.below HB.out)).alloc _).trans' hf8 (fun x hx => .inr (HO'.out.own.size x (by simpa using hx)).1)
          have hW8 : Whole w8 (q + 1) 24 #[.slice A2 i c2] := (HWP.out.alloc _).frm hf8 (fun hx => by have := (HO'.out.own.size (q + 1) (by simpa using hx)).1; omega)
          have hSV := hW8.set 0 v'
          rw [show (#[Value.slice A2 i c2] : Array Value).setIfInBounds 0 v' = #[v'] by simp] at hSV
          have fy := hW8.free 0
          have cy8 := hW8.cell 0
          have hG9 := hG8.far ((Frm.refl w8 [q + 1]).setCell ⟨q + 1, 0, none⟩ v' (.inl (by simp))) (fun x hx => by rw [List.mem_singleton.1 hx]; omega)
          have hF9 := hF8.setCell ⟨q + 1, 0, none⟩ v' (.inl (by simp))
          rw [← hrw, ← cutTo_succ] at hG9
          obtain ⟨A8, c8, e8, -, -⟩ := hG9.form
          rw [cutTo_len] at e8
          subst e8
          have HZ := hide (And.intro hSV (And.intro hG9 hF9))
          clear hVb hG8 hF8 hW8 hSV hG9 hF9 ho8 hf8 hb8 cy
          go_wp2_with fail
          go_roundw
          case rel => exact ⟨i + 1, _, R ++ [_], by omega, by go_num, hide HZ.out.1, hide HZ.out.2.1, hide HZ.out.2.2⟩
          case measure => simp [intOf]; omega
    · obtain rfl : i = g.length := by omega
      obtain ⟨A2, c2, rfl, hc2, hc2m⟩ := HO.out.form
      have hrd := HO.out.rd.1
      rw [cutTo_len] at hc2 HW
      have hc29 : c2 ≤ 9223372036854775807 := by unfold maxLen at hc2m; omega
      have hcg : cutTo g a g.length = cutG g a := rfl
      rw [hcg] at hrd
      have cy : wq.cell? ⟨q + 1, 0, none⟩ = some (.slice A2 g.length c2) := HW.out.cell 0
      have cx : wq.cell? ⟨q, 0, none⟩ = some (.slice A g.length c) := (HF.out.cell (p := ⟨q, 0, none⟩) (by show q < _; have := HS2.out; omega) (by simp)).trans HX2.out
      have hrr := rreach_any A2 c2 (cutG g a) e wq hrd (cut_code HOK.out.1 a) (by rw [cutG_len]; exact he)
      rw [cutG_len] at hrr
      have HRR := hide hrr
      clear hrd hc2m hrr hcg HO
      go_wp2_with fail
      refine HRR.out.mono ?_
      rintro en w5 ⟨⟨D, rfl, hD⟩, hb5⟩
      have HB5 : Hid (Below q w w5) := hide (HBQ.out.trans (hb5.mono (by have := HSQ.out; omega)))
      have cx5 := (hb5.cell (p := ⟨q, 0, none⟩) (lt_of_cell cx)).trans cx
      have HD := hide (hD.low (b := q) (by have := HSQ.out; omega))
      have hq5 : q ≤ w5.heap.size := by have := HSQ.out; have := hb5.size; omega
      clear hD hb5 HRR
      by_cases hea : e = a
      · have t1 : ((e : Int) == (a : Int)) = true := by rw [beq_iff_eq]; omega
        have t1' : (e == a) = true := by rw [beq_iff_eq]; exact hea
        have hmk := run_made w5 39 4 (.bool false) 1 Try.underlying39 infoBool rfl (by omega) g.length (by omega)
        obtain ⟨w6, h6⟩ : ∃ x, w5.alloc (.cells (madeCells #[.bool false] g.length) 4) = x := ⟨_, rfl⟩
        have h7 : OwnV w6 w5.heap.size 4 (.slice (some ⟨w5.heap.size, 0, none⟩) g.length g.length) (bl g.length (fun i => decide (e ≠ a) && decide (i ∈ post (cutG g a) e))) := by
          rw [bl_congr (h := fun _ => false) (fun i _ => by rw [decide_eq_false (fun h => h hea)]; rfl), bl_false, ← h6]
          exact own_madeV w5 4 (.bool false) g.length w5.heap.size (by unfold maxLen; omega) (Nat.le_refl _)
        have h8 : Below q w w6 := by rw [← h6]; exact HB5.out.alloc hq5 _
        have HZ := hide (And.intro (h7.low hq5) h8)
        clear h7 h8 hea
        go_wp2_with fail
        go_ret
        rw [hq]
        exact ⟨⟨_, rfl, HZ.out.1⟩, HZ.out.2⟩
      · have t1 : ((e : Int) == (a : Int)) = false := beq_eq_false_iff_ne.2 (by omega)
        have t1' : (e == a) = false := beq_eq_false_iff_ne.2 hea
        have h7 := HD.out
        rw [bl_congr (h := fun i => decide (e ≠ a) && decide (i ∈ post (cutG g a) e)) (fun i _ => by rw [decide_eq_true hea, Bool.true_and])] at h7
        have HZ := hide (And.intro h7 HB5.out)
        clear h7 hea
        go_wp2_with fail
        go_ret
        rw [hq]
        exact ⟨⟨_, rfl, HZ.out.1⟩, HZ.out.2⟩
end Go.Proofs.Ytmopnceglnoncaa

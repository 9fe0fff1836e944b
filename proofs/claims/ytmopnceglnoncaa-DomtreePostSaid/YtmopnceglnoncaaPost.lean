/-
  Layer 8 (domtree): PostDominators.
-/
import Derived.Test.YtmopnceglnoncaaDomM
namespace Go.Proofs.Ytmopnceglnoncaa
open Go.RowKit

/-- Of the first i nodes, those without successors. -/
def exTo (g : List (List Int)) (i : Nat) : List Nat := (List.range i).filter fun x => decide (g.getD x [] = [])
theorem exTo_succ (g : List (List Int)) (i : Nat) : exTo g (i + 1) = exTo g i ++ (if g.getD i [] = [] then [i] else []) := by
  unfold exTo
  rw [List.range_succ, List.filter_append]
  congr 1
  by_cases h : g.getD i [] = []
  · rw [if_pos h]; simp only [List.filter_cons, List.filter_nil, h, decide_true, if_true]
  · rw [if_neg h]; simp only [List.filter_cons, List.filter_nil, h, decide_false]; rfl
theorem exTo_len (g : List (List Int)) (i : Nat) : (exTo g i).length ≤ i := by
  unfold exTo
  have := List.length_filter_le (fun x => decide (g.getD x [] = [])) (List.range i)
  rwa [List.length_range] at this
/-- The reversed graph with one node more. -/
def pg (g : List (List Int)) : List (List Int) := rev g ++ [ints (exTo g g.length)]

set_option maxRecDepth 100000 in
set_option maxHeartbeats 8000000 in
theorem post_any (A : Option Addr) (c : Nat) (g : List (List Int)) (w : World) (hg : RdL w A c g) (hok : codeG g = 0) (hE : edges g ≤ 1000000) (hok' : codeG (pg g) = 0) (hE' : edges (pg g) ≤ 1000000) :
    Calls Try.prog 14 #[.agg #[.slice A g.length c]] w fun en w' => ∃ D L P dm, en = .returned (.slice (some ⟨D, 0, none⟩) (g.length + 1) (g.length + 1)) ∧ Bt (pg g) g.length L P dm ∧ Own w' w.heap.size 3 .i64 (.slice (some ⟨D, 0, none⟩) (g.length + 1) (g.length + 1)) (fz (g.length + 1) (bf L dm)) ∧ Below w.heap.size w w' := by
  obtain ⟨hokG, hN⟩ := code_ok hok
  have hc := hg.cap
  have hc9 : c ≤ 9223372036854775807 := by unfold maxLen at hc; omega
  obtain ⟨q, hq⟩ : ∃ q, w.heap.size = q := ⟨_, rfl⟩
  obtain ⟨w1, hw1⟩ : ∃ x, w.alloc (.cells #[.slice A g.length c] 24) = x := ⟨_, rfl⟩
  have hs1 : w1.heap.size = q + 1 := by rw [← hw1, World.size_alloc, hq]
  have hb1 : Below q w w1 := by rw [← hw1, ← hq]; exact (Below.refl _ _).alloc (Nat.le_refl _) _
  have hx1 : w1.cell? ⟨q, 0, none⟩ = some (.slice A g.length c) := by rw [← hw1, ← hq]; simp [go_sem]
  have hck := check_any A c g w1 (hg.below' (by rw [hq]; exact hb1))
  rw [hok] at hck
  have HK := hide hck
  have HB1 := hide hb1
  have HG := hide hg
  have HOK := hide (And.intro hok (And.intro hE (And.intro hok' hE')))
  clear hg hok hE hok' hE' hck hb1 hc
  go_enter Try.func14, Try.ntmps14
  go_wp2_with fail
  refine HK.out.mono ?_
  rintro en w2 ⟨rfl, hb2⟩
  have hx2 := (hb2.cell (p := ⟨q, 0, none⟩) (lt_of_cell hx1)).trans hx1
  have HB2 : Hid (Below q w w2) := hide (HB1.out.trans (hb2.mono (by omega)))
  have HX2 := hide hx2
  have HS2 : Hid (q + 1 ≤ w2.heap.size) := hide (by rw [← hs1]; exact hb2.size)
  clear hw1 hs1 hb2 HK HB1 hx1
  go_wp2_with fail
  have HE0 : Hid (Own w2 w2.heap.size 3 .i64 (.slice none 0 0) (ints (exTo g 0))) := hide Own.nil
  go_loopw [13, 3] (fun z y wr => ∃ i : Nat, i ≤ g.length ∧ z = .int .i64 (i : Nat) ∧ Hid (Own wr w2.heap.size 3 .i64 y (ints (exTo g i))) ∧ Hid (Below w2.heap.size w2 wr)) (fun z _ _ => g.length - (intOf z).toNat)
  case atStart => exact ⟨0, Nat.zero_le _, rfl, HE0, hide (Below.refl _ _)⟩
  case round =>
    clear HE0 hx2
    obtain ⟨wq, rfl⟩ : ∃ x, x = wr := ⟨_, rfl⟩
    obtain ⟨i, hi, rfl, HO, HF⟩ := hrel
    by_cases hlt : i < g.length
    · have hlt' : (i : Int) < g.length := by omega
      obtain ⟨l, hl⟩ : ∃ l, g[i]? = some l := ⟨_, List.getElem?_eq_getElem hlt⟩
      have hgl : g.getD i [] = l := by rw [List.getD_eq_getElem?_getD, hl]; rfl
      obtain ⟨b, o, B, d, rfl, -, c1, hrow⟩ := (HG.out.below' (by rw [hq]; exact HB2.out.trans (HF.out.mono (by have := HS2.out; omega)))).at hl
      by_cases h0 : l = []
      · subst h0
        obtain ⟨Av, cv, rfl, hcv, hcm, -⟩ := HO.out.rd
        rw [ints_len] at hcv
        have hcv9 : cv ≤ 9223372036854775807 := by unfold maxLen at hcm; omega
        have hel := exTo_len g i
        have HEX : Hid (ints (exTo g i) ++ [(i : Int)] = ints (exTo g (i + 1))) := hide (by rw [exTo_succ, if_pos hgl, ints_snoc])
        have t1 : ((([] : List Int).length : Int) == 0) = true := by simp
        have hws : w2.heap.size ≤ wq.heap.size := HF.out.size
        obtain ⟨el, hel2⟩ : ∃ el, (exTo g i).length = el := ⟨_, rfl⟩
        rw [hel2] at hel hcv
        rw [ints_len, hel2]
        have HEL := hide hel2
        clear hgl hcm hel2 hl hrow
        go_wp2_with (refine wpList_append_rd _ rfl _ _ 28 rfl w2.heap.size 3 .i64 8 intE _ (ints (exTo g i)) (by rw [ints_len, HEL.out]; rfl) (HO.out.alloc _) _ [(i : Int)] rfl (rd_one wq 3 (i : Int)) ?b1 ?b2 ?b3 ?_)
        case b1 => rw [ints_len, HEL.out, List.length_singleton]; omega
        case b2 => unfold maxLen; rw [ints_len, HEL.out, List.length_singleton]; omega
        case b3 => rw [World.size_alloc]; omega
        intro v' w5 ho5 hg5 _ hb5
        rw [HEX.out] at ho5
        have HO5 := hide ho5
        have HF5 : Hid (Below w2.heap.size w2 w5) := hide (HF.out.trans ((((Frm.refl wq (Value.slice Av (ints (exTo g i)).length cv).ownBlock.toList).alloc _).trans (Frm.grown hg5)).toBelow (fun g hg => (HO.out.size g (by simpa using hg)).1) hws))
        clear ho5 hg5 hb5
        go_wp2_with fail
        go_roundw
        case rel => exact ⟨i + 1, by omega, by go_num, HO5, HF5⟩
        case measure => simp [intOf]; omega
      · have t1 : ((l.length : Int) == 0) = false := by
          have : l.length ≠ 0 := fun e => h0 (List.length_eq_zero_iff.1 e)
          simp; omega
        have t2 : (l.length == 0) = false := by
          have : l.length ≠ 0 := fun e => h0 (List.length_eq_zero_iff.1 e)
          simpa using this
        have t3 : l.length ≠ 0 := fun e => h0 (List.length_eq_zero_iff.1 e)
        have HE2 := HO
        rw [show exTo g i = exTo g (i + 1) by rw [exTo_succ, if_neg (by rw [hgl]; exact h0), List.append_nil]] at HE2
        clear hgl hl hrow HO
        go_wp2_with fail
        go_roundw
        case rel => exact ⟨i + 1, by omega, by go_num, HE2, HF⟩
        case measure => simp [intOf]; omega
    · obtain rfl : i = g.length := by omega
      have hx3 : wq.cell? ⟨q, 0, none⟩ = some (.slice A g.length c) := (HF.out.cell (p := ⟨q, 0, none⟩) (lt_of_cell HX2.out)).trans HX2.out
      have HBQ : Hid (Below q w wq) := hide (HB2.out.trans (HF.out.mono (by have := HS2.out; omega)))
      have HRV := hide (reverse_any A c g wq (HG.out.below' (by rw [hq]; exact HBQ.out)) HOK.out.1 HOK.out.2.1)
      obtain ⟨Av, cv, rfl, hcv, hcm, -⟩ := HO.out.rd
      rw [ints_len] at hcv
      rw [ints_len]
      clear hcm
      have hfld := run_field
      obtain ⟨el, hel⟩ : ∃ el, (exTo g g.length).length = el := ⟨_, rfl⟩
      have HEL := hide hel
      have hell : el ≤ g.length := by rw [← hel]; exact exTo_len g g.length
      rw [hel] at hcv
      rw [hel]
      clear hel HX2
      have HQW : Hid (q + 1 ≤ wq.heap.size) := hide (by have := HS2.out; have := HF.out.size; omega)
      go_wp2_with (go_at_call 36; refine HRV.out.mono ?_; rintro en w6 ⟨D, rfl, ⟨R, hR⟩, hb6⟩)
      have hRl : R.length = g.length := by rw [hR.len, rev_len]
      have hDl := hR.lt
      have HEQ := HO
      rw [ints_len, HEL.out] at HEQ
      have HE6 := hide (HEQ.out.below' hb6)
      have HB6 : Hid (Below q w w6) := hide (HBQ.out.trans (hb6.mono (by have := HQW.out; omega)))
      have cq6 : w6.cell? ⟨q, 0, none⟩ = some (.slice A g.length c) := (hb6.cell (p := ⟨q, 0, none⟩) (lt_of_cell hx3)).trans hx3
      have HR := hide hR
      have hqD : q + 1 ≤ D := by have := HQW.out; omega
      obtain ⟨wp, hwp⟩ : ∃ x, x = w6.alloc (.cells #[.slice Av el cv] 28) := ⟨_, rfl⟩
      have hsp : wp.heap.size = w6.heap.size + 1 := by rw [hwp, World.size_alloc]
      have hfp : Frm w6 wp [] := by rw [hwp]; exact (Frm.refl w6 []).alloc _
      have hO2 : OwnV wp wq.heap.size 28 (.slice (some ⟨D, 0, none⟩) g.length g.length) R := by have := hR.own.frm hfp (fun _ _ => by simp); rwa [hRl] at this
      have HO2 := hide hO2
      have HAFT : Hid (∀ v' w5, OwnV w5 wq.heap.size 28 v' (R ++ [.slice Av el cv]) → Frm wp w5 [D] → ∃ A5 c5, v' = .slice A5 (g.length + 1) c5 ∧ w5.cell? ⟨q, 0, none⟩ = some (.slice A g.length c) ∧ Hid (RdL w5 A5 c5 (pg g) ∧ Below q w w5)) := hide (by
        intro v' w5 ho5 hf5
        have hf6 : Frm w6 w5 [D] := (hfp.mono (fun g hg => (by cases hg))).trans hf5
        have hrd := ho5.rd
        obtain ⟨A5, c5, e9, h1, h2, h3⟩ := hrd
        have el1 : (R ++ [Value.slice Av el cv]).length = g.length + 1 := by rw [List.length_append, hRl, List.length_singleton]
        have hpl : (pg g).length = g.length + 1 := by unfold pg; rw [List.length_append, rev_len, List.length_singleton]
        rw [el1] at e9
        subst e9
        refine ⟨A5, c5, rfl, (hf6.cell (p := ⟨q, 0, none⟩) (by show q < _; have := HB6.out.size; omega) (by simp; omega)).trans cq6, hide ⟨⟨R ++ [Value.slice Av el cv], by rw [el1, hpl], by rw [hpl]; exact ho5.rd, fun i l hi => ?_⟩, HB6.out.trans (hf6.toBelow (fun x hx => by rw [List.mem_singleton.1 hx]; omega) (by have := HB6.out.size; omega))⟩⟩
        by_cases hin : i < g.length
        · have hil : (rev g)[i]? = some l := by unfold pg at hi; rwa [List.getElem?_append_left (by rw [rev_len]; exact hin)] at hi
          obtain ⟨v, hv⟩ : ∃ v, R[i]? = some v := ⟨_, List.getElem?_eq_getElem (by omega)⟩
          have hrow := ((HR.out.row i v l hv hil).frmS hf6 (fun g' hg' hm => HR.out.apart i v hv (by rw [← List.mem_singleton.1 hm]; exact hg'))).rd
          obtain ⟨B, d, rfl, -, -, -⟩ := hrow
          exact ⟨B, d, by rw [List.getElem?_append_left (by omega)]; exact hv, ((HR.out.row i _ l hv hil).frmS hf6 (fun g' hg' hm => HR.out.apart i _ hv (by rw [← List.mem_singleton.1 hm]; exact hg'))).rd⟩
        · have hii : i = g.length := by
            have := (List.getElem?_eq_some_iff.1 hi).1
            omega
          subst hii
          have hil : l = ints (exTo g g.length) := by
            unfold pg at hi
            rw [List.getElem?_append_right (by rw [rev_len]; exact Nat.le_refl _), rev_len, Nat.sub_self] at hi
            simpa using hi.symm
          subst hil
          have h9 := (HE6.out.frmS hf6 (fun g' hg' hm => by have := (HEQ.out.size g' hg').2; rw [List.mem_singleton.1 hm] at this; omega)).rd
          refine ⟨Av, cv, ?_, by rw [ints_len, HEL.out]; exact h9⟩
          rw [List.getElem?_append_right (by omega), hRl, Nat.sub_self, ints_len, HEL.out]; rfl)
      have cqp : wp.cell? ⟨q, 0, none⟩ = some (.slice A g.length c) := (hfp.cell (p := ⟨q, 0, none⟩) (by show q < _; omega) (by simp)).trans cq6
      have hone : ∀ x ∈ [Value.slice Av el cv], x.oneCell' = true := by intro x hx; rw [List.mem_singleton] at hx; subst hx; rfl
      have hby : (R.length + [Value.slice Av el cv].length) * 24 ≤ 140737488355328 := by rw [hRl, List.length_singleton]; omega
      have hml : R.length + [Value.slice Av el cv].length ≤ maxLen := by rw [hRl, List.length_singleton]; unfold maxLen; omega
      have hB2 : wq.heap.size ≤ wp.heap.size := by omega
      subst hwp
      clear hR hb6 hRl hO2 hfp
      have hpgl : (pg g).length = g.length + 1 := by unfold pg; rw [List.length_append, rev_len, List.length_singleton]
      have HPL := hide hpgl
      have cc := cq6
      clear hpgl hx3 hfld
      go_wp2_with fail
      go_region_held3 (fun w' => w'.cell? ⟨q, 0, none⟩ = some (.slice A g.length c)) (first | exact cc | exact cq6 | exact cqp) (first | (refine step_append_v rfl (.tmp 29) (.tmp 31) 22 rfl wq.heap.size 28 (.slice none 0 0) 24 ⟨Try.underlying22, rfl, info_parts infoInts⟩ (.slice (some ⟨D, 0, none⟩) g.length g.length) R (by simp [Act.eval]) HO2.out (.slice (some ⟨w6.heap.size, 0, none⟩) 1 1) [.slice Av el cv] (by simp [Act.eval]) (rdv_one_drew _ _ _) hone hby hml hB2 ?_; intro v' w5 ho5 hf5 hb5; obtain ⟨A5, c5, rfl, c6, HP⟩ := HAFT.out v' w5 ho5 ((Frm.drew _ _).trans hf5); replace cc := c6; clear ho5 hf5 hb5 c6) | (go_at_call 12; have hbd := build_any A5 c5 (pg g) g.length w5 HP.out.1 HOK.out.2.2.1 (by rw [HPL.out]; omega) HOK.out.2.2.2; rw [HPL.out] at hbd; refine hbd.mono ?_; rintro en w7 ⟨D7, L, P, dm, rfl, g1, g2, g3, g4, g5⟩; have HZ := hide (And.intro (Bt.mk g1 g2 g3) (And.intro (g4.low (b := q) (by have := HP.out.2.size; omega)) (HP.out.2.trans (g5.mono (by have := HP.out.2.size; omega))))); replace cc := (g5.cell (p := ⟨q, 0, none⟩) (lt_of_cell cc)).trans cc; clear g1 g2 g3 g4 g5 hbd))
      all_goals
        clear cc cqp cq6
        go_wp2_with fail
        go_ret
        rw [hq]
        exact ⟨D7, L, P, dm, rfl, HZ.out.1, HZ.out.2.1, HZ.out.2.2⟩
end Go.Proofs.Ytmopnceglnoncaa

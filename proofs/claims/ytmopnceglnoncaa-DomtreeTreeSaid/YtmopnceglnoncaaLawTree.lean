/-
  Layer 8 (domtree): the law DomtreeTree.
-/
import Derived.Test.YtmopnceglnoncaaDomAt
import Derived.Test.YtmopnceglnoncaaWorks
import Derived.Test.YtmopnceglnoncaaLarge8
import Derived.Test.YtmopnceglnoncaaTReach
import Derived.Test.YtmopnceglnoncaaTEqB
namespace Go.Proofs.Ytmopnceglnoncaa
open Go.RowKit

section
variable {g : List (List Int)} {e : Nat} {L P : List Nat} {dm : Nat → Nat}
theorem Bt.mem_order (B : Bt g e L P dm) {i : Nat} (hi : i < g.length) : decide (i ∈ pre (bf L dm) g.length (bd L dm) e) = decide (i ∈ L) := by
  have T := B.tree
  rw [decide_eq_decide, T.mem_pre _ e rfl T.rlt T.rin i]
  constructor
  · rintro ⟨_, h, _⟩; exact (Bt.in_ i).1 h
  · intro h; exact ⟨hi, (Bt.in_ i).2 h, T.rootmem _ i rfl hi ((Bt.in_ i).2 h)⟩
/-- The order, place by place. -/
theorem Bt.order_at (B : Bt g e L P dm) {Q : List Nat} (hQ : pre (bf L dm) g.length (bd L dm) e = Q) {k x : Nat} (hk : Q[k]? = some x) : x < g.length ∧ x ∈ L ∧ x ∉ Q.take k ∧ Q.take (k + 1) = Q.take k ++ [x] ∧ (x ≠ e → ∃ u : Nat, bf L dm x = (u : Int) ∧ u < g.length ∧ u ∈ Q.take k) := by
  have T := B.tree
  have hm : x ∈ pre (bf L dm) g.length (bd L dm) e := by rw [hQ]; exact List.mem_of_getElem? hk
  obtain ⟨h1, h2, _⟩ := (T.mem_pre _ e rfl T.rlt T.rin x).1 hm
  have hkl := (List.getElem?_eq_some_iff.1 hk).1
  have ht : Q.take (k + 1) = Q.take k ++ [x] := by rw [List.take_add_one, hk]; rfl
  have hsp : Q = Q.take k ++ x :: Q.drop (k + 1) := by
    have := (List.take_append_drop (k + 1) Q).symm
    rw [ht, List.append_assoc] at this
    exact this
  have hnd := T.nodup_pre _ e rfl T.rlt T.rin
  rw [hQ, hsp] at hnd
  refine ⟨h1, (Bt.in_ x).1 h2, fun h => (List.nodup_append.1 hnd).2.2 x h x (by simp) rfl, ht, fun hne => ?_⟩
  obtain ⟨u, h3, h4⟩ := T.before _ e rfl T.rlt T.rin (Q.take k) x (Q.drop (k + 1)) (by rw [hQ]; exact hsp) hne
  have hu : u ∈ pre (bf L dm) g.length (bd L dm) e := by rw [hQ]; exact List.mem_of_mem_take h4
  exact ⟨u, h3, ((T.mem_pre _ e rfl T.rlt T.rin u).1 hu).1, h4⟩
theorem Bt.order_len (B : Bt g e L P dm) {Q : List Nat} (hQ : pre (bf L dm) g.length (bd L dm) e = Q) : Q.length ≤ g.length ∧ Q[0]? = some e := by
  have T := B.tree
  rw [← hQ]
  exact ⟨T.pre_len T.rlt T.rin, by rw [T.pre_eq T.rlt T.rin]; rfl⟩
end

set_option maxRecDepth 100000 in
set_option maxHeartbeats 8000000 in
theorem lawTree (A : Option Addr) (c : Nat) (g : List (List Int)) (w : World) (hg : RdL w A c g) (e : Int) :
    Calls Try.prog 7 #[.agg #[.slice A g.length c], .int .i64 e] w (LawDone w) := by
  have hc := hg.cap
  have hc9 : c ≤ 9223372036854775807 := by unfold maxLen at hc; omega
  obtain ⟨w1, hw1⟩ : ∃ x, w.alloc (.cells #[.slice A g.length c] 24) = x := ⟨_, rfl⟩
  have hb1 : Below w.heap.size w w1 := by rw [← hw1]; exact (Below.refl _ _).alloc (Nat.le_refl _) _
  have HB1 := hide hb1
  have HG1 := hide (hg.below' hb1)
  have hx1 : w1.cell? ⟨w.heap.size, 0, none⟩ = some (.slice A g.length c) := by rw [← hw1]; simp [go_sem]
  have HK := hide (large_any A c g w1 HG1.out)
  clear hg hb1 hc
  go_enter Try.func7, Try.ntmps7
  go_wp2_with fail
  refine HK.out.mono ?_
  rintro en w2 ⟨rfl, hb2⟩
  have HB2 : Hid (Below w.heap.size w w2) := hide (HB1.out.trans (hb2.mono HB1.out.size))
  have HG2 := hide (HG1.out.below' hb2)
  have hx2 := (hb2.cell (p := ⟨w.heap.size, 0, none⟩) (lt_of_cell hx1)).trans hx1
  clear hb2 hw1 hx1 HK HG1 HB1
  cases hbg : bigC g with
  | true =>
    clear hbg
    go_wp2_with fail
    refine (works_any _).mono ?_
    rintro en w3 ⟨rfl, hb3⟩
    have HZ := hide (HB2.out.trans (hb3.mono HB2.out.size))
    clear hb3
    go_wp2_with fail
    go_ret
    exact ⟨rfl, HZ.out⟩
  | false =>
    have HSM := hide (bigC_small hbg)
    clear hbg
    go_wp2_with fail
    refine (rcheck_any A c g _ HG2.out).mono ?_
    rintro en w3 ⟨rfl, hb3⟩
    have HB3 : Hid (Below w.heap.size w w3) := hide (HB2.out.trans (hb3.mono HB2.out.size))
    have HG3 := hide (HG2.out.below' hb3)
    have hx3 := (hb3.cell (p := ⟨w.heap.size, 0, none⟩) (lt_of_cell hx2)).trans hx2
    clear hb3 hx2 HG2 HB2
    by_cases hok : codeG g = 0
    · rw [hok]
      by_cases he : 0 ≤ e ∧ e < g.length
      · obtain ⟨e, rfl⟩ : ∃ n : Nat, e = n := ⟨e.toNat, by omega⟩
        have hen : e < g.length := by omega
        have e0 : ¬ ((e : Int) < 0) := by omega
        have e1 : ¬ ((e : Int) ≥ g.length) := by omega
        have e2 : decide ((e : Int) < 0) = false := decide_eq_false e0
        have e3 : decide ((e : Int) ≥ (g.length : Int)) = false := decide_eq_false e1
        have e4 : decide ((g.length : Int) ≤ (e : Int)) = false := decide_eq_false (by omega)
        have e5 : decide (g.length ≤ e) = false := decide_eq_false (by omega)
        have HOK := hide (And.intro hok (And.intro (show edges g ≤ 1000000 by have := HSM.out; omega) (show g.length ≤ 65536 by have := HSM.out; omega)))
        clear he hok
        go_wp2_with fail
        refine (build_any A c g e _ HG3.out HOK.out.1 hen HOK.out.2.1).mono ?_
        rintro en w4 ⟨D2, L, P, dm, rfl, g1, g2, g3, g4, hb4⟩
        have HBT : Hid (Bt g e L P dm) := hide ⟨g1, g2, g3⟩
        have HI4 := hide g4.rd
        have HB4 := hide (HB3.out.trans (hb4.mono HB3.out.size))
        have HG4 := hide (HG3.out.below' hb4)
        have hx4 := (hb4.cell (p := ⟨w.heap.size, 0, none⟩) (lt_of_cell hx3)).trans hx3
        clear g1 g2 g3 g4 hb4 HB3 HG3 hx3 e0 e1 e2 e3 e4 e5
        go_wp2_with fail
        refine (callsIn_wide.1 (preorder_in HBT.out.tree HOK.out.2.2 3 (Nat.le_refl _) _ _ _ HI4.out)).mono ?_
        rintro en w5 ⟨v, rfl, hv, hb5⟩
        obtain ⟨Q, hQ⟩ : ∃ Q, pre (bf L dm) g.length (bd L dm) e = Q := ⟨_, rfl⟩
        rw [hQ] at hv
        obtain ⟨hql, hq0⟩ := HBT.out.order_len hQ
        have HQ := hide hQ
        have HV := hide hv.rd
        have HI5 := hide (HI4.out.below' hb5)
        have HB5 := hide (HB4.out.trans (hb5.mono HB4.out.size))
        have HG5 := hide (HG4.out.below' hb5)
        have hx5 := (hb5.cell (p := ⟨w.heap.size, 0, none⟩) (lt_of_cell hx4)).trans hx4
        clear hQ hv hb5 HI4 HB4 HG4 hx4
        go_wp2_with fail
        refine (rreach_any A c g e _ HG5.out HOK.out.1 hen).mono ?_
        rintro en w6 ⟨⟨D, rfl, hD⟩, hb6⟩
        have HA6 : Hid (RdV w6 (.slice (some ⟨D, 0, none⟩) g.length g.length) (bl g.length (fun i => decide (i ∈ L)))) := hide (by
          have h := hD.rd
          rw [bl_congr (h := fun i => decide (i ∈ L)) (fun i _ => by rw [decide_eq_decide]; exact (post_way (code_ok HOK.out.1).1 hen i).trans (HBT.out.sp.reach i).symm)] at h
          exact h)
        have HI6 := hide (HI5.out.below' hb6)
        have hv6 := HV.out.below' hb6
        have HB6 := hide (HB5.out.trans (hb6.mono HB5.out.size))
        clear hD hb6 HI5 HB5 HG5 hx5 HV
        obtain ⟨OA, oc, rfl, hoc, hocm, -⟩ := id hv6
        rw [ints_len] at hoc
        have hoc9 : oc ≤ 9223372036854775807 := by unfold maxLen at hocm; omega
        obtain ⟨ob, oo, rfl, -, co⟩ := rd_at hv6 (k := 0) (x := (e : Int)) (by rw [ints_get, hq0]; rfl)
        obtain ⟨b1, o1, q1, -, ci⟩ := rd_at HI6.out (fz_get (bf L dm) hen)
        injection q1 with q1
        injection q1 with q1 q2
        subst q1 q2
        rw [HBT.out.tree.root] at ci
        rw [Nat.add_zero] at co
        rw [Nat.zero_add] at ci
        obtain ⟨ql, hqle⟩ : ∃ ql, Q.length = ql := ⟨_, rfl⟩
        have hq0l : 0 < ql := by rw [← hqle]; exact (List.getElem?_eq_some_iff.1 hq0).1
        have HQL := hide hqle
        rw [ints_len, hqle] at hv6
        have HV6 := hide hv6
        rw [ints_len, hqle]
        rw [hqle] at hoc hql
        have t1 : ((g.length : Int) != (g.length : Int)) = false := by rw [bne_eq_false_iff_eq]
        have t2 : ((ql : Int) == 0) = false := beq_eq_false_iff_ne.2 (by omega)
        have t3 : ((e : Int) != (e : Int)) = false := by rw [bne_eq_false_iff_eq]
        have hen' : (e : Int) < g.length := by omega
        have hq0' : (0 : Int) < ql := by omega
        have hN9 : g.length ≤ 65536 := HOK.out.2.2
        have hmk := run_made w6 39 4 (.bool false) 1 Try.underlying39 infoBool rfl (by omega) g.length (by omega)
        obtain ⟨w7, hw7⟩ : ∃ x, w6.alloc (.cells (madeCells #[.bool false] g.length) 4) = x := ⟨_, rfl⟩
        have hb7 : Below w6.heap.size w6 w7 := by rw [← hw7]; exact (Below.refl _ _).alloc (Nat.le_refl _) _
        have hS7 : OwnV w7 w6.heap.size 4 (.slice (some ⟨w6.heap.size, 0, none⟩) g.length g.length) (bz g.length (Q.take 0)) := by
          rw [List.take_zero, bz_nil, ← hw7]
          exact own_madeV w6 4 (.bool false) g.length w6.heap.size (by unfold maxLen; omega) (Nat.le_refl _)
        have HS7 := hide hS7
        have HB7 := hide hb7
        clear hqle hq0 hv6 hocm hS7 hb7
        go_wp2_with fail
        clear hmk hw7 co ci
        go_loopw [68] (fun z wr => ∃ k : Nat, k ≤ ql ∧ z = .int .i64 (k : Nat) ∧ Hid (OwnV wr w6.heap.size 4 (.slice (some ⟨w6.heap.size, 0, none⟩) g.length g.length) (bz g.length (Q.take k))) ∧ Hid (Below w6.heap.size w6 wr)) (fun z _ => ql - (intOf z).toNat)
        case atStart => exact ⟨0, Nat.zero_le _, rfl, HS7, HB7⟩
        case round =>
          clear HS7 HB7
          obtain ⟨wq, rfl⟩ : ∃ x, x = wr := ⟨_, rfl⟩
          obtain ⟨k, hk, rfl, HS, HF⟩ := hrel
          by_cases hlt : k < ql
          · have hlt' : (k : Int) < ql := by omega
            obtain ⟨x, hx⟩ : ∃ x, Q[k]? = some x := ⟨_, List.getElem?_eq_getElem (by rw [HQL.out]; exact hlt)⟩
            obtain ⟨h1, h2, h3, h4, h5⟩ := HBT.out.order_at HQ.out hx
            obtain ⟨b2, o2, q3, -, cx⟩ := rd_at (HV6.out.below' HF.out) (k := k) (x := (x : Int)) (by rw [ints_get, hx]; rfl)
            injection q3 with q3
            injection q3 with q3 q4
            subst q3 q4
            obtain ⟨b3, o3, q5, -, ca⟩ := (HA6.out.below' HF.out).at x _ (bl_get (fun i => decide (i ∈ L)) h1)
            injection q5 with q5
            injection q5 with q5 q6
            subst q5 q6
            rw [Nat.zero_add, decide_eq_true h2] at ca
            have cs := HS.out.cellAt (bz_get (Q.take k) h1)
            rw [decide_eq_false h3] at cs
            have csf := HS.out.freeAt x
            have hset := HS.out.set x (.bool true)
            rw [bz_set, ← h4] at hset
            have HN := hide hset
            have HFN : Hid (Below w6.heap.size w6 (wq.setCell ⟨w6.heap.size, x, none⟩ (.bool true))) := hide (HF.out.setCell (p := ⟨w6.heap.size, x, none⟩) (Nat.le_refl _) _)
            have h1' : (x : Int) < g.length := by omega
            have u1 : decide ((x : Int) < 0) = false := decide_eq_false (by omega)
            have u2 : decide ((x : Int) ≥ (g.length : Int)) = false := decide_eq_false (by omega)
            have u2' : decide ((g.length : Int) ≤ (x : Int)) = false := decide_eq_false (by omega)
            have u2'' : decide (g.length ≤ x) = false := decide_eq_false (by omega)
            by_cases hxe : x = e
            · have u3 : ((x : Int) != (e : Int)) = false := by rw [bne_eq_false_iff_eq]; omega
              have u3' : (x != e) = false := by rw [bne_eq_false_iff_eq]; exact hxe
              clear h2 h3 h4 h5 hset hxe hx
              go_wp2_with fail
              go_roundw
              case rel => exact ⟨k + 1, by omega, by go_num, HN, HFN⟩
              case measure => simp [intOf]; omega
            · obtain ⟨u, h6, h7, h8⟩ := h5 hxe
              have u3 : ((x : Int) != (e : Int)) = true := bne_iff_ne.2 (by omega)
              have u3' : (x != e) = true := bne_iff_ne.2 hxe
              obtain ⟨b4, o4, q7, -, cu⟩ := rd_at (HI6.out.below' HF.out) (fz_get (bf L dm) h1)
              injection q7 with q7
              injection q7 with q7 q8
              subst q7 q8
              rw [Nat.zero_add, h6] at cu
              have cv := HS.out.cellAt (bz_get (Q.take k) h7)
              rw [decide_eq_true h8] at cv
              have h7' : (u : Int) < g.length := by omega
              have u4 : decide ((u : Int) < 0) = false := decide_eq_false (by omega)
              have u5 : decide ((u : Int) ≥ (g.length : Int)) = false := decide_eq_false (by omega)
              have u5' : decide ((g.length : Int) ≤ (u : Int)) = false := decide_eq_false (by omega)
              have u5'' : decide (g.length ≤ u) = false := decide_eq_false (by omega)
              clear h2 h3 h4 h5 hset hxe hx h6 h8
              go_wp2_with fail
              go_roundw
              case rel => exact ⟨k + 1, by omega, by go_num, HN, HFN⟩
              case measure => simp [intOf]; omega
          · obtain rfl : k = ql := by omega
            have hsq : RdV wq (.slice (some ⟨w6.heap.size, 0, none⟩) g.length g.length) (bl g.length (fun i => decide (i ∈ L))) := by
              have h := HS.out.rd
              rw [show Q.take k = Q from List.take_of_length_le (by rw [HQL.out]; exact Nat.le_refl _)] at h
              rw [show bz g.length Q = bl g.length (fun i => decide (i ∈ Q)) from rfl, ← HQ.out] at h
              rw [bl_congr (h := fun i => decide (i ∈ L)) (fun i hi => HBT.out.mem_order hi)] at h
              exact h
            have HE := hide (eqb_any _ _ g.length (fun i => decide (i ∈ L)) wq hsq (HA6.out.below' HF.out))
            have HBQ := hide (HB6.out.trans (HF.out.mono HB6.out.size))
            clear HS HF hsq
            go_wp2_with fail
            refine HE.out.mono ?_
            rintro en w8 ⟨rfl, hb8⟩
            have HB8 := hide (HBQ.out.trans (hb8.mono HBQ.out.size))
            clear hb8 HE HBQ
            go_wp2_with fail
            refine (works_any _).mono ?_
            rintro en w9 ⟨rfl, hb9⟩
            have HZ := hide (HB8.out.trans (hb9.mono HB8.out.size))
            clear hb9
            go_wp2_with fail
            go_ret
            exact ⟨rfl, HZ.out⟩
      · have e1 : ¬ (0 ≤ e ∧ e < g.length) := he
        by_cases h0 : e < 0
        · have e2 : decide (e < 0) = true := decide_eq_true h0
          clear he e1 hok
          go_wp2_with fail
          refine (works_any _).mono ?_
          rintro en w4 ⟨rfl, hb4⟩
          have HZ := hide (HB3.out.trans (hb4.mono HB3.out.size))
          clear hb4
          go_wp2_with fail
          go_ret
          exact ⟨rfl, HZ.out⟩
        · have e2 : decide (e < 0) = false := decide_eq_false h0
          have e3 : decide (e ≥ (g.length : Int)) = true := decide_eq_true (by omega)
          have e4 : decide ((g.length : Int) ≤ e) = true := decide_eq_true (by omega)
          have e5 : (g.length : Int) ≤ e := by omega
          clear he e1 hok
          go_wp2_with fail
          refine (works_any _).mono ?_
          rintro en w4 ⟨rfl, hb4⟩
          have HZ := hide (HB3.out.trans (hb4.mono HB3.out.size))
          clear hb4
          go_wp2_with fail
          go_ret
          exact ⟨rfl, HZ.out⟩
    · have t1 : (codeG g != 0) = true := by simpa using hok
      clear hx3
      go_wp2_with fail
      refine (works_any _).mono ?_
      rintro en w4 ⟨rfl, hb4⟩
      have HZ := hide (HB3.out.trans (hb4.mono HB3.out.size))
      clear hb4
      go_wp2_with fail
      go_ret
      exact ⟨rfl, HZ.out⟩
end Go.Proofs.Ytmopnceglnoncaa

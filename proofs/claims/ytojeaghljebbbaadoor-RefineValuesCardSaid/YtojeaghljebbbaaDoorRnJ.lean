/-
  Layer 19 (refine): the laws RefineValues and RefineOutcomes.
-/
import Derived.Test.YtojeaghljebbbaaDoorRnI
namespace Go.Proofs.YtojeaghljebbbaaDoor
open Go.RowKit Go.Deep

set_option maxRecDepth 100000 in
set_option maxHeartbeats 4000000 in
theorem values_law (xs ys : List VD) (va vb : Value) (w : World) (hT : Tab w) (ha : RdN w 14 va (xs.map VD.cl)) (hb : RdN w 14 vb (ys.map VD.cl)) :
    Calls Tryd.prog 4 #[va, vb] w fun e w' => e = .returned (.bool true) ∧ Below w.heap.size w w' := by
  obtain ⟨A, c, rfl⟩ := ha.form
  obtain ⟨B, k, rfl⟩ := hb.form
  rw [List.length_map] at ha hb ⊢
  rw [List.length_map]
  have HT := hide hT
  have HA := hide ha
  have HB := hide hb
  clear hT ha hb
  obtain ⟨n, hn⟩ : ∃ n, xs.length = n := ⟨_, rfl⟩
  obtain ⟨m, hm⟩ : ∃ m, ys.length = m := ⟨_, rfl⟩
  rw [hn, hm]
  have HN := hide hn
  have HM := hide hm
  clear hn hm
  by_cases h1 : 300 < n
  · go_enter Tryd.func4, Tryd.ntmps4
    go_wp2_with fail
    refine (awake_any _ (by exact HT.out)).mono ?_
    rintro en w1 ⟨rfl, hb⟩
    have HB1 := hide hb
    clear hb
    go_wp2_with fail
    go_ret
    exact ⟨rfl, HB1.out⟩
  · by_cases h2 : 300 < m
    · go_enter Tryd.func4, Tryd.ntmps4
      go_wp2_with fail
      refine (awake_any _ (by exact HT.out)).mono ?_
      rintro en w1 ⟨rfl, hb⟩
      have HB1 := hide hb
      clear hb
      go_wp2_with fail
      go_ret
      exact ⟨rfl, HB1.out⟩
    · go_enter Tryd.func4, Tryd.ntmps4
      go_wp2_with fail
      refine (awake_any _ (by exact HT.out)).mono ?_
      rintro en w1 ⟨rfl, hb⟩
      have HB1 := hide hb
      clear hb
      go_wp2_with fail
      refine (values_any xs ys (.slice A n c) (.slice B m k) _ (by exact HT.out.below HB1.out) (by have h := HA.out.below' HB1.out; rwa [HN.out] at h) (by have h := HB.out.below' HB1.out; rwa [HM.out] at h)).mono ?_
      rintro en w2 ⟨rfl, hb⟩
      have HB2 := hide (HB1.out.trans (hb.mono HB1.out.size))
      clear hb
      obtain ⟨r, hr⟩ : ∃ r, allR refD xs ys = r := ⟨_, rfl⟩
      rw [hr]
      go_wp2_with fail
      refine (rvalues_any xs ys (.slice A n c) (.slice B m k) _ (by have h := HA.out.below' HB2.out; rwa [HN.out] at h) (by have h := HB.out.below' HB2.out; rwa [HM.out] at h)).mono ?_
      rintro en w3 ⟨rfl, hb⟩
      have HB3 := hide (HB2.out.trans (hb.mono HB2.out.size))
      clear hb
      rw [hr]
      clear hr
      cases r <;>
        (go_wp2_with fail
         go_ret
         exact ⟨rfl, HB3.out⟩)

set_option maxRecDepth 100000 in
set_option maxHeartbeats 8000000 in
theorem outcomes_law (a b : OD) (w : World) (hT : Tab w) (ha : a.ok w) (hb : b.ok w) :
    Calls Tryd.prog 3 #[.agg #[.int .i64 a.kind, .int .i64 a.code, .int .i64 a.res.t, .int .i64 a.res.o, .int .i64 a.res.a.n, .bool a.res.a.p, .bool a.res.a.u, .int .i64 a.res.b.n, .bool a.res.b.p, .bool a.res.b.u, .int .i64 a.res.c.n, .bool a.res.c.p, .bool a.res.c.u, .int .i64 a.res.d.n, .bool a.res.d.p, .bool a.res.d.u, .slice a.outA a.out.length a.outc, .slice a.clA a.cls.length a.clc, .int .i64 a.steps], .agg #[.int .i64 b.kind, .int .i64 b.code, .int .i64 b.res.t, .int .i64 b.res.o, .int .i64 b.res.a.n, .bool b.res.a.p, .bool b.res.a.u, .int .i64 b.res.b.n, .bool b.res.b.p, .bool b.res.b.u, .int .i64 b.res.c.n, .bool b.res.c.p, .bool b.res.c.u, .int .i64 b.res.d.n, .bool b.res.d.p, .bool b.res.d.u, .slice b.outA b.out.length b.outc, .slice b.clA b.cls.length b.clc, .int .i64 b.steps]] w fun e w' => e = .returned (.bool true) ∧ Below w.heap.size w w' := by
  obtain ⟨w1, hw1⟩ : ∃ z, (w.alloc (.cells #[.int .i64 a.kind, .int .i64 a.code, .int .i64 a.res.t, .int .i64 a.res.o, .int .i64 a.res.a.n, .bool a.res.a.p, .bool a.res.a.u, .int .i64 a.res.b.n, .bool a.res.b.p, .bool a.res.b.u, .int .i64 a.res.c.n, .bool a.res.c.p, .bool a.res.c.u, .int .i64 a.res.d.n, .bool a.res.d.p, .bool a.res.d.u, .slice a.outA a.out.length a.outc, .slice a.clA a.cls.length a.clc, .int .i64 a.steps] 31)).alloc (.cells #[.int .i64 b.kind, .int .i64 b.code, .int .i64 b.res.t, .int .i64 b.res.o, .int .i64 b.res.a.n, .bool b.res.a.p, .bool b.res.a.u, .int .i64 b.res.b.n, .bool b.res.b.p, .bool b.res.b.u, .int .i64 b.res.c.n, .bool b.res.c.p, .bool b.res.c.u, .int .i64 b.res.d.n, .bool b.res.d.p, .bool b.res.d.u, .slice b.outA b.out.length b.outc, .slice b.clA b.cls.length b.clc, .int .i64 b.steps] 31) = z := ⟨_, rfl⟩
  have HS : Hid (DfS w w1 a b) := hide (by rw [← hw1]; exact DfS.new w a b ha hb)
  have HT := hide hT
  clear ha hb hT
  have uO := Tryd.underlying31
  have iO : (Tryd.prog.info? 31).map (·.size) = some 19 := by kernel_rfl
  obtain ⟨la, hla⟩ : ∃ x, largeB a = x := ⟨_, rfl⟩
  obtain ⟨lb, hlb⟩ : ∃ x, largeB b = x := ⟨_, rfl⟩
  obtain ⟨D, hD⟩ : ∃ x, difD a b = x := ⟨_, rfl⟩
  have HLA := hide hla
  have HLB := hide hlb
  have HD := hide hD
  clear hla hlb hD
  go_enter Tryd.func3, Tryd.ntmps3
  go_upto_region 1 with fail
  clear hw1
  obtain ⟨q, hq⟩ : ∃ q, w.heap.size = q := ⟨_, rfl⟩
  rw [hq]
  have HQ := hide hq
  clear hq
  repeat (first | ((with_reducible show wpList _ _ _ (_ :: _) _ _); first | (refine wpList_load_g (by rfl) _ _ rfl q 0 (by rfl) a.cl _ (Whole.range (l := a.cl) (by rw [← HQ.out]; exact HS.out.A)) uO rfl iO ?_) | (refine wpList_load_g (by rfl) _ _ rfl (q + 1) 0 (by rfl) b.cl _ (Whole.range (l := b.cl) (by rw [← HQ.out]; exact HS.out.B)) uO rfl iO ?_) | go_step) | ((fail_if_success (with_reducible show wpList _ _ _ (_ :: _) _ _)); go_step))
  refine (large_any a _ (by exact HS.out.oa)).mono ?_
  rintro en w2 ⟨rfl, hb⟩
  rw [HLA.out]
  replace HS := hide (HS.out.next hb)
  clear hb
  simp only []
  cases la with
  | true =>
    repeat (first | ((with_reducible show wpList _ _ _ (_ :: _) _ _); first | (refine wpList_load_g (by rfl) _ _ rfl q 0 (by rfl) a.cl _ (Whole.range (l := a.cl) (by rw [← HQ.out]; exact HS.out.A)) uO rfl iO ?_) | (refine wpList_load_g (by rfl) _ _ rfl (q + 1) 0 (by rfl) b.cl _ (Whole.range (l := b.cl) (by rw [← HQ.out]; exact HS.out.B)) uO rfl iO ?_) | go_step) | ((fail_if_success (with_reducible show wpList _ _ _ (_ :: _) _ _)); go_step))
    refine (awake_any _ (by exact HT.out.below HS.out.lo)).mono ?_
    rintro en w3 ⟨rfl, hb⟩
    replace HS := hide (HS.out.next hb)
    clear hb
    simp only []
    repeat (first | ((with_reducible show wpList _ _ _ (_ :: _) _ _); first | (refine wpList_load_g (by rfl) _ _ rfl q 0 (by rfl) a.cl _ (Whole.range (l := a.cl) (by rw [← HQ.out]; exact HS.out.A)) uO rfl iO ?_) | (refine wpList_load_g (by rfl) _ _ rfl (q + 1) 0 (by rfl) b.cl _ (Whole.range (l := b.cl) (by rw [← HQ.out]; exact HS.out.B)) uO rfl iO ?_) | go_step) | ((fail_if_success (with_reducible show wpList _ _ _ (_ :: _) _ _)); go_step))
    go_ret
    exact ⟨rfl, HS.out.lo⟩
  | false =>
    repeat (first | ((with_reducible show wpList _ _ _ (_ :: _) _ _); first | (refine wpList_load_g (by rfl) _ _ rfl q 0 (by rfl) a.cl _ (Whole.range (l := a.cl) (by rw [← HQ.out]; exact HS.out.A)) uO rfl iO ?_) | (refine wpList_load_g (by rfl) _ _ rfl (q + 1) 0 (by rfl) b.cl _ (Whole.range (l := b.cl) (by rw [← HQ.out]; exact HS.out.B)) uO rfl iO ?_) | go_step) | ((fail_if_success (with_reducible show wpList _ _ _ (_ :: _) _ _)); go_step))
    refine (large_any b _ (by exact HS.out.ob)).mono ?_
    rintro en w3 ⟨rfl, hb⟩
    rw [HLB.out]
    replace HS := hide (HS.out.next hb)
    clear hb
    simp only []
    cases lb with
    | true =>
      repeat (first | ((with_reducible show wpList _ _ _ (_ :: _) _ _); first | (refine wpList_load_g (by rfl) _ _ rfl q 0 (by rfl) a.cl _ (Whole.range (l := a.cl) (by rw [← HQ.out]; exact HS.out.A)) uO rfl iO ?_) | (refine wpList_load_g (by rfl) _ _ rfl (q + 1) 0 (by rfl) b.cl _ (Whole.range (l := b.cl) (by rw [← HQ.out]; exact HS.out.B)) uO rfl iO ?_) | go_step) | ((fail_if_success (with_reducible show wpList _ _ _ (_ :: _) _ _)); go_step))
      refine (awake_any _ (by exact HT.out.below HS.out.lo)).mono ?_
      rintro en w4 ⟨rfl, hb⟩
      replace HS := hide (HS.out.next hb)
      clear hb
      simp only []
      repeat (first | ((with_reducible show wpList _ _ _ (_ :: _) _ _); first | (refine wpList_load_g (by rfl) _ _ rfl q 0 (by rfl) a.cl _ (Whole.range (l := a.cl) (by rw [← HQ.out]; exact HS.out.A)) uO rfl iO ?_) | (refine wpList_load_g (by rfl) _ _ rfl (q + 1) 0 (by rfl) b.cl _ (Whole.range (l := b.cl) (by rw [← HQ.out]; exact HS.out.B)) uO rfl iO ?_) | go_step) | ((fail_if_success (with_reducible show wpList _ _ _ (_ :: _) _ _)); go_step))
      go_ret
      exact ⟨rfl, HS.out.lo⟩
    | false =>
      repeat (first | ((with_reducible show wpList _ _ _ (_ :: _) _ _); first | (refine wpList_load_g (by rfl) _ _ rfl q 0 (by rfl) a.cl _ (Whole.range (l := a.cl) (by rw [← HQ.out]; exact HS.out.A)) uO rfl iO ?_) | (refine wpList_load_g (by rfl) _ _ rfl (q + 1) 0 (by rfl) b.cl _ (Whole.range (l := b.cl) (by rw [← HQ.out]; exact HS.out.B)) uO rfl iO ?_) | go_step) | ((fail_if_success (with_reducible show wpList _ _ _ (_ :: _) _ _)); go_step))
      refine (rdiff_any a b _ (by exact HS.out.oa) (by exact HS.out.ob)).mono ?_
      rintro en w4 ⟨rfl, hb⟩
      rw [HD.out]
      replace HS := hide (HS.out.next hb)
      clear hb
      simp only []
      repeat (first | ((with_reducible show wpList _ _ _ (_ :: _) _ _); first | (refine wpList_load_g (by rfl) _ _ rfl q 0 (by rfl) a.cl _ (Whole.range (l := a.cl) (by rw [← HQ.out]; exact HS.out.A)) uO rfl iO ?_) | (refine wpList_load_g (by rfl) _ _ rfl (q + 1) 0 (by rfl) b.cl _ (Whole.range (l := b.cl) (by rw [← HQ.out]; exact HS.out.B)) uO rfl iO ?_) | go_step) | ((fail_if_success (with_reducible show wpList _ _ _ (_ :: _) _ _)); go_step))
      refine (awake_any _ (by exact HT.out.below HS.out.lo)).mono ?_
      rintro en w5 ⟨rfl, hb⟩
      replace HS := hide (HS.out.next hb)
      clear hb
      simp only []
      repeat (first | ((with_reducible show wpList _ _ _ (_ :: _) _ _); first | (refine wpList_load_g (by rfl) _ _ rfl q 0 (by rfl) a.cl _ (Whole.range (l := a.cl) (by rw [← HQ.out]; exact HS.out.A)) uO rfl iO ?_) | (refine wpList_load_g (by rfl) _ _ rfl (q + 1) 0 (by rfl) b.cl _ (Whole.range (l := b.cl) (by rw [← HQ.out]; exact HS.out.B)) uO rfl iO ?_) | go_step) | ((fail_if_success (with_reducible show wpList _ _ _ (_ :: _) _ _)); go_step))
      refine (diff_any a b _ (by exact HT.out.below HS.out.lo) (by exact HS.out.oa) (by exact HS.out.ob)).mono ?_
      rintro en w6 ⟨rfl, hb⟩
      rw [HD.out]
      replace HS := hide (HS.out.next hb)
      clear hb
      simp only []
      repeat (first | ((with_reducible show wpList _ _ _ (_ :: _) _ _); first | (refine wpList_load_g (by rfl) _ _ rfl q 0 (by rfl) a.cl _ (Whole.range (l := a.cl) (by rw [← HQ.out]; exact HS.out.A)) uO rfl iO ?_) | (refine wpList_load_g (by rfl) _ _ rfl (q + 1) 0 (by rfl) b.cl _ (Whole.range (l := b.cl) (by rw [← HQ.out]; exact HS.out.B)) uO rfl iO ?_) | go_step) | ((fail_if_success (with_reducible show wpList _ _ _ (_ :: _) _ _)); go_step))
      refine (outcome_any a b _ (by exact HT.out.below HS.out.lo) (by exact HS.out.oa) (by exact HS.out.ob)).mono ?_
      rintro en w7 ⟨rfl, hb⟩
      rw [HD.out]
      replace HS := hide (HS.out.next hb)
      clear hb
      simp only []
      repeat (first | ((with_reducible show wpList _ _ _ (_ :: _) _ _); first | (refine wpList_load_g (by rfl) _ _ rfl q 0 (by rfl) a.cl _ (Whole.range (l := a.cl) (by rw [← HQ.out]; exact HS.out.A)) uO rfl iO ?_) | (refine wpList_load_g (by rfl) _ _ rfl (q + 1) 0 (by rfl) b.cl _ (Whole.range (l := b.cl) (by rw [← HQ.out]; exact HS.out.B)) uO rfl iO ?_) | go_step) | ((fail_if_success (with_reducible show wpList _ _ _ (_ :: _) _ _)); go_step))
      go_ret
      exact ⟨by simp, HS.out.lo⟩
end Go.Proofs.YtojeaghljebbbaaDoor

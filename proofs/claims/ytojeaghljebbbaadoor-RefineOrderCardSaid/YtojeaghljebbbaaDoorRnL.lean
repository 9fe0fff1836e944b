/-
  Layer 19 (refine): the law RefineOrder.
-/
import Derived.Test.YtojeaghljebbbaaDoorRnK
namespace Go.Proofs.YtojeaghljebbbaaDoor
open Go.RowKit Go.Deep

theorem range_left {W : World} {g o : Nat} {x y : List Value} (h : W.rangeAt g o (x ++ y)) : W.rangeAt g o x := fun j v hv => h j v (by
  rw [List.getElem?_append_left (List.getElem?_eq_some_iff.1 hv).1]; exact hv)
theorem range_right {W : World} {g o n : Nat} {x y : List Value} (h : W.rangeAt g o (x ++ y)) (hn : x.length = n) : W.rangeAt g (o + n) y := fun j v hv => by
  rw [Nat.add_assoc]
  exact h (n + j) v (by rw [List.getElem?_append_right (by omega), hn, Nat.add_sub_cancel_left]; exact hv)
structure OrS (w W : World) (a b c : OD) : Prop where
  BX : Whole W w.heap.size 48 (a.cl ++ (b.cl ++ c.cl)).toArray
  oa : a.ok W
  ob : b.ok W
  oc : c.ok W
  B : Below w.heap.size w W
theorem OrS.next {w W W' : World} {a b c : OD} (h : OrS w W a b c) (hb : Below W.heap.size W W') : OrS w W' a b c :=
  ⟨h.BX.below' hb, h.oa.below hb, h.ob.below hb, h.oc.below hb, h.B.trans (hb.mono h.B.size)⟩
theorem OrS.r0 {w W : World} {a b c : OD} (h : OrS w W a b c) : W.rangeAt w.heap.size 0 a.cl := range_left (Whole.range (l := a.cl ++ (b.cl ++ c.cl)) h.BX)
theorem OrS.r1 {w W : World} {a b c : OD} (h : OrS w W a b c) : W.rangeAt w.heap.size 19 b.cl := by
  have := range_left (range_right (n := 19) (Whole.range (l := a.cl ++ (b.cl ++ c.cl)) h.BX) rfl)
  simpa using this
theorem OrS.r2 {w W : World} {a b c : OD} (h : OrS w W a b c) : W.rangeAt w.heap.size 38 c.cl := by
  have := range_right (n := 19) (range_right (n := 19) (Whole.range (l := a.cl ++ (b.cl ++ c.cl)) h.BX) rfl) rfl
  simpa using this
theorem OrS.ok {w W : World} {a b c x : OD} {i : Nat} (h : OrS w W a b c) (hx : [a, b, c][i]? = some x) : x.ok W := by
  match i, hx with
  | 0, hx => simp at hx; subst hx; exact h.oa
  | 1, hx => simp at hx; subst hx; exact h.ob
  | 2, hx => simp at hx; subst hx; exact h.oc
def goodO (x : OD) : Prop := validO x = true ∧ (x.kind = 1 ∨ x.kind = 2)

set_option maxRecDepth 100000 in
set_option maxHeartbeats 8000000 in
theorem order3_law (a b c : OD) (w : World) (hT : Tab w) (ha : a.ok w) (hb : b.ok w) (hc : c.ok w) :
    Calls Tryd.prog 6 #[.agg (a.cl ++ (b.cl ++ c.cl)).toArray] w fun e w' => e = .returned (.bool true) ∧ Below w.heap.size w w' := by
  have uO := Tryd.underlying31
  have iO : (Tryd.prog.info? 31).map (·.size) = some 19 := by kernel_rfl
  have uA := Tryd.underlying48
  have iA : (Tryd.prog.info? 48).map (·.size) = some (a.cl ++ (b.cl ++ c.cl)).length := by kernel_rfl
  obtain ⟨w1, hw1⟩ : ∃ z, w.alloc (.cells (a.cl ++ (b.cl ++ c.cl)).toArray 48) = z := ⟨_, rfl⟩
  have hb1 : Below w.heap.size w w1 := by rw [← hw1]; exact (Below.refl _ _).alloc (Nat.le_refl _) _
  have HS : Hid (OrS w w1 a b c) := hide ⟨by rw [← hw1]; exact Whole.new w _ _, ha.below hb1, hb.below hb1, hc.below hb1, hb1⟩
  have HT := hide hT
  obtain ⟨L, hL⟩ : ∃ L, a.cl ++ (b.cl ++ c.cl) = L := ⟨_, rfl⟩
  have ix0 : ∀ W, Sem.run Tryd.prog (Instr.index 48 (.agg (a.cl ++ (b.cl ++ c.cl)).toArray) (.int .i64 0)) W = .ok (.agg a.cl.toArray) W := fun W => by kernel_rfl
  have ix1 : ∀ W, Sem.run Tryd.prog (Instr.index 48 (.agg (a.cl ++ (b.cl ++ c.cl)).toArray) (.int .i64 1)) W = .ok (.agg b.cl.toArray) W := fun W => by kernel_rfl
  have ix2 : ∀ W, Sem.run Tryd.prog (Instr.index 48 (.agg (a.cl ++ (b.cl ++ c.cl)).toArray) (.int .i64 2)) W = .ok (.agg c.cl.toArray) W := fun W => by kernel_rfl
  have HIX : Hid (∀ (i : Nat) x, [a, b, c][i]? = some x → ∀ W, Sem.run Tryd.prog (Instr.index 48 (.agg L.toArray) (.int .i64 (i : Int))) W = .ok (.agg x.cl.toArray) W) := hide (fun i x hx W => by
    rw [← hL]
    match i, hx with
    | 0, hx => simp at hx; subst hx; exact ix0 W
    | 1, hx => simp at hx; subst hx; exact ix1 W
    | 2, hx => simp at hx; subst hx; exact ix2 W)
  clear ix0 ix1 ix2
  have HR : Hid (w1.rangeAt w.heap.size 0 L) := hide (by rw [← hL]; exact Whole.range (l := a.cl ++ (b.cl ++ c.cl)) HS.out.BX)
  rw [hL] at iA hw1 ⊢
  clear ha hb hc hT hb1 hL
  go_enter Tryd.func6, Tryd.ntmps6
  go_upto_region 1 with fail
  clear hw1
  refine wp_region_lit ?_
  refine wpList_load_g (by rfl) _ _ rfl w.heap.size 0 (by rfl) L _ HR.out uA rfl iA ?_
  clear HR uA iA
  go_wp2_with fail
  go_loopw [6] (fun z wr => ∃ i : Nat, i ≤ 3 ∧ z = .int .i64 (i : Nat) ∧ Hid (∀ (j : Nat) x, j < i → [a, b, c][j]? = some x → goodO x) ∧ Hid (Below w1.heap.size w1 wr)) (fun z _ => 3 - (intOf z).toNat)
  case atStart => exact ⟨0, by omega, rfl, hide (fun j x hj => by omega), hide (Below.refl _ _)⟩
  case round =>
    obtain ⟨wq, rfl⟩ : ∃ x, x = wr := ⟨_, rfl⟩
    obtain ⟨i, hi, rfl, HO, HF⟩ := hrel
    by_cases hlt : i < 3
    · obtain ⟨x, hx⟩ : ∃ x, [a, b, c][i]? = some x := ⟨_, List.getElem?_eq_getElem hlt⟩
      have hix := HIX.out i x hx
      have HXE := hide hx
      have HLT := hide hlt
      replace HS := hide (HS.out.next HF.out)
      have HOK : Hid (x.ok wq) := hide (HS.out.ok hx)
      have h64 : wrap64 ((i : Int) + 1) = (i : Int) + 1 := IntWalk.wrap64_in _ ⟨by omega, by omega⟩
      have H64 := hide h64
      obtain ⟨la, hla⟩ : ∃ v, largeB x = v := ⟨_, rfl⟩
      obtain ⟨v, hv⟩ : ∃ v, validO x = v := ⟨_, rfl⟩
      have HLA := hide hla
      have HV := hide hv
      clear hx hla hv
      repeat (first | ((with_reducible show wpList _ _ _ (_ :: _) _ _); ((fail_if_success (refine wpList_store_new (by rfl) _ _ _ rfl _ _ x.cl (by rfl) (by rfl) (by rfl) iO (by kernel_rfl) ?_)); go_step)) | ((fail_if_success (with_reducible show wpList _ _ _ (_ :: _) _ _)); go_step))
      refine wpList_store_new (by rfl) _ _ _ rfl _ _ x.cl (by rfl) (by rfl) (by rfl) iO (by kernel_rfl) ?_
      clear hix
      obtain ⟨z, hz⟩ : ∃ z, wq.heap.size = z := ⟨_, rfl⟩
      rw [hz]
      obtain ⟨wz, hwz⟩ : ∃ u, wq.alloc (.cells x.cl.toArray 31) = u := ⟨_, rfl⟩
      have HZ : Hid (Whole wz z 31 x.cl.toArray) := hide (by rw [← hwz, ← hz]; exact Whole.new _ _ _)
      have hbz : Below wq.heap.size wq wz := by rw [← hwz]; exact (Below.refl _ _).alloc (Nat.le_refl _) _
      replace HF := hide (HF.out.trans (hbz.mono HF.out.size))
      replace HOK := hide (HOK.out.below hbz)
      replace HS := hide (HS.out.next hbz)
      rw [hwz]
      clear hwz hz hbz
      repeat (first | ((with_reducible show wpList _ _ _ (_ :: _) _ _); first | (refine wpList_load_g (by rfl) _ _ rfl z 0 (by rfl) x.cl _ (Whole.range HZ.out) uO rfl iO ?_) | go_step) | ((fail_if_success (with_reducible show wpList _ _ _ (_ :: _) _ _)); go_step))
      refine (large_any x _ (by exact HOK.out)).mono ?_
      rintro en wl ⟨rfl, hb⟩
      rw [HLA.out]
      replace HZ := hide (HZ.out.below' hb)
      replace HF := hide (HF.out.trans (hb.mono HF.out.size))
      replace HOK := hide (HOK.out.below hb)
      replace HS := hide (HS.out.next hb)
      clear hb
      simp only []
      cases la with
      | true =>
        go_wp2_with fail
        refine (awake_any _ (by exact HT.out.below HS.out.B)).mono ?_
        rintro en we ⟨rfl, hb⟩
        replace HS := hide (HS.out.next hb)
        clear hb
        go_wp2_with fail
        go_ret
        exact ⟨rfl, HS.out.B⟩
      | false =>
        repeat (first | ((with_reducible show wpList _ _ _ (_ :: _) _ _); first | (refine wpList_load_g (by rfl) _ _ rfl z 0 (by rfl) x.cl _ (Whole.range HZ.out) uO rfl iO ?_) | go_step) | ((fail_if_success (with_reducible show wpList _ _ _ (_ :: _) _ _)); go_step))
        refine (valid_o x _ (by exact HOK.out)).mono ?_
        rintro en wv ⟨rfl, hb⟩
        rw [HV.out]
        replace HZ := hide (HZ.out.below' hb)
        replace HF := hide (HF.out.trans (hb.mono HF.out.size))
        replace HOK := hide (HOK.out.below hb)
        replace HS := hide (HS.out.next hb)
        clear hb
        simp only []
        have k0 : wv.cell? ⟨z, 0, none⟩ = some (.int .i64 x.kind) := HZ.out.cell 0
        clear HZ
        cases v with
        | false =>
          go_wp2_with fail
          refine (awake_any _ (by exact HT.out.below HS.out.B)).mono ?_
          rintro en we ⟨rfl, hb⟩
          replace HS := hide (HS.out.next hb)
          clear hb k0
          go_wp2_with fail
          go_ret
          exact ⟨rfl, HS.out.B⟩
        | true =>
          by_cases hk : x.kind = 1 ∨ x.kind = 2
          · have HK := hide hk
            have hgood : Hid (∀ (j : Nat) x, j < i + 1 → [a, b, c][j]? = some x → goodO x) := hide (fun j x' hj hx' => by
              rcases Nat.lt_or_ge j i with h | h
              · exact HO.out j x' h hx'
              · obtain rfl : j = i := by omega
                rw [HXE.out] at hx'
                injection hx' with hx'
                subst hx'
                exact ⟨HV.out, HK.out⟩)
            rcases hk with hk | hk
            · have e1 : (x.kind == 1) = true := by simp [hk]
              have e1' : (x.kind != 1) = false := by rw [bne, e1]; rfl
              clear hk
              go_wp2_with fail
              exact ⟨⟨i + 1, by have := HLT.out; omega, by first | rfl | (rw [H64.out]; rfl), hgood, HF⟩, by (try rw [H64.out]); exact fn_meas HLT.out⟩
            · have e1 : (x.kind == 1) = false := by simp [hk]
              have e1' : (x.kind != 1) = true := by rw [bne, e1]; rfl
              have e2 : (x.kind == 2) = true := by simp [hk]
              have e2' : (x.kind != 2) = false := by rw [bne, e2]; rfl
              clear hk
              go_wp2_with fail
              exact ⟨⟨i + 1, by have := HLT.out; omega, by first | rfl | (rw [H64.out]; rfl), hgood, HF⟩, by (try rw [H64.out]); exact fn_meas HLT.out⟩
          · have e1 : (x.kind == 1) = false := by simp; omega
            have e1' : (x.kind != 1) = true := by rw [bne, e1]; rfl
            have e2 : (x.kind == 2) = false := by simp; omega
            have e2' : (x.kind != 2) = true := by rw [bne, e2]; rfl
            clear hk
            go_wp2_with fail
            refine (awake_any _ (by exact HT.out.below HS.out.B)).mono ?_
            rintro en we ⟨rfl, hb⟩
            replace HS := hide (HS.out.next hb)
            clear hb k0
            go_wp2_with fail
            go_ret
            exact ⟨rfl, HS.out.B⟩
    · obtain rfl : i = 3 := by omega
      clear hlt
      replace HS := hide (HS.out.next HF.out)
      have ga := HO.out 0 a (by omega) rfl
      have gb := HO.out 1 b (by omega) rfl
      have gc := HO.out 2 c (by omega) rfl
      have haa := difD_refl ga.1 ga.2
      have HAA : Hid ((difD a a == 0) = true) := hide (by rw [haa]; rfl)
      have HTR : Hid ((difD a b == 0) = true → (difD b c == 0) = true → (difD a c == 0) = true) := hide (fun p q => by
        simp only [beq_iff_eq] at p q ⊢
        exact difD_trans gb.2 gc.2 p q)
      clear ga gb gc haa HO HIX
      go_wp2_with fail
      refine (awake_any _ (by exact HT.out.below HS.out.B)).mono ?_
      rintro en w2 ⟨rfl, hb⟩
      replace HS := hide (HS.out.next hb)
      clear hb
      simp only []
      repeat (first | ((with_reducible show wpList _ _ _ (_ :: _) _ _); first | (refine wpList_load_g (by rfl) _ _ rfl w.heap.size 0 (by rfl) a.cl _ HS.out.r0 uO rfl iO ?_) | (refine wpList_load_g (by rfl) _ _ rfl w.heap.size 19 (by rfl) b.cl _ HS.out.r1 uO rfl iO ?_) | (refine wpList_load_g (by rfl) _ _ rfl w.heap.size 38 (by rfl) c.cl _ HS.out.r2 uO rfl iO ?_) | go_step) | ((fail_if_success (with_reducible show wpList _ _ _ (_ :: _) _ _)); go_step))
      refine (outcome_any a a _ (by exact HT.out.below HS.out.B) (by exact HS.out.oa) (by exact HS.out.oa)).mono ?_
      rintro en w3 ⟨rfl, hb⟩
      rw [HAA.out]
      replace HS := hide (HS.out.next hb)
      clear hb
      simp only []
      repeat (first | ((with_reducible show wpList _ _ _ (_ :: _) _ _); first | (refine wpList_load_g (by rfl) _ _ rfl w.heap.size 0 (by rfl) a.cl _ HS.out.r0 uO rfl iO ?_) | (refine wpList_load_g (by rfl) _ _ rfl w.heap.size 19 (by rfl) b.cl _ HS.out.r1 uO rfl iO ?_) | (refine wpList_load_g (by rfl) _ _ rfl w.heap.size 38 (by rfl) c.cl _ HS.out.r2 uO rfl iO ?_) | go_step) | ((fail_if_success (with_reducible show wpList _ _ _ (_ :: _) _ _)); go_step))
      refine (outcome_any a b _ (by exact HT.out.below HS.out.B) (by exact HS.out.oa) (by exact HS.out.ob)).mono ?_
      rintro en w4 ⟨rfl, hb⟩
      replace HS := hide (HS.out.next hb)
      clear hb
      obtain ⟨e12, h12⟩ : ∃ v, (difD a b == 0) = v := ⟨_, rfl⟩
      rw [h12]
      have H12 := hide h12
      clear h12
      simp only []
      cases e12 with
      | false =>
        go_wp2_with fail
        go_ret
        exact ⟨rfl, HS.out.B⟩
      | true =>
        repeat (first | ((with_reducible show wpList _ _ _ (_ :: _) _ _); first | (refine wpList_load_g (by rfl) _ _ rfl w.heap.size 0 (by rfl) a.cl _ HS.out.r0 uO rfl iO ?_) | (refine wpList_load_g (by rfl) _ _ rfl w.heap.size 19 (by rfl) b.cl _ HS.out.r1 uO rfl iO ?_) | (refine wpList_load_g (by rfl) _ _ rfl w.heap.size 38 (by rfl) c.cl _ HS.out.r2 uO rfl iO ?_) | go_step) | ((fail_if_success (with_reducible show wpList _ _ _ (_ :: _) _ _)); go_step))
        refine (outcome_any b c _ (by exact HT.out.below HS.out.B) (by exact HS.out.ob) (by exact HS.out.oc)).mono ?_
        rintro en w5 ⟨rfl, hb⟩
        replace HS := hide (HS.out.next hb)
        clear hb
        obtain ⟨e23, h23⟩ : ∃ v, (difD b c == 0) = v := ⟨_, rfl⟩
        rw [h23]
        have H23 := hide h23
        clear h23
        simp only []
        cases e23 with
        | false =>
          go_wp2_with fail
          go_ret
          exact ⟨rfl, HS.out.B⟩
        | true =>
          repeat (first | ((with_reducible show wpList _ _ _ (_ :: _) _ _); first | (refine wpList_load_g (by rfl) _ _ rfl w.heap.size 0 (by rfl) a.cl _ HS.out.r0 uO rfl iO ?_) | (refine wpList_load_g (by rfl) _ _ rfl w.heap.size 19 (by rfl) b.cl _ HS.out.r1 uO rfl iO ?_) | (refine wpList_load_g (by rfl) _ _ rfl w.heap.size 38 (by rfl) c.cl _ HS.out.r2 uO rfl iO ?_) | go_step) | ((fail_if_success (with_reducible show wpList _ _ _ (_ :: _) _ _)); go_step))
          refine (outcome_any a c _ (by exact HT.out.below HS.out.B) (by exact HS.out.oa) (by exact HS.out.oc)).mono ?_
          rintro en w6 ⟨rfl, hb⟩
          rw [HTR.out H12.out H23.out]
          replace HS := hide (HS.out.next hb)
          clear hb
          simp only []
          repeat (first | ((with_reducible show wpList _ _ _ (_ :: _) _ _); first | (refine wpList_load_g (by rfl) _ _ rfl w.heap.size 0 (by rfl) a.cl _ HS.out.r0 uO rfl iO ?_) | (refine wpList_load_g (by rfl) _ _ rfl w.heap.size 19 (by rfl) b.cl _ HS.out.r1 uO rfl iO ?_) | (refine wpList_load_g (by rfl) _ _ rfl w.heap.size 38 (by rfl) c.cl _ HS.out.r2 uO rfl iO ?_) | go_step) | ((fail_if_success (with_reducible show wpList _ _ _ (_ :: _) _ _)); go_step))
          go_ret
          exact ⟨rfl, HS.out.B⟩
end Go.Proofs.YtojeaghljebbbaaDoor

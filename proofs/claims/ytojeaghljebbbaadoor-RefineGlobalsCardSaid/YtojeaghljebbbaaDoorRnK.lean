/-
  Layer 19 (refine): refinement of outcomes is an order; which outcomes the law calls valid.
-/
import Derived.Test.YtojeaghljebbbaaDoorRnI
import Derived.Test.YtojeaghljebbbaaDoorLawOrder
import Derived.Test.YtojeaghljebbbaaDoorVH
namespace Go.Proofs.YtojeaghljebbbaaDoor
open Go.RowKit Go.Deep

def validD (x : VD) : Bool := validB x.t x.o x.a x.b x.c x.d
def validO (d : OD) : Bool := d.out.all validD && (d.cls.all (fun l => l.vs.all validD) && (d.res.t == 0 || validD d.res))
theorem refD_refl {x : VD} (h : validD x = true) : refD x x = true := by
  unfold refD; rw [refV_refl]; exact h
theorem refD_trans {x y z : VD} (h : refD x y = true) (k : refD y z = true) : refD x z = true := by
  unfold refD at *; exact refV_trans h k
theorem allR_refl {α : Type} {r : α → α → Bool} : ∀ l : List α, (∀ x ∈ l, r x x = true) → allR r l l = true
  | [], _ => rfl
  | x :: t, h => by
    simp only [allR, h x (by simp), Bool.true_and]
    exact allR_refl t (fun y hy => h y (by simp [hy]))
theorem allR_trans {α : Type} {r : α → α → Bool} (hr : ∀ x y z, r x y = true → r y z = true → r x z = true) : ∀ a b c : List α, allR r a b = true → allR r b c = true → allR r a c = true
  | [], [], [], _, _ => rfl
  | x :: a, y :: b, z :: c, h, k => by
    simp only [allR, Bool.and_eq_true] at h k ⊢
    exact ⟨hr x y z h.1 k.1, allR_trans hr a b c h.2 k.2⟩
  | [], _ :: _, _, h, _ => by simp [allR] at h
  | _ :: _, [], _, h, _ => by simp [allR] at h
  | _, [], _ :: _, _, k => by simp [allR] at k
  | _, _ :: _, [], _, k => by simp [allR] at k
theorem resR_trans {x y z : VD} (h : resR x y = true) (k : resR y z = true) : resR x z = true := by
  unfold resR at *
  by_cases hx : x.t = 0
  · by_cases hy : y.t = 0
    · by_cases hz : z.t = 0
      · simp [hx, hz]
      · rw [refD_void (.inl hy)] at k
        simp [hz] at k
    · rw [refD_void (.inl hx)] at h
      simp [hy] at h
  · by_cases hy : y.t = 0
    · rw [refD_void (.inr hy)] at h
      simp [hx] at h
    · simp [hx, hy] at h k ⊢
      exact refD_trans h k
theorem difD_iff {a b : OD} (hb : b.kind = 1 ∨ b.kind = 2) : difD a b = 0 ↔ (a.kind = b.kind ∧ (a.kind = 2 → a.code = b.code) ∧ allR refD a.out b.out = true ∧ (a.kind = 1 → resR a.res b.res = true ∧ allR refL2 a.cls b.cls = true)) := by
  unfold difD
  obtain ⟨p, hp⟩ : ∃ p, allR refD a.out b.out = p := ⟨_, rfl⟩
  obtain ⟨q, hq⟩ : ∃ p, resR a.res b.res = p := ⟨_, rfl⟩
  obtain ⟨r, hr⟩ : ∃ p, allR refL2 a.cls b.cls = p := ⟨_, rfl⟩
  rw [hp, hq, hr]
  rcases hb with h | h <;> by_cases e1 : a.kind = 1 <;> by_cases e2 : a.kind = 2 <;> by_cases e3 : a.code = b.code <;> cases p <;> cases q <;> cases r <;> simp_all
theorem refL2_trans {x y z : LD} (h : refL2 x y = true) (k : refL2 y z = true) : refL2 x z = true := allR_trans (r := refD) (fun a b c p q => refD_trans (x := a) (y := b) (z := c) p q) x.vs y.vs z.vs h k
theorem difD_refl {a : OD} (h : validO a = true) (hk : a.kind = 1 ∨ a.kind = 2) : difD a a = 0 := by
  unfold validO at h
  simp only [Bool.and_eq_true, List.all_eq_true] at h
  refine (difD_iff hk).2 ⟨rfl, fun _ => rfl, allR_refl _ (fun x hx => refD_refl (h.1 x hx)), fun _ => ⟨?_, allR_refl _ (fun l hl => allR_refl _ (fun x hx => refD_refl (h.2.1 l hl x hx)))⟩⟩
  unfold resR
  by_cases ht : a.res.t = 0
  · simp [ht]
  · have := h.2.2
    simp [ht] at this
    simp [refD_refl this]
theorem difD_trans {a b c : OD} (hb : b.kind = 1 ∨ b.kind = 2) (hc : c.kind = 1 ∨ c.kind = 2) (h : difD a b = 0) (k : difD b c = 0) : difD a c = 0 := by
  rw [difD_iff hb] at h
  rw [difD_iff hc] at k ⊢
  obtain ⟨h1, h2, h3, h4⟩ := h
  obtain ⟨k1, k2, k3, k4⟩ := k
  refine ⟨h1.trans k1, fun e => (h2 e).trans (k2 (h1 ▸ e)), allR_trans (r := refD) (fun x y z p q => refD_trans (x := x) (y := y) (z := z) p q) a.out b.out c.out h3 k3, fun e => ⟨resR_trans (h4 e).1 (k4 (h1 ▸ e)).1, allR_trans (r := refL2) (fun x y z p q => refL2_trans (x := x) (y := y) (z := z) p q) a.cls b.cls c.cls (h4 e).2 (k4 (h1 ▸ e)).2⟩⟩
theorem all_take {α : Type} {p : α → Bool} {l : List α} {i : Nat} {x : α} (hx : l[i]? = some x) : (l.take (i + 1)).all p = ((l.take i).all p && p x) := by
  rw [List.take_add_one, hx, List.all_append]
  simp
theorem all_bad {α : Type} {p : α → Bool} {l : List α} {i : Nat} {x : α} (hx : l[i]? = some x) (h : p x = false) : l.all p = false := by
  rw [List.all_eq_false]
  exact ⟨x, List.mem_of_getElem? hx, by simp [h]⟩

theorem validO_out {d : OD} (h : d.out.all validD = false) : validO d = false := by unfold validO; rw [h]; rfl
theorem validO_cls {d : OD} (h : d.cls.all (fun l => l.vs.all validD) = false) : validO d = false := by unfold validO; rw [h]; simp
theorem validO_res {d : OD} (h : d.out.all validD = true) (k : d.cls.all (fun l => l.vs.all validD) = true) : validO d = (d.res.t == 0 || validD d.res) := by unfold validO; rw [h, k]; rfl
set_option maxRecDepth 100000 in
set_option maxHeartbeats 8000000 in
theorem valid_o (a : OD) (w : World) (ha : a.ok w) :
    Calls Tryd.prog 17 #[.agg #[.int .i64 a.kind, .int .i64 a.code, .int .i64 a.res.t, .int .i64 a.res.o, .int .i64 a.res.a.n, .bool a.res.a.p, .bool a.res.a.u, .int .i64 a.res.b.n, .bool a.res.b.p, .bool a.res.b.u, .int .i64 a.res.c.n, .bool a.res.c.p, .bool a.res.c.u, .int .i64 a.res.d.n, .bool a.res.d.p, .bool a.res.d.u, .slice a.outA a.out.length a.outc, .slice a.clA a.cls.length a.clc, .int .i64 a.steps]] w fun e w' => e = .returned (.bool (validO a)) ∧ Below w.heap.size w w' := by
  obtain ⟨kind, code, res, oA, oc, out, cA, cc, cls, steps⟩ := a
  show Calls Tryd.prog 17 #[.agg #[.int .i64 kind, .int .i64 code, .int .i64 res.t, .int .i64 res.o, .int .i64 res.a.n, .bool res.a.p, .bool res.a.u, .int .i64 res.b.n, .bool res.b.p, .bool res.b.u, .int .i64 res.c.n, .bool res.c.p, .bool res.c.u, .int .i64 res.d.n, .bool res.d.p, .bool res.d.u, .slice oA out.length oc, .slice cA cls.length cc, .int .i64 steps]] w _
  have uV := Tryd.underlying27
  have iV : (Tryd.prog.info? 27).map (·.size) = some 14 := by kernel_rfl
  obtain ⟨w1, hw1⟩ : ∃ z, w.alloc (.cells #[.int .i64 kind, .int .i64 code, .int .i64 res.t, .int .i64 res.o, .int .i64 res.a.n, .bool res.a.p, .bool res.a.u, .int .i64 res.b.n, .bool res.b.p, .bool res.b.u, .int .i64 res.c.n, .bool res.c.p, .bool res.c.u, .int .i64 res.d.n, .bool res.d.p, .bool res.d.u, .slice oA out.length oc, .slice cA cls.length cc, .int .i64 steps] 31) = z := ⟨_, rfl⟩
  have hb1 : Below w.heap.size w w1 := by rw [← hw1]; exact (Below.refl _ _).alloc (Nat.le_refl _) _
  have HA : Hid (Whole w1 w.heap.size 31 #[.int .i64 kind, .int .i64 code, .int .i64 res.t, .int .i64 res.o, .int .i64 res.a.n, .bool res.a.p, .bool res.a.u, .int .i64 res.b.n, .bool res.b.p, .bool res.b.u, .int .i64 res.c.n, .bool res.c.p, .bool res.c.u, .int .i64 res.d.n, .bool res.d.p, .bool res.d.u, .slice oA out.length oc, .slice cA cls.length cc, .int .i64 steps]) := hide (by rw [← hw1]; exact Whole.new w _ _)
  have HO : Hid (RdN w1 14 (.slice oA out.length oc) (out.map VD.cl)) := hide (ha.below hb1).out
  have HC : Hid (RdN w1 1 (.slice cA cls.length cc) (cls.map LD.cl)) := hide (ha.below hb1).cls
  have HE : Hid (∀ d ∈ cls, d.ok w1) := hide (ha.below hb1).each
  have HB := hide hb1
  have k16 : w1.cell? ⟨w.heap.size, 16, none⟩ = some (.slice oA out.length oc) := HA.out.cell 16
  clear ha hb1
  go_enter Tryd.func17, Tryd.ntmps17
  go_upto_region 1 with fail
  clear hw1
  go_wp2_with fail
  clear k16
  go_loopw [12] (fun z wr => ∃ i : Nat, i ≤ out.length ∧ z = .int .i64 (i : Nat) ∧ Hid ((out.take i).all validD = true) ∧ Hid (Below w1.heap.size w1 wr)) (fun z _ => out.length - (intOf z).toNat)
  case atStart => exact ⟨0, Nat.zero_le _, rfl, hide rfl, hide (Below.refl _ _)⟩
  case round =>
    obtain ⟨wq, rfl⟩ : ∃ x, x = wr := ⟨_, rfl⟩
    obtain ⟨i, hi, rfl, HV, HF⟩ := hrel
    by_cases hlt : i < out.length
    · obtain ⟨x, hx⟩ : ∃ x, out[i]? = some x := ⟨_, List.getElem?_eq_getElem hlt⟩
      obtain ⟨ba, oa, rfl, hba, hxa⟩ := HO.out.row (i := i) (r := x.cl) (by rw [List.getElem?_map, hx]; rfl)
      have HX : Hid (wq.rangeAt ba (oa + i * 14) x.cl) := hide (hxa.below HF.out hba)
      have h64 : wrap64 ((i : Int) + 1) = (i : Int) + 1 := wrap_succ hlt (by have := HO.out.room; omega)
      have HXE := hide hx
      have H64 := hide h64
      have HLT := hide hlt
      obtain ⟨v, hv⟩ : ∃ v, validB x.t x.o x.a x.b x.c x.d = v := ⟨_, rfl⟩
      have HVV := hide hv
      clear hxa hba hx hv
      repeat (first | ((with_reducible show wpList _ _ _ (_ :: _) _ _); first | (refine wpList_load_g (by rfl) _ _ rfl ba (oa + i * 14) (by rfl) x.cl _ HX.out uV rfl iV ?_) | ((fail_if_success (refine wpList_store_new (by rfl) _ _ _ rfl _ _ x.cl (by rfl) (by rfl) (by rfl) iV (by kernel_rfl) ?_)); go_step)) | ((fail_if_success (with_reducible show wpList _ _ _ (_ :: _) _ _)); go_step))
      refine wpList_store_new (by rfl) _ _ _ rfl _ _ x.cl (by rfl) (by rfl) (by rfl) iV (by kernel_rfl) ?_
      obtain ⟨z, hz⟩ : ∃ z, wq.heap.size = z := ⟨_, rfl⟩
      rw [hz]
      obtain ⟨wz, hwz⟩ : ∃ u, wq.alloc (.cells x.cl.toArray 27) = u := ⟨_, rfl⟩
      have HZ : Hid (Whole wz z 27 x.cl.toArray) := hide (by rw [← hwz, ← hz]; exact Whole.new _ _ _)
      have HFZ : Hid (Below w1.heap.size w1 wz) := hide (by rw [← hwz]; exact HF.out.alloc HF.out.size _)
      rw [hwz]
      clear hwz hz HX
      repeat (first | ((with_reducible show wpList _ _ _ (_ :: _) _ _); first | (refine wpList_load_g (by rfl) _ _ rfl z 0 (by rfl) x.cl _ (Whole.range HZ.out) uV rfl iV ?_) | go_step) | ((fail_if_success (with_reducible show wpList _ _ _ (_ :: _) _ _)); go_step))
      refine (rvalid_any x.t x.o x.a x.b x.c x.d _).mono ?_
      rintro en wv ⟨rfl, hb⟩
      rw [HVV.out]
      have HFV := hide (HFZ.out.trans (hb.mono HFZ.out.size))
      clear hb HZ
      simp only []
      cases v with
      | false =>
        go_wp2_with fail
        go_ret
        exact ⟨by rw [validO_out (d := ⟨kind, code, res, _, oc, out, cA, cc, cls, steps⟩) (all_bad HXE.out HVV.out)]; (try rfl), HB.out.trans (HFV.out.mono HB.out.size)⟩
      | true =>
        go_wp2_with fail
        exact ⟨⟨i + 1, HLT.out, by rw [H64.out]; rfl, hide (by rw [all_take HXE.out, HV.out]; exact HVV.out), HFV⟩, by rw [H64.out]; exact fn_meas HLT.out⟩
    · obtain rfl : i = out.length := by omega
      clear hlt
      rw [List.take_length] at HV
      have k17 : wq.cell? ⟨w.heap.size, 17, none⟩ = some (.slice cA cls.length cc) := (HA.out.below' HF.out).cell 17
      go_wp2_with fail
      clear k17
      go_loopw [23] (fun z wr => ∃ i : Nat, i ≤ cls.length ∧ z = .int .i64 (i : Nat) ∧ Hid ((cls.take i).all (fun l => l.vs.all validD) = true) ∧ Hid (Below w1.heap.size w1 wr)) (fun z _ => cls.length - (intOf z).toNat)
      case atStart => exact ⟨0, Nat.zero_le _, rfl, hide rfl, HF⟩
      case round =>
        obtain ⟨wp, rfl⟩ : ∃ x, x = wr := ⟨_, rfl⟩
        clear HF hi
        obtain ⟨k, hi, rfl, HW, HF⟩ := hrel
        by_cases hlt : k < cls.length
        · obtain ⟨y, hy⟩ : ∃ y, cls[k]? = some y := ⟨_, List.getElem?_eq_getElem hlt⟩
          obtain ⟨ca, co, rfl, hca, hya⟩ := HC.out.row (i := k) (r := y.cl) (by rw [List.getElem?_map, hy]; rfl)
          have hok : y.ok w1 := HE.out y (List.mem_of_getElem? hy)
          have hyc := (hya.below HF.out hca).ld
          rw [Nat.mul_one] at hyc
          have HYE := hide hy
          have HLTK := hide hlt
          have HK64 : Hid (wrap64 ((k : Int) + 1) = (k : Int) + 1) := hide (wrap_succ hlt (by have := HC.out.room; omega))
          obtain ⟨yA, yc, yv⟩ := y
          have HY : Hid (RdN w1 14 (.slice yA yv.length yc) (yv.map VD.cl)) := hide hok
          clear hya hok hy hca hlt hi
          go_wp2_with fail
          clear hyc
          go_loopw [29] (fun z wr => ∃ i : Nat, i ≤ yv.length ∧ z = .int .i64 (i : Nat) ∧ Hid ((yv.take i).all validD = true) ∧ Hid (Below w1.heap.size w1 wr)) (fun z _ => yv.length - (intOf z).toNat)
          case atStart => exact ⟨0, Nat.zero_le _, rfl, hide rfl, HF⟩
          case round =>
            obtain ⟨wo, rfl⟩ : ∃ x, x = wr := ⟨_, rfl⟩
            clear HF
            obtain ⟨i, hi, rfl, HV2, HF⟩ := hrel
            by_cases hlt : i < yv.length
            · obtain ⟨x, hx⟩ : ∃ x, yv[i]? = some x := ⟨_, List.getElem?_eq_getElem hlt⟩
              obtain ⟨ba, oa, rfl, hba, hxa⟩ := HY.out.row (i := i) (r := x.cl) (by rw [List.getElem?_map, hx]; rfl)
              have HX : Hid (wo.rangeAt ba (oa + i * 14) x.cl) := hide (hxa.below HF.out hba)
              have h64 : wrap64 ((i : Int) + 1) = (i : Int) + 1 := wrap_succ hlt (by have := HY.out.room; omega)
              have HXE := hide hx
              have H64 := hide h64
              have HLT := hide hlt
              obtain ⟨v, hv⟩ : ∃ v, validB x.t x.o x.a x.b x.c x.d = v := ⟨_, rfl⟩
              have HVV := hide hv
              clear hxa hba hx hv
              repeat (first | ((with_reducible show wpList _ _ _ (_ :: _) _ _); first | (refine wpList_load_g (by rfl) _ _ rfl ba (oa + i * 14) (by rfl) x.cl _ HX.out uV rfl iV ?_) | ((fail_if_success (refine wpList_store_new (by rfl) _ _ _ rfl _ _ x.cl (by rfl) (by rfl) (by rfl) iV (by kernel_rfl) ?_)); go_step)) | ((fail_if_success (with_reducible show wpList _ _ _ (_ :: _) _ _)); go_step))
              refine wpList_store_new (by rfl) _ _ _ rfl _ _ x.cl (by rfl) (by rfl) (by rfl) iV (by kernel_rfl) ?_
              obtain ⟨z, hz⟩ : ∃ z, wo.heap.size = z := ⟨_, rfl⟩
              rw [hz]
              obtain ⟨wz, hwz⟩ : ∃ u, wo.alloc (.cells x.cl.toArray 27) = u := ⟨_, rfl⟩
              have HZ : Hid (Whole wz z 27 x.cl.toArray) := hide (by rw [← hwz, ← hz]; exact Whole.new _ _ _)
              have HFZ : Hid (Below w1.heap.size w1 wz) := hide (by rw [← hwz]; exact HF.out.alloc HF.out.size _)
              rw [hwz]
              clear hwz hz HX
              repeat (first | ((with_reducible show wpList _ _ _ (_ :: _) _ _); first | (refine wpList_load_g (by rfl) _ _ rfl z 0 (by rfl) x.cl _ (Whole.range HZ.out) uV rfl iV ?_) | go_step) | ((fail_if_success (with_reducible show wpList _ _ _ (_ :: _) _ _)); go_step))
              refine (rvalid_any x.t x.o x.a x.b x.c x.d _).mono ?_
              rintro en wv ⟨rfl, hb⟩
              rw [HVV.out]
              have HFV := hide (HFZ.out.trans (hb.mono HFZ.out.size))
              clear hb HZ
              simp only []
              cases v with
              | false =>
                go_wp2_with fail
                go_ret
                exact ⟨by rw [validO_cls (d := ⟨kind, code, res, oA, oc, out, _, cc, cls, steps⟩) (all_bad HYE.out (all_bad HXE.out HVV.out))]; (try rfl), HB.out.trans (HFV.out.mono HB.out.size)⟩
              | true =>
                go_wp2_with fail
                exact ⟨⟨i + 1, HLT.out, by rw [H64.out]; rfl, hide (by rw [all_take HXE.out, HV2.out]; exact HVV.out), HFV⟩, by rw [H64.out]; exact fn_meas HLT.out⟩
            · obtain rfl : i = yv.length := by omega
              clear hlt
              rw [List.take_length] at HV2
              go_wp2_with fail
              have hr : ∃ i : Nat, i ≤ cls.length ∧ (Value.int .i64 (wrap64 ((k : Int) + 1))) = .int .i64 (i : Nat) ∧ Hid ((cls.take i).all (fun l => l.vs.all validD) = true) ∧ Hid (Below w1.heap.size w1 wo) := ⟨k + 1, HLTK.out, by rw [HK64.out]; rfl, hide (by rw [all_take HYE.out, HW.out]; exact HV2.out), HF⟩
              exact ⟨hr, by rw [HK64.out]; exact fn_meas HLTK.out⟩
        · obtain rfl : k = cls.length := by omega
          clear hlt
          rw [List.take_length] at HW
          have HAF := hide (HA.out.below' HF.out)
          have k2 : wp.cell? ⟨w.heap.size, 2, none⟩ = some (.int .i64 res.t) := HAF.out.cell 2
          have HRR : Hid (wp.rangeAt w.heap.size 2 res.cl) := hide (fun j v hv => by
            have h := Whole.range (l := (OD.mk kind code res oA oc out cA cc cls steps).cl) HAF.out (j + 2) v (by
              show ([Value.int .i64 kind, Value.int .i64 code] ++ (res.cl ++ _))[j + 2]? = some v
              rw [List.getElem?_append_right (by simp)]
              have hj := (List.getElem?_eq_some_iff.1 hv).1
              rw [List.getElem?_append_left (by simpa using hj)]
              simpa using hv)
            rw [Nat.zero_add] at h
            rw [Nat.add_comm 2 j]; exact h)
          have hval := validO_res (d := ⟨kind, code, res, oA, oc, out, cA, cc, cls, steps⟩) HV.out HW.out
          obtain ⟨v, hv⟩ : ∃ v, validB res.t res.o res.a res.b res.c res.d = v := ⟨_, rfl⟩
          have HVV := hide hv
          have HVAL := hide hval
          clear hval hv
          cases e : res.t == 0 with
          | true =>
            go_wp2_with fail
            go_ret
            exact ⟨by rw [HVAL.out]; show _ = Ending.returned (.bool (res.t == 0 || validD res)); rw [e]; rfl, HB.out.trans (HF.out.mono HB.out.size)⟩
          | false =>
            repeat (first | ((with_reducible show wpList _ _ _ (_ :: _) _ _); first | (refine wpList_load_g (by rfl) _ _ rfl w.heap.size 2 (by rfl) res.cl _ HRR.out uV rfl iV ?_) | go_step) | ((fail_if_success (with_reducible show wpList _ _ _ (_ :: _) _ _)); go_step))
            refine (rvalid_any res.t res.o res.a res.b res.c res.d _).mono ?_
            rintro en wv ⟨rfl, hb⟩
            rw [HVV.out]
            have HFV := hide (HF.out.trans (hb.mono HF.out.size))
            clear hb k2
            simp only []
            go_wp2_with fail
            go_ret
            exact ⟨by rw [HVAL.out]; show _ = Ending.returned (.bool (res.t == 0 || validD res)); rw [e, show validD res = v from HVV.out]; rfl, HB.out.trans (HFV.out.mono HB.out.size)⟩
end Go.Proofs.YtojeaghljebbbaaDoor

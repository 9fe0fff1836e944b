/-
  Layer 19 (refine): the law RefineSteps.
-/
import Derived.Test.YtojeaghljebbbaaDoorRnI
namespace Go.Proofs.YtojeaghljebbbaaDoor
open Go.RowKit

theorem stepM_le (n : Int) (s : Nat) : stepM n s ≤ 1048576 := by
  unfold stepM
  split <;> omega
theorem stepM_ge (n : Int) (s : Nat) : min (max n 0) 1048576 ≤ stepM n s := by
  have h3 : (max n 0 + 1) * 1 ≤ (max n 0 + 1) * ((s : Int) + 1) := Int.mul_le_mul_of_nonneg_left (by omega) (by omega)
  unfold stepM
  split <;> omega
theorem stepM_mono {n k : Int} (s : Nat) (h : n ≤ k) : stepM n s ≤ stepM k s := by
  have h3 : (max n 0 + 1) * ((s : Int) + 1) ≤ (max k 0 + 1) * ((s : Int) + 1) := Int.mul_le_mul_of_nonneg_right (by omega) (by omega)
  unfold stepM
  split <;> split <;> omega
structure StS (w W : World) (gA A : Option Addr) (gc fc : Nat) (gl : List GlD) (fl : List FnD) : Prop where
  BX : Whole W w.heap.size 40 #[.slice gA gl.length gc, .slice A fl.length fc]
  M : (MdD.mk gA gc gl A fc fl).ok W
  B : Below w.heap.size w W
theorem StS.next {w W W' : World} {gA A : Option Addr} {gc fc : Nat} {gl : List GlD} {fl : List FnD} (h : StS w W gA A gc fc gl fl) (hb : Below W.heap.size W W') : StS w W' gA A gc fc gl fl :=
  ⟨h.BX.below' hb, h.M.below hb, h.B.trans (hb.mono h.B.size)⟩

set_option maxRecDepth 100000 in
set_option maxHeartbeats 4000000 in
theorem steps_law (n k : Int) (hn : I6 n) (hk : I6 k) (m : MdD) (w : World) (hT : Tab w) (hm : m.ok w) :
    Calls Tryd.prog 5 #[.int .i64 n, .int .i64 k, .agg m.cells.toArray] w fun e w' => e = .returned (.bool true) ∧ Below w.heap.size w w' := by
  obtain ⟨gA, gc, gl, A, fc, fl⟩ := m
  show Calls Tryd.prog 5 #[.int .i64 n, .int .i64 k, .agg #[.slice gA gl.length gc, .slice A fl.length fc]] w _
  obtain ⟨w1, hw1⟩ : ∃ z, w.alloc (.cells #[.slice gA gl.length gc, .slice A fl.length fc] 40) = z := ⟨_, rfl⟩
  have hb1 : Below w.heap.size w w1 := by rw [← hw1]; exact (Below.refl _ _).alloc (Nat.le_refl _) _
  have HS : Hid (StS w w1 gA A gc fc gl fl) := hide ⟨by rw [← hw1]; exact Whole.new w _ _, hm.below hb1, hb1⟩
  have HFIT : Hid (Fits fl.length) := hide hm.fnsB
  have HT := hide hT
  have HI := hide hn
  have HK := hide hk
  have c1 : w1.cell? ⟨w.heap.size, 1, none⟩ = some (.slice A fl.length fc) := HS.out.BX.cell 1
  clear hT hm hb1 hn hk
  by_cases h40 : 40 < fl.length
  · go_enter Tryd.func5, Tryd.ntmps5
    go_upto_region 1 with fail
    clear hw1
    go_wp2_with fail
    refine (awake_any _ (by exact HT.out.below HS.out.B)).mono ?_
    rintro en w2 ⟨rfl, hb⟩
    replace HS := hide (HS.out.next hb)
    clear hb c1
    go_wp2_with fail
    go_ret
    exact ⟨rfl, HS.out.B⟩
  go_enter Tryd.func5, Tryd.ntmps5
  go_upto_region 1 with fail
  clear hw1
  go_wp2_with fail
  clear c1 h40
  go_loopw [18] (fun z wr => ∃ i : Nat, i ≤ fl.length ∧ z = .int .i64 (i : Nat) ∧ Hid (∀ (j : Nat) f, j < i → fl[j]? = some f → f.blocks.length ≤ 500) ∧ Hid (Below w1.heap.size w1 wr)) (fun z _ => fl.length - (intOf z).toNat)
  case atStart => exact ⟨0, Nat.zero_le _, rfl, hide (fun j f hj => by omega), hide (Below.refl _ _)⟩
  case round =>
    obtain ⟨wq, rfl⟩ : ∃ x, x = wr := ⟨_, rfl⟩
    obtain ⟨i, hi, rfl, HO, HF⟩ := hrel
    by_cases hlt : i < fl.length
    · obtain ⟨f, hb⟩ : ∃ f, fl[i]? = some f := ⟨_, List.getElem?_eq_getElem hlt⟩
      obtain ⟨ba, oa, rfl, hba, hxa⟩ := HS.out.M.fns.row (i := i) (r := f.cells) (by rw [List.getElem?_map, hb]; rfl)
      have hx := hxa.below HF.out hba
      have h64 : wrap64 ((i : Int) + 1) = (i : Int) + 1 := IntWalk.wrap64_in _ ⟨by omega, by have := HFIT.out; unfold Fits at this; omega⟩
      have d0 : wq.cell? ⟨ba, oa + i * 5, none⟩ = some (.string f.nm) := hx 0 _ rfl
      have d1 : wq.cell? ⟨ba, oa + i * 5 + 1, none⟩ = some (.slice f.paramsA f.params.length f.paramsc) := hx 1 _ rfl
      have d2 : wq.cell? ⟨ba, oa + i * 5 + 2, none⟩ = some (.int .i64 f.res) := hx 2 _ rfl
      have d3 : wq.cell? ⟨ba, oa + i * 5 + 3, none⟩ = some (.slice f.regsA f.regs.length f.regsc) := hx 3 _ rfl
      have d4 : wq.cell? ⟨ba, oa + i * 5 + 4, none⟩ = some (.slice f.blocksA f.blocks.length f.blocksc) := hx 4 _ rfl
      have HLT := hide hlt
      have H64 := hide h64
      have HFI := hide hb
      clear hxa hx hb hba
      by_cases h5 : 500 < f.blocks.length
      · go_wp2_with fail
        refine (awake_any _ (by exact HT.out.below (HS.out.B.trans ((HF.out.alloc HF.out.size _).mono HS.out.B.size)))).mono ?_
        rintro en wb ⟨rfl, hbb⟩
        have HE : Hid (Below w.heap.size w wb) := hide ((HS.out.B.trans ((HF.out.alloc HF.out.size _).mono HS.out.B.size)).trans (hbb.mono (by rw [World.size_alloc]; have := HF.out.size; have := HS.out.B.size; omega)))
        clear hbb
        go_wp2_with fail
        go_ret
        exact ⟨rfl, HE.out⟩
      · have H5 := hide h5
        go_wp2_with fail
        exact ⟨⟨i + 1, HLT.out, rfl, hide (fun j f' hj hf => by
          rcases Nat.lt_or_ge j i with h | h
          · exact HO.out j f' h hf
          · obtain rfl : j = i := by omega
            rw [HFI.out] at hf
            injection hf with hf
            subst hf
            have := H5.out
            omega), hide (HF.out.alloc HF.out.size _)⟩, fn_meas HLT.out⟩
    · obtain rfl : i = fl.length := by omega
      clear hlt
      replace HS := hide (HS.out.next HF.out)
      have HB5 : Hid (∀ f ∈ (MdD.mk gA gc gl A fc fl).fns, f.blocks.length ≤ 1000) := hide (fun f hf => by
        obtain ⟨j, hj⟩ := List.getElem?_of_mem hf
        have := HO.out j f (by have := (List.getElem?_eq_some_iff.1 hj).1; exact this) hj
        omega)
      obtain ⟨S, hS⟩ : ∃ s, maxS fl = s := ⟨_, rfl⟩
      have HSS : Hid (maxS (MdD.mk gA gc gl A fc fl).fns = S) := hide hS
      clear hS HF HO
      have c0 : wq.cell? ⟨w.heap.size, 0, none⟩ = some (.slice gA gl.length gc) := HS.out.BX.cell 0
      have c1 : wq.cell? ⟨w.heap.size, 1, none⟩ = some (.slice A fl.length fc) := HS.out.BX.cell 1
      go_wp2_with fail
      refine (step_any n HI.out (MdD.mk gA gc gl A fc fl) _ (by exact HS.out.M) (by exact HB5.out)).mono ?_
      rintro en w2 ⟨rfl, hb⟩
      rw [HSS.out]
      replace HS := hide (HS.out.next hb)
      clear hb c0 c1
      have c0 : w2.cell? ⟨w.heap.size, 0, none⟩ = some (.slice gA gl.length gc) := HS.out.BX.cell 0
      have c1 : w2.cell? ⟨w.heap.size, 1, none⟩ = some (.slice A fl.length fc) := HS.out.BX.cell 1
      obtain ⟨N, hN⟩ : ∃ x, stepM n S = x := ⟨_, rfl⟩
      rw [hN]
      have HN := hide hN
      have q1 : ¬ N < min (max n 0) 1048576 := by have := stepM_ge n S; omega
      have q2 : ¬ 1048576 < N := by have := stepM_le n S; omega
      have Q1 := hide q1
      have Q2 := hide q2
      clear hN q1 q2
      go_wp2_with fail
      refine (rstep_any n HI.out (MdD.mk gA gc gl A fc fl) _ (by exact HS.out.M) (by exact HB5.out)).mono ?_
      rintro en w3 ⟨rfl, hb⟩
      rw [HSS.out, HN.out]
      replace HS := hide (HS.out.next hb)
      clear hb c0 c1
      have c0 : w3.cell? ⟨w.heap.size, 0, none⟩ = some (.slice gA gl.length gc) := HS.out.BX.cell 0
      have c1 : w3.cell? ⟨w.heap.size, 1, none⟩ = some (.slice A fl.length fc) := HS.out.BX.cell 1
      have q1 := Q1.out
      have q2 := Q2.out
      go_wp2_with fail
      refine (awake_any _ (by exact HT.out.below HS.out.B)).mono ?_
      rintro en w4 ⟨rfl, hb⟩
      replace HS := hide (HS.out.next hb)
      clear hb c0 c1 q1 q2
      have c0 : w4.cell? ⟨w.heap.size, 0, none⟩ = some (.slice gA gl.length gc) := HS.out.BX.cell 0
      have c1 : w4.cell? ⟨w.heap.size, 1, none⟩ = some (.slice A fl.length fc) := HS.out.BX.cell 1
      by_cases hkn : k < n
      · go_wp2_with fail
        go_ret
        exact ⟨rfl, HS.out.B⟩
      · have HKN := hide hkn
        go_wp2_with fail
        refine (step_any k HK.out (MdD.mk gA gc gl A fc fl) _ (by exact HS.out.M) (by exact HB5.out)).mono ?_
        rintro en w5 ⟨rfl, hb⟩
        rw [HSS.out]
        replace HS := hide (HS.out.next hb)
        clear hb c0 c1
        have hle : N ≤ stepM k S := by rw [← HN.out]; exact stepM_mono S (by have := HKN.out; omega)
        obtain ⟨N2, hN2⟩ : ∃ x, stepM k S = x := ⟨_, rfl⟩
        rw [hN2] at hle ⊢
        clear hN2
        go_wp2_with fail
        go_ret
        exact ⟨rfl, HS.out.B⟩
end Go.Proofs.YtojeaghljebbbaaDoor

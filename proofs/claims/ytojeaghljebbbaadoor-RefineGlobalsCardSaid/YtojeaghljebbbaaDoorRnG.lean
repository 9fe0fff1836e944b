/-
  Layer 19 (refine): StepBound of both.
-/
import Derived.Test.YtojeaghljebbbaaDoorDeepM
import Derived.Deep.Cut
import Derived.Lib.MinMax
namespace Go.Proofs.YtojeaghljebbbaaDoor
open Go.RowKit

def sumI : List BkD → Nat
  | [] => 0
  | b :: r => b.ins.length + sumI r
theorem sumI_app (a b : List BkD) : sumI (a ++ b) = sumI a + sumI b := by
  induction a with
  | nil => simp [sumI]
  | cons x r ih => simp [sumI, ih]; omega
theorem sumI_take {l : List BkD} {i : Nat} {b : BkD} (h : l[i]? = some b) : sumI (l.take (i + 1)) = sumI (l.take i) + b.ins.length := by
  rw [List.take_add_one, h, sumI_app]
  simp [sumI]
theorem sumI_le : ∀ (l : List BkD) (n : Nat), (∀ b ∈ l, b.ins.length ≤ n) → sumI l ≤ l.length * n
  | [], _, _ => Nat.zero_le _
  | b :: r, n, h => by
    have h1 := h b (by simp)
    have h2 := sumI_le r n (fun x hx => h x (by simp [hx]))
    simp only [sumI, List.length_cons, Nat.succ_mul]
    omega
def sizeF (f : FnD) : Nat := f.blocks.length + sumI f.blocks
theorem size_step {l : List BkD} {i : Nat} {b : BkD} (hm : l.length ≤ 1000) (hf : ∀ x ∈ l, Fits x.ins.length) (h : l[i]? = some b) :
    wrap64 (((l.length + sumI (l.take i) : Nat) : Int) + ((b.ins.length : Nat) : Int)) = ((l.length + sumI (l.take (i + 1)) : Nat) : Int) := by
  have h1 := sumI_le (l.take (i + 1)) 17592186044416 (fun x hx => hf x (List.mem_of_mem_take hx))
  have h2 : (l.take (i + 1)).length ≤ 1000 := by rw [List.length_take]; omega
  have h3 := sumI_take h
  have h4 : (l.take (i + 1)).length * 17592186044416 ≤ 1000 * 17592186044416 := Nat.mul_le_mul_right _ h2
  rw [h3] at h1 ⊢
  rw [IntWalk.wrap64_in _ ⟨by omega, by omega⟩]
  omega
theorem size_meas {i n : Nat} (h : i < n) : n - (intOf (.int .i64 ((i : Int) + 1))).toNat < n - (intOf (.int .i64 (i : Int))).toNat := by
  simp only [intOf]
  omega

set_option maxRecDepth 100000 in
set_option maxHeartbeats 4000000 in
theorem size_any (f : FnD) (w : World) (hf : f.ok w) (hm : f.blocks.length ≤ 1000) :
    Calls Tryd.prog 29 #[.agg #[.string f.nm, .slice f.paramsA f.params.length f.paramsc, .int .i64 f.res, .slice f.regsA f.regs.length f.regsc, .slice f.blocksA f.blocks.length f.blocksc]] w fun e w' => e = .returned (.int .i64 (sizeF f : Nat)) ∧ Below w.heap.size w w' := by
  have hN0 := hf.blocks
  have HI : Hid (∀ x ∈ f.blocks, Fits x.ins.length) := hide (fun x hx => (hf.blocksO x hx).insB)
  obtain ⟨A, hAA⟩ : ∃ A, f.blocksA = A := ⟨_, rfl⟩
  rw [hAA] at hN0 ⊢
  clear hAA hf
  obtain ⟨w1, hw1⟩ : ∃ z, w.alloc (.cells #[.string f.nm, .slice f.paramsA f.params.length f.paramsc, .int .i64 f.res, .slice f.regsA f.regs.length f.regsc, .slice A f.blocks.length f.blocksc] 45) = z := ⟨_, rfl⟩
  have hA : Whole w1 w.heap.size 45 #[.string f.nm, .slice f.paramsA f.params.length f.paramsc, .int .i64 f.res, .slice f.regsA f.regs.length f.regsc, .slice A f.blocks.length f.blocksc] := by rw [← hw1]; exact Whole.new w _ _
  have HB : Hid (Below w.heap.size w w1) := hide (by rw [← hw1]; exact (Below.refl _ _).alloc (Nat.le_refl _) _)
  have HN : Hid (RdN w1 7 (.slice A f.blocks.length f.blocksc) (f.blocks.map BkD.cells)) := hide (hN0.below' HB.out)
  have HM := hide hm
  have c4 : w1.cell? ⟨w.heap.size, 4, none⟩ = some (.slice A f.blocks.length f.blocksc) := hA.cell 4
  clear hA hN0 hm
  go_enter Tryd.func29, Tryd.ntmps29
  go_upto_region 1 with fail
  clear hw1
  go_wp2_with fail
  clear c4
  go_loopw [12, 3] (fun z s wr => ∃ i : Nat, i ≤ f.blocks.length ∧ z = .int .i64 (i : Nat) ∧ s = .int .i64 ((f.blocks.length + sumI (f.blocks.take i) : Nat) : Int) ∧ Hid (Below w1.heap.size w1 wr)) (fun z _ _ => f.blocks.length - (intOf z).toNat)
  case atStart => exact ⟨0, Nat.zero_le _, rfl, by simp [sumI], hide (Below.refl _ _)⟩
  case round =>
    obtain ⟨wq, rfl⟩ : ∃ x, x = wr := ⟨_, rfl⟩
    obtain ⟨i, hi, rfl, rfl, HF⟩ := hrel
    by_cases hlt : i < f.blocks.length
    · obtain ⟨b, hb⟩ : ∃ b, f.blocks[i]? = some b := ⟨_, List.getElem?_eq_getElem hlt⟩
      obtain ⟨ba, oa, rfl, hba, hxa⟩ := HN.out.row (i := i) (r := b.cells) (by rw [List.getElem?_map, hb]; rfl)
      have hx := hxa.below HF.out hba
      have h64 : wrap64 ((i : Int) + 1) = (i : Int) + 1 := IntWalk.wrap64_in _ ⟨by omega, by have := HM.out; omega⟩
      have hst := size_step HM.out HI.out hb
      obtain ⟨S1, hS1⟩ : ∃ s : Int, ((f.blocks.length + sumI (f.blocks.take i) : Nat) : Int) = s := ⟨_, rfl⟩
      rw [hS1] at hst ⊢
      obtain ⟨S2, hS2⟩ : ∃ s : Int, ((f.blocks.length + sumI (f.blocks.take (i + 1)) : Nat) : Int) = s := ⟨_, rfl⟩
      rw [hS2] at hst
      have HS2 := hide hS2
      have d0 : wq.cell? ⟨ba, oa + i * 7, none⟩ = some (.slice b.paramsA b.params.length b.paramsc) := hx 0 _ rfl
      have d1 : wq.cell? ⟨ba, oa + i * 7 + 1, none⟩ = some (.slice b.insA b.ins.length b.insc) := hx 1 _ rfl
      have d2 : wq.cell? ⟨ba, oa + i * 7 + 2, none⟩ = some (.int .i64 b.term.kind) := hx 2 _ rfl
      have d3 : wq.cell? ⟨ba, oa + i * 7 + 3, none⟩ = some (.slice b.term.argsA b.term.args.length b.term.argsc) := hx 3 _ rfl
      have d4 : wq.cell? ⟨ba, oa + i * 7 + 4, none⟩ = some (.slice b.term.casesA b.term.cases.length b.term.casesc) := hx 4 _ rfl
      have d5 : wq.cell? ⟨ba, oa + i * 7 + 5, none⟩ = some (.slice b.term.succsA b.term.succs.length b.term.succsc) := hx 5 _ rfl
      have d6 : wq.cell? ⟨ba, oa + i * 7 + 6, none⟩ = some (.int .i64 b.term.sym) := hx 6 _ rfl
      have HBX := hide (hba)
      have HLT := hide hlt
      have H64 := hide h64
      have HST := hide hst
      clear hxa hx hb hS1 hS2 hba hst
      go_wp2_with fail
      exact ⟨⟨i + 1, HLT.out, by rw [H64.out]; rfl, by rw [HST.out, HS2.out], hide (HF.out.alloc HF.out.size _)⟩, by rw [H64.out]; exact size_meas HLT.out⟩
    · obtain rfl : i = f.blocks.length := by omega
      clear hlt
      go_wp2_with fail
      go_ret
      exact ⟨by rw [List.take_length]; rfl, HB.out.trans (HF.out.mono HB.out.size)⟩
set_option maxRecDepth 100000 in
set_option maxHeartbeats 4000000 in
theorem rsize_any (f : FnD) (w : World) (hf : f.ok w) (hm : f.blocks.length ≤ 1000) :
    Calls Tryd.prog 30 #[.agg #[.string f.nm, .slice f.paramsA f.params.length f.paramsc, .int .i64 f.res, .slice f.regsA f.regs.length f.regsc, .slice f.blocksA f.blocks.length f.blocksc]] w fun e w' => e = .returned (.int .i64 (sizeF f : Nat)) ∧ Below w.heap.size w w' := by
  have hN0 := hf.blocks
  have HI : Hid (∀ x ∈ f.blocks, Fits x.ins.length) := hide (fun x hx => (hf.blocksO x hx).insB)
  obtain ⟨A, hAA⟩ : ∃ A, f.blocksA = A := ⟨_, rfl⟩
  rw [hAA] at hN0 ⊢
  clear hAA hf
  obtain ⟨w1, hw1⟩ : ∃ z, w.alloc (.cells #[.string f.nm, .slice f.paramsA f.params.length f.paramsc, .int .i64 f.res, .slice f.regsA f.regs.length f.regsc, .slice A f.blocks.length f.blocksc] 45) = z := ⟨_, rfl⟩
  have hA : Whole w1 w.heap.size 45 #[.string f.nm, .slice f.paramsA f.params.length f.paramsc, .int .i64 f.res, .slice f.regsA f.regs.length f.regsc, .slice A f.blocks.length f.blocksc] := by rw [← hw1]; exact Whole.new w _ _
  have HB : Hid (Below w.heap.size w w1) := hide (by rw [← hw1]; exact (Below.refl _ _).alloc (Nat.le_refl _) _)
  have HN : Hid (RdN w1 7 (.slice A f.blocks.length f.blocksc) (f.blocks.map BkD.cells)) := hide (hN0.below' HB.out)
  have HM := hide hm
  have c4 : w1.cell? ⟨w.heap.size, 4, none⟩ = some (.slice A f.blocks.length f.blocksc) := hA.cell 4
  clear hA hN0 hm
  go_enter Tryd.func30, Tryd.ntmps30
  go_upto_region 1 with fail
  clear hw1
  go_wp2_with fail
  clear c4
  go_loopw [12, 3] (fun z s wr => ∃ i : Nat, i ≤ f.blocks.length ∧ z = .int .i64 (i : Nat) ∧ s = .int .i64 ((f.blocks.length + sumI (f.blocks.take i) : Nat) : Int) ∧ Hid (Below w1.heap.size w1 wr)) (fun z _ _ => f.blocks.length - (intOf z).toNat)
  case atStart => exact ⟨0, Nat.zero_le _, rfl, by simp [sumI], hide (Below.refl _ _)⟩
  case round =>
    obtain ⟨wq, rfl⟩ : ∃ x, x = wr := ⟨_, rfl⟩
    obtain ⟨i, hi, rfl, rfl, HF⟩ := hrel
    by_cases hlt : i < f.blocks.length
    · obtain ⟨b, hb⟩ : ∃ b, f.blocks[i]? = some b := ⟨_, List.getElem?_eq_getElem hlt⟩
      obtain ⟨ba, oa, rfl, hba, hxa⟩ := HN.out.row (i := i) (r := b.cells) (by rw [List.getElem?_map, hb]; rfl)
      have hx := hxa.below HF.out hba
      have h64 : wrap64 ((i : Int) + 1) = (i : Int) + 1 := IntWalk.wrap64_in _ ⟨by omega, by have := HM.out; omega⟩
      have hst := size_step HM.out HI.out hb
      obtain ⟨S1, hS1⟩ : ∃ s : Int, ((f.blocks.length + sumI (f.blocks.take i) : Nat) : Int) = s := ⟨_, rfl⟩
      rw [hS1] at hst ⊢
      obtain ⟨S2, hS2⟩ : ∃ s : Int, ((f.blocks.length + sumI (f.blocks.take (i + 1)) : Nat) : Int) = s := ⟨_, rfl⟩
      rw [hS2] at hst
      have HS2 := hide hS2
      have d0 : wq.cell? ⟨ba, oa + i * 7, none⟩ = some (.slice b.paramsA b.params.length b.paramsc) := hx 0 _ rfl
      have d1 : wq.cell? ⟨ba, oa + i * 7 + 1, none⟩ = some (.slice b.insA b.ins.length b.insc) := hx 1 _ rfl
      have d2 : wq.cell? ⟨ba, oa + i * 7 + 2, none⟩ = some (.int .i64 b.term.kind) := hx 2 _ rfl
      have d3 : wq.cell? ⟨ba, oa + i * 7 + 3, none⟩ = some (.slice b.term.argsA b.term.args.length b.term.argsc) := hx 3 _ rfl
      have d4 : wq.cell? ⟨ba, oa + i * 7 + 4, none⟩ = some (.slice b.term.casesA b.term.cases.length b.term.casesc) := hx 4 _ rfl
      have d5 : wq.cell? ⟨ba, oa + i * 7 + 5, none⟩ = some (.slice b.term.succsA b.term.succs.length b.term.succsc) := hx 5 _ rfl
      have d6 : wq.cell? ⟨ba, oa + i * 7 + 6, none⟩ = some (.int .i64 b.term.sym) := hx 6 _ rfl
      have HBX := hide (hba)
      have HLT := hide hlt
      have H64 := hide h64
      have HST := hide hst
      clear hxa hx hb hS1 hS2 hba hst
      go_wp2_with fail
      exact ⟨⟨i + 1, HLT.out, by rw [H64.out]; rfl, by rw [HST.out, HS2.out], hide (HF.out.alloc HF.out.size _)⟩, by rw [H64.out]; exact size_meas HLT.out⟩
    · obtain rfl : i = f.blocks.length := by omega
      clear hlt
      go_wp2_with fail
      go_ret
      exact ⟨by rw [List.take_length]; rfl, HB.out.trans (HF.out.mono HB.out.size)⟩
end Go.Proofs.YtojeaghljebbbaaDoor
namespace Go.Proofs.YtojeaghljebbbaaDoor
open Go.RowKit

def maxS : List FnD → Nat
  | [] => 0
  | f :: r => max (sizeF f) (maxS r)
theorem maxS_app (a b : List FnD) : maxS (a ++ b) = max (maxS a) (maxS b) := by
  induction a with
  | nil => simp [maxS]
  | cons x r ih => simp [maxS, ih, Nat.max_assoc]
theorem maxS_take {l : List FnD} {i : Nat} {f : FnD} (h : l[i]? = some f) : maxS (l.take (i + 1)) = max (maxS (l.take i)) (sizeF f) := by
  rw [List.take_add_one, h, maxS_app]
  simp [maxS]
theorem sizeF_le {f : FnD} {w : World} (hf : f.ok w) (hm : f.blocks.length ≤ 1000) : sizeF f ≤ 20000000000000000 := by
  have h1 := sumI_le f.blocks 17592186044416 (fun x hx => (hf.blocksO x hx).insB)
  have h4 : f.blocks.length * 17592186044416 ≤ 1000 * 17592186044416 := Nat.mul_le_mul_right _ hm
  unfold sizeF
  omega
theorem maxS_le : ∀ (l : List FnD) (n : Nat), (∀ f ∈ l, sizeF f ≤ n) → maxS l ≤ n
  | [], _, _ => Nat.zero_le _
  | f :: r, n, h => Nat.max_le.2 ⟨h f (by simp), maxS_le r n (fun x hx => h x (by simp [hx]))⟩
/-- What StepBound answers. -/
def stepM (n : Int) (s : Nat) : Int := if 1048576 ≤ (max n 0 + 1) * ((s : Int) + 1) then 1048576 else (max n 0 + 1) * ((s : Int) + 1)
theorem step_hi {n : Int} {s : Nat} (h : 1048576 / ((s : Int) + 1) ≤ max n 0) : stepM n s = 1048576 := by
  have h1 : (1048576 : Int) < (1048576 / ((s : Int) + 1) + 1) * ((s : Int) + 1) := Int.lt_ediv_add_one_mul_self _ (by omega)
  have h2 : (1048576 / ((s : Int) + 1) + 1) * ((s : Int) + 1) ≤ (max n 0 + 1) * ((s : Int) + 1) := Int.mul_le_mul_of_nonneg_right (by omega) (by omega)
  unfold stepM
  rw [if_pos (by omega)]
theorem step_lo {n : Int} {s : Nat} (h : max n 0 < 1048576 / ((s : Int) + 1)) : wrap64 (wrap64 (max n 0 + 1) * ((s : Int) + 1)) = stepM n s := by
  have h1 : (max n 0 + 1) * ((s : Int) + 1) ≤ 1048576 / ((s : Int) + 1) * ((s : Int) + 1) := Int.mul_le_mul_of_nonneg_right (by omega) (by omega)
  have h2 : 1048576 / ((s : Int) + 1) * ((s : Int) + 1) ≤ 1048576 := Int.ediv_mul_le _ (by omega)
  have h3 : (max n 0 + 1) * 1 ≤ (max n 0 + 1) * ((s : Int) + 1) := Int.mul_le_mul_of_nonneg_left (by omega) (by omega)
  rw [IntWalk.wrap64_in (max n 0 + 1) ⟨by omega, by omega⟩]
  unfold stepM
  by_cases he : 1048576 ≤ (max n 0 + 1) * ((s : Int) + 1)
  · rw [if_pos he, IntWalk.wrap64_in _ ⟨by omega, by omega⟩]
    omega
  · rw [if_neg he, IntWalk.wrap64_in _ ⟨by omega, by omega⟩]
/-- The same, as the reference reckons it. -/
theorem rstep_hi {n : Int} {s : Nat} (h : 1048576 ≤ max n 0 ∨ 1048576 ≤ s) : stepM n s = 1048576 := by
  have h3 : (max n 0 + 1) * 1 ≤ (max n 0 + 1) * ((s : Int) + 1) := Int.mul_le_mul_of_nonneg_left (by omega) (by omega)
  have h4 : 1 * ((s : Int) + 1) ≤ (max n 0 + 1) * ((s : Int) + 1) := Int.mul_le_mul_of_nonneg_right (by omega) (by omega)
  unfold stepM
  rw [if_pos (by omega)]
theorem rstep_lo {n : Int} {s : Nat} (h : max n 0 < 1048576) (k : s < 1048576) : min (wrap64 (wrap64 (max n 0 + 1) * wrap64 (1 + (s : Int)))) 1048576 = stepM n s := by
  have h3 : (max n 0 + 1) * ((s : Int) + 1) ≤ 1048576 * ((s : Int) + 1) := Int.mul_le_mul_of_nonneg_right (by omega) (by omega)
  have h4 : 0 ≤ (max n 0 + 1) * ((s : Int) + 1) := Int.mul_nonneg (by omega) (by omega)
  rw [IntWalk.wrap64_in (max n 0 + 1) ⟨by omega, by omega⟩, IntWalk.wrap64_in (1 + (s : Int)) ⟨by omega, by omega⟩, Int.add_comm 1 (s : Int), IntWalk.wrap64_in _ ⟨by omega, by omega⟩]
  unfold stepM
  by_cases he : 1048576 ≤ (max n 0 + 1) * ((s : Int) + 1)
  · rw [if_pos he, Int.min_def]
    split <;> omega
  · rw [if_neg he, Int.min_def]
    split <;> omega
theorem rstepA {n S : Int} {s : Nat} (hS : (s : Int) = S) (hn : n < 0) (k : S < 1048576) : min (wrap64 (wrap64 (1 + S))) 1048576 = stepM n s := by
  have h := rstep_lo (n := n) (s := s) (by omega) (by omega)
  rw [show max n 0 = 0 by omega, show wrap64 (0 + 1) = 1 from IntWalk.wrap64_in _ ⟨by omega, by omega⟩, Int.one_mul, hS] at h
  exact h
theorem rstepB {n S : Int} {s : Nat} (hS : (s : Int) = S) (h0 : 0 ≤ n) (hn : n < 1048576) (k : S < 1048576) : min (wrap64 ((n + 1) * wrap64 (1 + S))) 1048576 = stepM n s := by
  have h := rstep_lo (n := n) (s := s) (by omega) (by omega)
  rw [show max n 0 = n by omega, show wrap64 (n + 1) = n + 1 from IntWalk.wrap64_in _ ⟨by omega, by omega⟩, hS] at h
  exact h
theorem max_cast (a b : Nat) : max (a : Int) (b : Int) = ((max a b : Nat) : Int) := by omega
theorem fn_meas {i n : Nat} (h : i < n) : n - (intOf (.int .i64 ((i : Int) + 1))).toNat < n - (intOf (.int .i64 (i : Int))).toNat := by
  simp only [intOf]
  omega

set_option maxRecDepth 100000 in
set_option maxHeartbeats 4000000 in
theorem step_any (n : Int) (hn : I6 n) (m : MdD) (w : World) (hf : m.ok w) (hm : ∀ f ∈ m.fns, f.blocks.length ≤ 1000) :
    Calls Tryd.prog 15 #[.int .i64 n, .agg #[.slice m.glsA m.gls.length m.glsc, .slice m.fnsA m.fns.length m.fnsc]] w fun e w' => e = .returned (.int .i64 (stepM n (maxS m.fns))) ∧ Below w.heap.size w w' := by
  have hN0 := hf.fns
  have hO0 := hf.fnsO
  have hFit := hf.fnsB
  obtain ⟨A, hAA⟩ : ∃ A, m.fnsA = A := ⟨_, rfl⟩
  rw [hAA] at hN0 ⊢
  clear hAA hf
  obtain ⟨w1, hw1⟩ : ∃ z, w.alloc (.cells #[.slice m.glsA m.gls.length m.glsc, .slice A m.fns.length m.fnsc] 40) = z := ⟨_, rfl⟩
  have hA : Whole w1 w.heap.size 40 #[.slice m.glsA m.gls.length m.glsc, .slice A m.fns.length m.fnsc] := by rw [← hw1]; exact Whole.new w _ _
  have HB : Hid (Below w.heap.size w w1) := hide (by rw [← hw1]; exact (Below.refl _ _).alloc (Nat.le_refl _) _)
  have HN : Hid (RdN w1 5 (.slice A m.fns.length m.fnsc) (m.fns.map FnD.cells)) := hide (hN0.below' HB.out)
  have HO : Hid (∀ f ∈ m.fns, f.ok w1) := hide (fun f hx => (hO0 f hx).below HB.out)
  have HM := hide hm
  have HFIT := hide hFit
  have HI := hide hn
  have c1 : w1.cell? ⟨w.heap.size, 1, none⟩ = some (.slice A m.fns.length m.fnsc) := hA.cell 1
  clear hA hN0 hm hO0 hFit hn
  go_enter Tryd.func15, Tryd.ntmps15
  go_upto_region 1 with fail
  clear hw1
  go_wp2_with fail
  clear c1
  go_loopw [11, 5] (fun z s wr => ∃ i : Nat, i ≤ m.fns.length ∧ z = .int .i64 (i : Nat) ∧ s = .int .i64 ((maxS (m.fns.take i) + 1 : Nat) : Int) ∧ Hid (Below w1.heap.size w1 wr)) (fun z _ _ => m.fns.length - (intOf z).toNat)
  case atStart => exact ⟨0, Nat.zero_le _, rfl, by simp [maxS], hide (Below.refl _ _)⟩
  case round =>
    obtain ⟨wq, rfl⟩ : ∃ x, x = wr := ⟨_, rfl⟩
    obtain ⟨i, hi, rfl, rfl, HF⟩ := hrel
    by_cases hlt : i < m.fns.length
    · obtain ⟨f, hb⟩ : ∃ f, m.fns[i]? = some f := ⟨_, List.getElem?_eq_getElem hlt⟩
      obtain ⟨ba, oa, rfl, hba, hxa⟩ := HN.out.row (i := i) (r := f.cells) (by rw [List.getElem?_map, hb]; rfl)
      have hx := hxa.below HF.out hba
      have h64 : wrap64 ((i : Int) + 1) = (i : Int) + 1 := IntWalk.wrap64_in _ ⟨by omega, by have := HFIT.out; unfold Fits at this; omega⟩
      have hok : f.ok wq := (HO.out f (List.mem_of_getElem? hb)).below HF.out
      have hmb := HM.out f (List.mem_of_getElem? hb)
      have hsz := sizeF_le hok hmb
      have hst : wrap64 (1 + ((sizeF f : Nat) : Int)) = ((sizeF f + 1 : Nat) : Int) := by rw [IntWalk.wrap64_in _ ⟨by omega, by omega⟩]; omega
      have hmx := maxS_take hb
      have d0 : wq.cell? ⟨ba, oa + i * 5, none⟩ = some (.string f.nm) := hx 0 _ rfl
      have d1 : wq.cell? ⟨ba, oa + i * 5 + 1, none⟩ = some (.slice f.paramsA f.params.length f.paramsc) := hx 1 _ rfl
      have d2 : wq.cell? ⟨ba, oa + i * 5 + 2, none⟩ = some (.int .i64 f.res) := hx 2 _ rfl
      have d3 : wq.cell? ⟨ba, oa + i * 5 + 3, none⟩ = some (.slice f.regsA f.regs.length f.regsc) := hx 3 _ rfl
      have d4 : wq.cell? ⟨ba, oa + i * 5 + 4, none⟩ = some (.slice f.blocksA f.blocks.length f.blocksc) := hx 4 _ rfl
      have HOK := hide hok
      have HMB := hide hmb
      have HLT := hide hlt
      have H64 := hide h64
      have HST := hide hst
      have HMX := hide hmx
      clear hxa hx hb hba hok hmb hsz hmx
      go_wp2_with fail
      refine (size_any f _ (by exact HOK.out.below ((Below.refl _ _).alloc (Nat.le_refl _) _)) (by exact HMB.out)).mono ?_
      rintro en wb ⟨rfl, hbb⟩
      have HF2 : Hid (Below w1.heap.size w1 wb) := hide ((HF.out.alloc HF.out.size _).trans (hbb.mono (by rw [World.size_alloc]; have := HF.out.size; omega)))
      clear hbb
      go_wp2_with fail
      exact ⟨⟨i + 1, HLT.out, by rw [H64.out]; rfl, by rw [HMX.out, max_cast]; (try rfl), HF2⟩, by rw [H64.out]; exact fn_meas HLT.out⟩
    · obtain rfl : i = m.fns.length := by omega
      clear hlt
      rw [List.take_length]
      have hF : maxS m.fns ≤ 20000000000000000 := maxS_le _ _ (fun f hf => sizeF_le (HO.out f hf) (HM.out f hf))
      clear hF
      go_wp2_with fail
      · rename_i h
        go_ret
        exact ⟨by rw [step_hi h]; (try rfl), HB.out.trans (HF.out.mono HB.out.size)⟩
      · rename_i h
        go_ret
        exact ⟨by rw [← step_lo h]; (try rfl), HB.out.trans (HF.out.mono HB.out.size)⟩
set_option maxRecDepth 100000 in
set_option maxHeartbeats 4000000 in
theorem rstep_any (n : Int) (hn : I6 n) (m : MdD) (w : World) (hf : m.ok w) (hm : ∀ f ∈ m.fns, f.blocks.length ≤ 1000) :
    Calls Tryd.prog 16 #[.int .i64 n, .agg #[.slice m.glsA m.gls.length m.glsc, .slice m.fnsA m.fns.length m.fnsc]] w fun e w' => e = .returned (.int .i64 (stepM n (maxS m.fns))) ∧ Below w.heap.size w w' := by
  have hN0 := hf.fns
  have hO0 := hf.fnsO
  have hFit := hf.fnsB
  obtain ⟨A, hAA⟩ : ∃ A, m.fnsA = A := ⟨_, rfl⟩
  rw [hAA] at hN0 ⊢
  clear hAA hf
  obtain ⟨w1, hw1⟩ : ∃ z, w.alloc (.cells #[.slice m.glsA m.gls.length m.glsc, .slice A m.fns.length m.fnsc] 40) = z := ⟨_, rfl⟩
  have hA : Whole w1 w.heap.size 40 #[.slice m.glsA m.gls.length m.glsc, .slice A m.fns.length m.fnsc] := by rw [← hw1]; exact Whole.new w _ _
  have HB : Hid (Below w.heap.size w w1) := hide (by rw [← hw1]; exact (Below.refl _ _).alloc (Nat.le_refl _) _)
  have HN : Hid (RdN w1 5 (.slice A m.fns.length m.fnsc) (m.fns.map FnD.cells)) := hide (hN0.below' HB.out)
  have HO : Hid (∀ f ∈ m.fns, f.ok w1) := hide (fun f hx => (hO0 f hx).below HB.out)
  have HM := hide hm
  have HFIT := hide hFit
  have HI := hide hn
  have c1 : w1.cell? ⟨w.heap.size, 1, none⟩ = some (.slice A m.fns.length m.fnsc) := hA.cell 1
  have HA := hide hA
  clear hA hN0 hm hO0 hFit hn
  go_enter Tryd.func16, Tryd.ntmps16
  go_upto_region 1 with fail
  clear hw1
  go_wp2_with fail
  clear c1
  go_loopw [10, 5] (fun z s wr => ∃ i : Nat, i ≤ m.fns.length ∧ z = .int .i64 (i : Nat) ∧ s = .int .i64 ((maxS (m.fns.take i) : Nat) : Int) ∧ Hid (Below w1.heap.size w1 wr)) (fun z _ _ => m.fns.length - (intOf z).toNat)
  case atStart => exact ⟨0, Nat.zero_le _, rfl, by simp [maxS], hide (Below.refl _ _)⟩
  case round =>
    obtain ⟨wq, rfl⟩ : ∃ x, x = wr := ⟨_, rfl⟩
    obtain ⟨i, hi, rfl, rfl, HF⟩ := hrel
    by_cases hlt : i < m.fns.length
    · obtain ⟨f, hb⟩ : ∃ f, m.fns[i]? = some f := ⟨_, List.getElem?_eq_getElem hlt⟩
      obtain ⟨ba, oa, rfl, hba, hxa⟩ := HN.out.row (i := i) (r := f.cells) (by rw [List.getElem?_map, hb]; rfl)
      have hx := hxa.below HF.out hba
      have h64 : wrap64 ((i : Int) + 1) = (i : Int) + 1 := IntWalk.wrap64_in _ ⟨by omega, by have := HFIT.out; unfold Fits at this; omega⟩
      have hok : f.ok wq := (HO.out f (List.mem_of_getElem? hb)).below HF.out
      have hmb := HM.out f (List.mem_of_getElem? hb)
      have hsz := sizeF_le hok hmb
      have hst : wrap64 (1 + ((sizeF f : Nat) : Int)) = ((sizeF f + 1 : Nat) : Int) := by rw [IntWalk.wrap64_in _ ⟨by omega, by omega⟩]; omega
      have hmx := maxS_take hb
      have d9 : wq.cell? ⟨w.heap.size, 1, none⟩ = some (.slice (some ⟨ba, oa, none⟩) m.fns.length m.fnsc) := (HA.out.below' HF.out).cell 1
      have d0 : wq.cell? ⟨ba, oa + i * 5, none⟩ = some (.string f.nm) := hx 0 _ rfl
      have d1 : wq.cell? ⟨ba, oa + i * 5 + 1, none⟩ = some (.slice f.paramsA f.params.length f.paramsc) := hx 1 _ rfl
      have d2 : wq.cell? ⟨ba, oa + i * 5 + 2, none⟩ = some (.int .i64 f.res) := hx 2 _ rfl
      have d3 : wq.cell? ⟨ba, oa + i * 5 + 3, none⟩ = some (.slice f.regsA f.regs.length f.regsc) := hx 3 _ rfl
      have d4 : wq.cell? ⟨ba, oa + i * 5 + 4, none⟩ = some (.slice f.blocksA f.blocks.length f.blocksc) := hx 4 _ rfl
      have HOK := hide hok
      have HMB := hide hmb
      have HLT := hide hlt
      have H64 := hide h64
      have HST := hide hst
      have HMX := hide hmx
      clear hxa hx hb hba hok hmb hsz hmx
      go_wp2_with fail
      refine (rsize_any f _ (by exact HOK.out) (by exact HMB.out)).mono ?_
      rintro en wb ⟨rfl, hbb⟩
      have HF2 : Hid (Below w1.heap.size w1 wb) := hide (HF.out.trans (hbb.mono HF.out.size))
      clear hbb
      go_wp2_with fail
      exact ⟨⟨i + 1, HLT.out, by rw [H64.out]; rfl, by rw [HMX.out, max_cast]; (try rfl), HF2⟩, by rw [H64.out]; exact fn_meas HLT.out⟩
    · obtain rfl : i = m.fns.length := by omega
      clear hlt
      rw [List.take_length]
      have hF : maxS m.fns ≤ 20000000000000000 := maxS_le _ _ (fun f hf => sizeF_le (HO.out f hf) (HM.out f hf))
      clear hF
      obtain ⟨S, hS⟩ : ∃ s : Int, ((maxS m.fns : Nat) : Int) = s := ⟨_, rfl⟩
      rw [hS]
      have HS := hide hS
      clear hS
      go_wp2_with fail
      · rename_i h1 h2
        go_ret
        exact ⟨by rw [rstep_hi (.inr (by have := HS.out; omega))]; (try rfl), HB.out.trans (HF.out.mono HB.out.size)⟩
      · rename_i h1 h2
        go_ret
        exact ⟨by rw [← rstepA HS.out h1 h2]; (try rfl), HB.out.trans (HF.out.mono HB.out.size)⟩
      · rename_i h1 h2 h3
        go_ret
        exact ⟨by rw [rstep_hi (by have := HS.out; omega)]; (try rfl), HB.out.trans (HF.out.mono HB.out.size)⟩
      · rename_i h1 h2 h3
        go_ret
        exact ⟨by rw [← rstepB HS.out h1 h2 h3.2]; (try rfl), HB.out.trans (HF.out.mono HB.out.size)⟩
      · rename_i h1 h2
        go_ret
        exact ⟨by rw [rstep_hi (.inl (by omega))]; (try rfl), HB.out.trans (HF.out.mono HB.out.size)⟩
end Go.Proofs.YtojeaghljebbbaaDoor

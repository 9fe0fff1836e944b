/-
  Layer 23 (expr): node of the reference: what the operation of a node asks of its operands.
-/
import Derived.Test.YtnhaanjpcnnifaaDoorExC
import Derived.Test.YtnhaanjpcnnifaaDoorExW
import Derived.Test.YtnhaanjpcnnifaaDoorRfF
namespace Go.Proofs.YtnhaanjpcnnifaaDoor
open Go.RowKit Go.Deep

/-- The cells of a function that has registers alone. -/
def fnR (A : Option Addr) (n c : Nat) : List Value := [.string ⟨#[]⟩, .slice none 0 0, .int .i64 0, .slice A n c, .slice none 0 0]
theorem fnR_all (A : Option Addr) (n c : Nat) : (fnR A n c).toArray.all (·.oneCell') = true := by simp [fnR, Value.oneCell']
theorem own_one9 (w : World) (t : TypeId) (z : Int) : Own (w.alloc (.cells #[.int .i64 z] t)) w.heap.size t .i64 (.slice (some ⟨w.heap.size, 0, none⟩) 1 1) [z] :=
  ⟨rfl, .inr ⟨w.heap.size, 1, _, rfl, Nat.le_refl _, heap_alloc_new w _, Nat.le_refl _, by unfold maxLen; omega, rfl, rfl⟩⟩
set_option maxRecDepth 100000 in
set_option maxHeartbeats 8000000 in
theorem rn_25 (ty n : Int) (A : Option Addr) (c : Nat) (ts : List Int) (hk : ts.length ≤ 4) (GA FA : Option Addr) (gn gc fc : Nat) (fs : List FD) (hsh : ∀ d ∈ fs, Shp d)  (w : World) (hT : Tab w) (hO : OpTab w) (hl : Rd w .i64 (.slice A ts.length c) ts) (hF : FnsAt w FA fs) :
    Calls Tryd.prog 30 #[.agg #[.int .i64 25, .int .i64 ty, .int .i64 n], .slice A ts.length c, .agg #[.slice GA gn gc, .slice FA fs.length fc]] w fun e w' => e = .returned (.tuple #[.int .i64 ty, .int .i64 (checkM 25 ty 0 0 n 0 false (ups1 ts.length) (ty :: ts) gn fs.length)]) ∧ Below w.heap.size w w' := by
  have HT := hide hT
  have HO := hide hO
  have HL := hide hl
  have HF := hide hF
  have HSH := hide hsh
  have hc9 : c ≤ 9223372036854775807 := by
    obtain ⟨_, _, e1, _, hm, -⟩ := id hl
    injection e1 with _ _ e1
    unfold maxLen at hm
    omega
  obtain ⟨w1, hw1⟩ : ∃ z, (w.alloc (.cells #[.int .i64 25, .int .i64 ty, .int .i64 n] 40)).alloc (.cells #[.slice GA gn gc, .slice FA fs.length fc] 32) = z := ⟨_, rfl⟩
  have HB : Hid (Below w.heap.size w w1) := hide (by rw [← hw1]; exact ((Below.refl _ _).alloc (Nat.le_refl _) _).alloc (by simp) _)
  have HA : Hid (Whole w1 w.heap.size 40 #[.int .i64 25, .int .i64 ty, .int .i64 n]) := hide (by rw [← hw1]; exact (Whole.new w _ _).alloc _)
  have HM : Hid (Whole w1 (w.heap.size + 1) 32 #[.slice GA gn gc, .slice FA fs.length fc]) := hide (by
    rw [← hw1, show w.heap.size + 1 = (w.alloc (.cells #[.int .i64 25, .int .i64 ty, .int .i64 n] 40)).heap.size by simp]; exact Whole.new _ _ _)
  have hi8 : (Tryd.prog.info? 78).map (·.size) = some 8 := by kernel_rfl
  have hi5 : (Tryd.prog.info? 28).map (·.size) = some 5 := by kernel_rfl
  have HI8' := hide hi8
  have HI5' := hide hi5
  have p1 : w1.cell? ⟨w.heap.size, 1, none⟩ = some (.int .i64 ty) := HA.out.cell 1
  have p0 : w1.cell? ⟨w.heap.size, 0, none⟩ = some (.int .i64 25) := HA.out.cell 0
  clear hT hO hl hF hi8 hi5 hsh
  go_enter Tryd.func30, Tryd.ntmps30
  go_upto_region 1 with fail
  clear hw1
  -- the registers
  refine wp_region_lit ?_
  go_step; go_step; go_step
  go_step; go_step; go_step
  refine wpList_bslice_g (by rfl) 25 1 _ rfl #[(0, .int .i64 ty)] (by kernel_rfl) (.slice (some ⟨w1.heap.size, 0, none⟩) 1 1) (w1.alloc (.cells #[.int .i64 ty] 24)) (by kernel_rfl) ?_
  obtain ⟨bR, hbR⟩ : ∃ b, w1.heap.size = b := ⟨_, rfl⟩
  obtain ⟨w2, hw2⟩ : ∃ z, w1.alloc (.cells #[.int .i64 ty] 24) = z := ⟨_, rfl⟩
  have HR2 : Hid (Own w2 bR 24 .i64 (.slice (some ⟨bR, 0, none⟩) 1 1) [ty]) := hide (by rw [← hw2, ← hbR]; exact own_one9 w1 _ _)
  have HB2 : Hid (Below bR w1 w2) := hide (by rw [← hw2, ← hbR]; exact (Below.refl _ _).alloc (Nat.le_refl _) _)
  have HbR := hide hbR
  have hs2 : bR ≤ w2.heap.size := by rw [← hw2, World.size_alloc]; omega
  rw [hw2, hbR]
  clear hw2 hbR p0 p1
  have HL2 := hide (HL.out.below' (HB.out.trans (HB2.out.mono (by have := HB.out.size; have := HbR.out; omega))))
  go_step; go_step; go_step
  refine wpList_append_rd _ rfl _ _ 25 rfl bR 24 .i64 8 tysE9 (.slice (some ⟨bR, 0, none⟩) 1 1) _ rfl HR2.out (.slice A ts.length c) ts rfl HL2.out ?b0 ?b1 hs2 ?_
  case b0 => simp only [List.length_singleton]; omega
  case b1 => simp only [List.length_singleton]; unfold maxLen; omega
  rintro rv w3 ho hg hbl -
  obtain ⟨Ar, cr, er, -⟩ := id ho.rd
  have er2 : rv = .slice Ar (ts.length + 1) cr := by rw [er]; simp
  subst er2
  have HR3 : Hid (Own w3 bR 24 .i64 (.slice Ar (ts.length + 1) cr) (ty :: ts)) := hide ho
  have HB3 : Hid (Below bR w1 w3) := hide (HB2.out.trans hbl)
  clear ho hg hbl er HR2 HB2 HL2 hs2
  refine wpList_build_g (by rfl) _ _ rfl (fnR Ar (ts.length + 1) cr) (by kernel_rfl) ?_
  go_step; go_step; go_step
  refine wpList_store_new (by rfl) _ _ _ rfl _ _ (fnR Ar (ts.length + 1) cr) (by rfl) (by rfl) (by rfl) HI5'.out (fnR_all _ _ _) ?_
  obtain ⟨bF, hbF⟩ : ∃ b, w3.heap.size = b := ⟨_, rfl⟩
  rw [hbF]
  obtain ⟨w4, hw4⟩ : ∃ z, w3.alloc (.cells (fnR Ar (ts.length + 1) cr).toArray 28) = z := ⟨_, rfl⟩
  have b34 : Below w3.heap.size w3 w4 := by rw [← hw4]; exact (Below.refl _ _).alloc (Nat.le_refl _) _
  have HFn : Hid (Whole w4 bF 28 (fnR Ar (ts.length + 1) cr).toArray) := hide (by rw [← hw4, ← hbF]; exact Whole.new w3 _ _)
  have HR4 := hide (HR3.out.below' b34)
  have HB4 : Hid (Below bR w1 w4) := hide (HB3.out.trans (b34.mono (by have := HB3.out.size; have := HbR.out; omega)))
  have hbRF : Hid (bR ≤ bF) := hide (by have := HB3.out.size; have := HbR.out; omega)
  rw [hw4]
  clear hw4 b34 hbF HR3 HB3
  have hA4 := hide (HA.out.below HB4.out (by have := HA.out.lt; have := HbR.out; omega))
  have p0 : w4.cell? ⟨w.heap.size, 0, none⟩ = some (.int .i64 25) := hA4.out.cell 0
  have p1 : w4.cell? ⟨w.heap.size, 1, none⟩ = some (.int .i64 ty) := hA4.out.cell 1
  go_upto_region 2 with fail
  refine wp_region_lit ?_
  go_step; go_step; go_step
  go_step; go_step; go_step
  go_step; go_step; go_step
  go_step; go_step; go_step
  refine wpList_build_g (by rfl) _ _ rfl (instC 25 ty 0 0 0 (.slice none 0 0)).toList (by kernel_rfl) ?_
  go_step; go_step; go_step
  refine wpList_store_new (by rfl) _ _ _ rfl _ _ (instC 25 ty 0 0 0 (.slice none 0 0)).toList (by rfl) (by rfl) (by rfl) HI8'.out (instC_all _ _ _ _ _ _ _ _) ?_
  obtain ⟨bI, hbI⟩ : ∃ b, w4.heap.size = b := ⟨_, rfl⟩
  rw [hbI]
  obtain ⟨w5, hw5⟩ : ∃ z, w4.alloc (.cells (instC 25 ty 0 0 0 (.slice none 0 0)) 78) = z := ⟨_, rfl⟩
  have b45 : Below w4.heap.size w4 w5 := by rw [← hw5]; exact (Below.refl _ _).alloc (Nat.le_refl _) _
  have HI5 : Hid (Whole w5 bI 78 (instC 25 ty 0 0 0 (.slice none 0 0))) := hide (by rw [← hw5, ← hbI]; exact Whole.new w4 _ _)
  have HFn5 := hide (HFn.out.below' b45)
  have HR5 := hide (HR4.out.below' b45)
  have HB5 : Hid (Below bR w1 w5) := hide (HB4.out.trans (b45.mono (by have := HB4.out.size; have := HbR.out; omega)))
  have hbFI : Hid (bF < bI) := hide (by rw [← hbI]; exact HFn.out.lt)
  have hRlt : Hid (∀ g, (Value.slice Ar (ts.length + 1) cr).ownBlock = some g → g < bI) := hide (fun g hg => by rw [← hbI]; exact (HR4.out.size g hg).2)
  have hs5 : bI + 1 = w5.heap.size := by rw [← hw5, World.size_alloc, hbI]
  rw [show w4.alloc (.cells (instC 25 ty 0 0 0 (.slice none 0 0)).toList.toArray 78) = w5 from hw5]
  clear hw5 b45 HFn HR4 HB4 hA4 p0 p1
  have HS5 := hide hs5
  clear hs5 hbI
  go_wp2_with fail
  go_loopw [24] (fun z wr => ∃ (j : Nat) (av : Value), j ≤ ts.length ∧ z = .int .i64 j ∧ Hid (Own wr (bI + 1) 3 .i64 av (ups1 j)) ∧ Hid (Whole wr bI 78 (instC 25 ty 0 0 0 av)) ∧ Hid (Below bI w5 wr)) (fun z _ => ts.length - (intOf z).toNat)
  case atStart => exact ⟨0, .slice none 0 0, Nat.zero_le _, rfl, hide Own.nil, HI5, hide (Below.refl _ _)⟩
  case round =>
    clear HI5
    obtain ⟨wq, rfl⟩ : ∃ x, x = wr := ⟨_, rfl⟩
    obtain ⟨j, av, hj, rfl, hAv, hI, hb⟩ := hrel
    obtain ⟨Aa, ca, ea, hca, hma, -⟩ := id hAv.out.rd
    have hla : (ups1 j).length = j := ups1_len j
    rw [hla] at ea hca
    subst ea
    have hca9 : ca ≤ 9223372036854775807 := by unfold maxLen at hma; omega
    have hsq : Hid (bI + 1 ≤ wq.heap.size) := hide (by have := hb.out.size; have := HS5.out; omega)
    clear hma
    by_cases hlt : j < ts.length
    · have c3 : wq.cell? ⟨bI, 3, none⟩ = some (.slice Aa j ca) := hI.out.cell 3
      have HO5 := hide (hAv.out.alloc (.cells #[.int .i64 ((j : Int) + 1)] 3))
      have hs6 : bI + 1 ≤ (wq.alloc (.cells #[.int .i64 ((j : Int) + 1)] 3)).heap.size := by have := hsq.out; simp; omega
      have HLA := hide hla
      clear hla
      go_wp2_with (refine wpList_append_rd _ rfl _ _ 23 rfl (bI + 1) 3 .i64 8 intsE9 _ _ rfl HO5.out _ [(j : Int) + 1] rfl (rd_one _ _ _) ?b2 ?b3 hs6 ?_)
      case b2 => rw [HLA.out]; simp only [List.length_singleton]; omega
      case b3 => rw [HLA.out]; simp only [List.length_singleton]; unfold maxLen; omega
      rintro v' w6 ho hg hbl hw6
      have f16 : Frm wq w6 (Value.slice Aa j ca).ownBlock.toList := ((Frm.refl wq _).alloc _).trans (Frm.grown hg)
      have hnb : bI ∉ (Value.slice Aa j ca).ownBlock.toList := fun h => by have := (hAv.out.size bI (by simpa using h)).1; omega
      have HI6 := hide (hI.out.frm f16 hnb)
      have HV6 := hide ho
      have HF6 := hide f16
      have c3' : w6.cell? ⟨bI, 3, none⟩ = some (.slice Aa j ca) := HI6.out.cell 3
      have f3' : w6.frozen? ⟨bI, 3, none⟩ = false := HI6.out.free 3
      clear ho hg hbl hw6 f16 hnb c3 hs6 HO5
      obtain ⟨A6, c6, e6, -, hm6, -⟩ := id HV6.out.rd
      have hc69 : c6 ≤ 9223372036854775807 := by unfold maxLen at hm6; omega
      have hl6 : (ups1 j ++ [(j : Int) + 1]).length = j + 1 := by rw [List.length_append, ups1_len]; rfl
      rw [hl6] at e6
      subst e6
      clear hm6 hl6
      have HI7 : Hid (Whole (w6.setCell ⟨bI, 3, none⟩ (.slice A6 (j + 1) c6)) bI 78 (instC 25 ty 0 0 0 (.slice A6 (j + 1) c6))) := hide (HI6.out.set 3 _)
      have hset : Frm w6 (w6.setCell ⟨bI, 3, none⟩ (.slice A6 (j + 1) c6)) [bI] := (Frm.refl w6 [bI]).setCell _ _ (.inl (by simp))
      have HV7 : Hid (Own (w6.setCell ⟨bI, 3, none⟩ (.slice A6 (j + 1) c6)) (bI + 1) 3 .i64 (.slice A6 (j + 1) c6) (ups1 (j + 1))) := hide (by rw [ups1_succ]; exact HV6.out.frm9 hset (fun g hg hm => by have := (HV6.out.size g hg).1; rw [List.mem_singleton] at hm; omega))
      have HB7 : Hid (Below bI w5 (w6.setCell ⟨bI, 3, none⟩ (.slice A6 (j + 1) c6))) := hide ((hb.out.trans (HF6.out.toBelow (B := bI) (fun g hg => by have := (hAv.out.size g (by simpa using hg)).1; omega) (by have := hsq.out; omega))).trans (hset.toBelow (fun g hg => by rw [List.mem_singleton.1 hg]; exact Nat.le_refl _) (by have := HF6.out.size; have := hsq.out; omega)))
      clear hset HI6 HV6 HF6 hAv hI
      go_wp2_with fail
      go_roundw
      case rel => exact ⟨j + 1, _, by omega, by go_num, HV7, HI7, HB7⟩
      case measure => simp [intOf]; omega
    · have hjl : j = ts.length := by omega
      obtain rfl := hjl
      have hb1 : Hid (Below bR w1 wq) := hide (HB5.out.trans (hb.out.mono (by have := hbRF.out; have := hbFI.out; omega)))
      have HA' := hide (HA.out.below hb1.out (by have := HA.out.lt; have := HbR.out; omega))
      have HM' := hide (HM.out.below hb1.out (by have := HM.out.lt; have := HbR.out; omega))
      have HFn' := hide (HFn5.out.below hb.out hbFI.out)
      have fr : Frm w5 wq [bI] := ⟨hb.out.os, hb.out.tape, hb.out.output, hb.out.size, fun k hk hn => hb.out.block k (by have := HS5.out; simp at hn; omega)⟩
      have HR' := hide (HR5.out.frm9 fr (fun g hg hm => by have := hRlt.out g hg; rw [List.mem_singleton] at hm; omega))
      clear hla hlt hj
      have i5 : wq.cell? ⟨bI, 5, none⟩ = some (.int .i64 0) := hI.out.cell 5
      have f5 : wq.frozen? ⟨bI, 5, none⟩ = false := hI.out.free 5
      have n0 : wq.cell? ⟨w.heap.size, 0, none⟩ = some (.int .i64 25) := HA'.out.cell 0
      have n2 : wq.cell? ⟨w.heap.size, 2, none⟩ = some (.int .i64 n) := HA'.out.cell 2
      have hset : Frm wq (wq.setCell ⟨bI, 5, none⟩ (.int .i64 n)) [bI] := (Frm.refl wq [bI]).setCell _ _ (.inl (by simp))
      go_upto_region 12 with fail
      clear n0 n2 i5 f5
      obtain ⟨w8, hw8⟩ : ∃ z, wq.setCell ⟨bI, 5, none⟩ (.int .i64 n) = z := ⟨_, rfl⟩
      have HI8 : Hid (Whole w8 bI 78 (instC 25 ty 0 0 n (.slice Aa ts.length ca))) := hide (by rw [← hw8]; exact hI.out.set 5 (.int .i64 n))
      rw [hw8] at hset ⊢
      clear hw8
      have hA8 := HA'.out.frm hset (by have := HA.out.lt; have := HbR.out; have := hbRF.out; have := hbFI.out; simp; omega)
      have hM8 := HM'.out.frm hset (by have := HM.out.lt; have := HbR.out; have := hbRF.out; have := hbFI.out; simp; omega)
      have hF8 := HFn'.out.frm hset (by have := hbFI.out; simp; omega)
      have hR8 := (HR'.out.frm9 hset (fun g hg hm => by have := hRlt.out g hg; rw [List.mem_singleton] at hm; omega)).rd
      have hV8 := (hAv.out.frm9 hset (fun g hg hm => by have := (hAv.out.size g hg).1; rw [List.mem_singleton] at hm; omega)).rd
      have hb8 : Below bI w5 w8 := hb.out.trans (hset.toBelow (fun g hg => by rw [List.mem_singleton.1 hg]; exact Nat.le_refl _) (by have := hsq.out; omega))
      have hbw8 : Below w.heap.size w w8.drew := Below.drewN' (HB.out.trans ((HB5.out.trans (hb8.mono (by have := hbRF.out; have := hbFI.out; omega))).mono (by have := HB.out.size; have := HbR.out; omega))) 1
      have K0 : w8.drew.cell? ⟨w.heap.size, 1, none⟩ = some (.int .i64 ty) ∧ w8.drew.cell? ⟨w.heap.size + 1, 0, none⟩ = some (.slice GA gn gc) ∧ w8.drew.cell? ⟨w.heap.size + 1, 1, none⟩ = some (.slice FA fs.length fc) ∧ w8.drew.cell? ⟨bF, 0, none⟩ = some (.string ⟨#[]⟩) ∧ w8.drew.cell? ⟨bF, 1, none⟩ = some (.slice none 0 0) ∧ w8.drew.cell? ⟨bF, 2, none⟩ = some (.int .i64 0) ∧ w8.drew.cell? ⟨bF, 3, none⟩ = some (.slice Ar (ts.length + 1) cr) ∧ w8.drew.cell? ⟨bF, 4, none⟩ = some (.slice none 0 0) ∧ w8.drew.cell? ⟨bI, 0, none⟩ = some (.int .i64 25) ∧ w8.drew.cell? ⟨bI, 1, none⟩ = some (.int .i64 ty) ∧ w8.drew.cell? ⟨bI, 2, none⟩ = some (.int .i64 0) ∧ w8.drew.cell? ⟨bI, 3, none⟩ = some (.slice Aa ts.length ca) ∧ w8.drew.cell? ⟨bI, 4, none⟩ = some (.int .i64 0) ∧ w8.drew.cell? ⟨bI, 5, none⟩ = some (.int .i64 n) ∧ w8.drew.cell? ⟨bI, 6, none⟩ = some (.int .i64 0) ∧ w8.drew.cell? ⟨bI, 7, none⟩ = some (.bool false) := ⟨hA8.cell 1, hM8.cell 0, hM8.cell 1, hF8.cell 0, hF8.cell 1, hF8.cell 2, hF8.cell 3, hF8.cell 4, HI8.out.cell 0, HI8.out.cell 1, HI8.out.cell 2, HI8.out.cell 3, HI8.out.cell 4, HI8.out.cell 5, HI8.out.cell 6, HI8.out.cell 7⟩
      have HCk : Hid (Calls Tryd.prog 46 #[.agg #[.int .i64 25, .int .i64 ty, .int .i64 0, .slice Aa ts.length ca, .int .i64 0, .int .i64 n, .int .i64 0, .bool false], .agg #[.string ⟨#[]⟩, .slice none 0 0, .int .i64 0, .slice Ar (ts.length + 1) cr, .slice none 0 0], .agg #[.slice GA gn gc, .slice FA fs.length fc]] w8.drew fun e w' =>
          e = .returned (.int .i64 (checkM 25 ty 0 0 n 0 false (ups1 ts.length) (ty :: ts) gn fs.length)) ∧ Below w.heap.size w w' ∧ w'.cell? ⟨w.heap.size, 1, none⟩ = some (.int .i64 ty) ∧ w'.cell? ⟨w.heap.size + 1, 0, none⟩ = some (.slice GA gn gc) ∧ w'.cell? ⟨w.heap.size + 1, 1, none⟩ = some (.slice FA fs.length fc) ∧ w'.cell? ⟨bF, 0, none⟩ = some (.string ⟨#[]⟩) ∧ w'.cell? ⟨bF, 1, none⟩ = some (.slice none 0 0) ∧ w'.cell? ⟨bF, 2, none⟩ = some (.int .i64 0) ∧ w'.cell? ⟨bF, 3, none⟩ = some (.slice Ar (ts.length + 1) cr) ∧ w'.cell? ⟨bF, 4, none⟩ = some (.slice none 0 0) ∧ w'.cell? ⟨bI, 0, none⟩ = some (.int .i64 25) ∧ w'.cell? ⟨bI, 1, none⟩ = some (.int .i64 ty) ∧ w'.cell? ⟨bI, 2, none⟩ = some (.int .i64 0) ∧ w'.cell? ⟨bI, 3, none⟩ = some (.slice Aa ts.length ca) ∧ w'.cell? ⟨bI, 4, none⟩ = some (.int .i64 0) ∧ w'.cell? ⟨bI, 5, none⟩ = some (.int .i64 n) ∧ w'.cell? ⟨bI, 6, none⟩ = some (.int .i64 0) ∧ w'.cell? ⟨bI, 7, none⟩ = some (.bool false)) := hide (by
        have hav6 : Rd w8.drew .i64 (.slice Aa (ups1 ts.length).length ca) (ups1 ts.length) := by rw [ups1_len]; exact hV8
        have hrv6 : Rd w8.drew .i64 (.slice Ar (ty :: ts).length cr) (ty :: ts) := hR8
        have hC := rcheck_any 25 ty 0 0 n 0 Aa Ar GA FA ca cr gn gc fc fs HSH.out (ups1 ts.length) (ty :: ts) (by rw [ups1_len]; omega) false (.string ⟨#[]⟩) (.slice none 0 0) (.slice none 0 0) 0 w8.drew (HT.out.below hbw8) (HO.out.below hbw8) hav6 hrv6 (HF.out.below hbw8)
        rw [ups1_len, List.length_cons] at hC
        refine hC.mono ?_
        rintro e w' ⟨rfl, hbe⟩
        exact ⟨by unfold checkA; rw [if_neg (by omega)], Below.all hbw8 hbe, cell_below hbe (hA8.cell 1), cell_below hbe (hM8.cell 0), cell_below hbe (hM8.cell 1), cell_below hbe (hF8.cell 0), cell_below hbe (hF8.cell 1), cell_below hbe (hF8.cell 2), cell_below hbe (hF8.cell 3), cell_below hbe (hF8.cell 4), cell_below hbe (HI8.out.cell 0), cell_below hbe (HI8.out.cell 1), cell_below hbe (HI8.out.cell 2), cell_below hbe (HI8.out.cell 3), cell_below hbe (HI8.out.cell 4), cell_below hbe (HI8.out.cell 5), cell_below hbe (HI8.out.cell 6), cell_below hbe (HI8.out.cell 7)⟩)
      have cc := K0
      clear hset hA8 hM8 hF8 hR8 hV8 hb8 hbw8
      go_region_held3 (fun w' => w'.cell? ⟨w.heap.size, 1, none⟩ = some (.int .i64 ty) ∧ w'.cell? ⟨w.heap.size + 1, 0, none⟩ = some (.slice GA gn gc) ∧ w'.cell? ⟨w.heap.size + 1, 1, none⟩ = some (.slice FA fs.length fc) ∧ w'.cell? ⟨bF, 0, none⟩ = some (.string ⟨#[]⟩) ∧ w'.cell? ⟨bF, 1, none⟩ = some (.slice none 0 0) ∧ w'.cell? ⟨bF, 2, none⟩ = some (.int .i64 0) ∧ w'.cell? ⟨bF, 3, none⟩ = some (.slice Ar (ts.length + 1) cr) ∧ w'.cell? ⟨bF, 4, none⟩ = some (.slice none 0 0) ∧ w'.cell? ⟨bI, 0, none⟩ = some (.int .i64 25) ∧ w'.cell? ⟨bI, 1, none⟩ = some (.int .i64 ty) ∧ w'.cell? ⟨bI, 2, none⟩ = some (.int .i64 0) ∧ w'.cell? ⟨bI, 3, none⟩ = some (.slice Aa ts.length ca) ∧ w'.cell? ⟨bI, 4, none⟩ = some (.int .i64 0) ∧ w'.cell? ⟨bI, 5, none⟩ = some (.int .i64 n) ∧ w'.cell? ⟨bI, 6, none⟩ = some (.int .i64 0) ∧ w'.cell? ⟨bI, 7, none⟩ = some (.bool false)) (first | exact cc | exact K0)
        (first | (go_at_call 46; refine HCk.out.mono ?_; rintro en w9 ⟨rfl, hb9, hc9'⟩; have HZ := hide hb9; replace cc := hc9'; clear hb9 hc9'))
      go_wp2_with fail
      go_ret2
      exact ⟨rfl, HZ.out⟩
set_option maxRecDepth 100000 in
set_option maxHeartbeats 8000000 in
theorem rn_1 (ty n : Int) (A : Option Addr) (c : Nat) (ts : List Int) (hk : ts.length ≤ 4) (GA FA : Option Addr) (gn gc fc : Nat) (fs : List FD) (hsh : ∀ d ∈ fs, Shp d)  (w : World) (hT : Tab w) (hO : OpTab w) (hl : Rd w .i64 (.slice A ts.length c) ts) (hF : FnsAt w FA fs) :
    Calls Tryd.prog 30 #[.agg #[.int .i64 1, .int .i64 ty, .int .i64 n], .slice A ts.length c, .agg #[.slice GA gn gc, .slice FA fs.length fc]] w fun e w' => e = .returned (.tuple #[.int .i64 ty, .int .i64 (checkM 1 ty 0 n 0 0 false (ups1 ts.length) (ty :: ts) gn fs.length)]) ∧ Below w.heap.size w w' := by
  have HT := hide hT
  have HO := hide hO
  have HL := hide hl
  have HF := hide hF
  have HSH := hide hsh
  have hc9 : c ≤ 9223372036854775807 := by
    obtain ⟨_, _, e1, _, hm, -⟩ := id hl
    injection e1 with _ _ e1
    unfold maxLen at hm
    omega
  obtain ⟨w1, hw1⟩ : ∃ z, (w.alloc (.cells #[.int .i64 1, .int .i64 ty, .int .i64 n] 40)).alloc (.cells #[.slice GA gn gc, .slice FA fs.length fc] 32) = z := ⟨_, rfl⟩
  have HB : Hid (Below w.heap.size w w1) := hide (by rw [← hw1]; exact ((Below.refl _ _).alloc (Nat.le_refl _) _).alloc (by simp) _)
  have HA : Hid (Whole w1 w.heap.size 40 #[.int .i64 1, .int .i64 ty, .int .i64 n]) := hide (by rw [← hw1]; exact (Whole.new w _ _).alloc _)
  have HM : Hid (Whole w1 (w.heap.size + 1) 32 #[.slice GA gn gc, .slice FA fs.length fc]) := hide (by
    rw [← hw1, show w.heap.size + 1 = (w.alloc (.cells #[.int .i64 1, .int .i64 ty, .int .i64 n] 40)).heap.size by simp]; exact Whole.new _ _ _)
  have hi8 : (Tryd.prog.info? 78).map (·.size) = some 8 := by kernel_rfl
  have hi5 : (Tryd.prog.info? 28).map (·.size) = some 5 := by kernel_rfl
  have HI8' := hide hi8
  have HI5' := hide hi5
  have p1 : w1.cell? ⟨w.heap.size, 1, none⟩ = some (.int .i64 ty) := HA.out.cell 1
  have p0 : w1.cell? ⟨w.heap.size, 0, none⟩ = some (.int .i64 1) := HA.out.cell 0
  clear hT hO hl hF hi8 hi5 hsh
  go_enter Tryd.func30, Tryd.ntmps30
  go_upto_region 1 with fail
  clear hw1
  -- the registers
  refine wp_region_lit ?_
  go_step; go_step; go_step
  go_step; go_step; go_step
  refine wpList_bslice_g (by rfl) 25 1 _ rfl #[(0, .int .i64 ty)] (by kernel_rfl) (.slice (some ⟨w1.heap.size, 0, none⟩) 1 1) (w1.alloc (.cells #[.int .i64 ty] 24)) (by kernel_rfl) ?_
  obtain ⟨bR, hbR⟩ : ∃ b, w1.heap.size = b := ⟨_, rfl⟩
  obtain ⟨w2, hw2⟩ : ∃ z, w1.alloc (.cells #[.int .i64 ty] 24) = z := ⟨_, rfl⟩
  have HR2 : Hid (Own w2 bR 24 .i64 (.slice (some ⟨bR, 0, none⟩) 1 1) [ty]) := hide (by rw [← hw2, ← hbR]; exact own_one9 w1 _ _)
  have HB2 : Hid (Below bR w1 w2) := hide (by rw [← hw2, ← hbR]; exact (Below.refl _ _).alloc (Nat.le_refl _) _)
  have HbR := hide hbR
  have hs2 : bR ≤ w2.heap.size := by rw [← hw2, World.size_alloc]; omega
  rw [hw2, hbR]
  clear hw2 hbR p0 p1
  have HL2 := hide (HL.out.below' (HB.out.trans (HB2.out.mono (by have := HB.out.size; have := HbR.out; omega))))
  go_step; go_step; go_step
  refine wpList_append_rd _ rfl _ _ 25 rfl bR 24 .i64 8 tysE9 (.slice (some ⟨bR, 0, none⟩) 1 1) _ rfl HR2.out (.slice A ts.length c) ts rfl HL2.out ?b0 ?b1 hs2 ?_
  case b0 => simp only [List.length_singleton]; omega
  case b1 => simp only [List.length_singleton]; unfold maxLen; omega
  rintro rv w3 ho hg hbl -
  obtain ⟨Ar, cr, er, -⟩ := id ho.rd
  have er2 : rv = .slice Ar (ts.length + 1) cr := by rw [er]; simp
  subst er2
  have HR3 : Hid (Own w3 bR 24 .i64 (.slice Ar (ts.length + 1) cr) (ty :: ts)) := hide ho
  have HB3 : Hid (Below bR w1 w3) := hide (HB2.out.trans hbl)
  clear ho hg hbl er HR2 HB2 HL2 hs2
  refine wpList_build_g (by rfl) _ _ rfl (fnR Ar (ts.length + 1) cr) (by kernel_rfl) ?_
  go_step; go_step; go_step
  refine wpList_store_new (by rfl) _ _ _ rfl _ _ (fnR Ar (ts.length + 1) cr) (by rfl) (by rfl) (by rfl) HI5'.out (fnR_all _ _ _) ?_
  obtain ⟨bF, hbF⟩ : ∃ b, w3.heap.size = b := ⟨_, rfl⟩
  rw [hbF]
  obtain ⟨w4, hw4⟩ : ∃ z, w3.alloc (.cells (fnR Ar (ts.length + 1) cr).toArray 28) = z := ⟨_, rfl⟩
  have b34 : Below w3.heap.size w3 w4 := by rw [← hw4]; exact (Below.refl _ _).alloc (Nat.le_refl _) _
  have HFn : Hid (Whole w4 bF 28 (fnR Ar (ts.length + 1) cr).toArray) := hide (by rw [← hw4, ← hbF]; exact Whole.new w3 _ _)
  have HR4 := hide (HR3.out.below' b34)
  have HB4 : Hid (Below bR w1 w4) := hide (HB3.out.trans (b34.mono (by have := HB3.out.size; have := HbR.out; omega)))
  have hbRF : Hid (bR ≤ bF) := hide (by have := HB3.out.size; have := HbR.out; omega)
  rw [hw4]
  clear hw4 b34 hbF HR3 HB3
  have hA4 := hide (HA.out.below HB4.out (by have := HA.out.lt; have := HbR.out; omega))
  have p0 : w4.cell? ⟨w.heap.size, 0, none⟩ = some (.int .i64 1) := hA4.out.cell 0
  have p1 : w4.cell? ⟨w.heap.size, 1, none⟩ = some (.int .i64 ty) := hA4.out.cell 1
  go_upto_region 2 with fail
  refine wp_region_lit ?_
  go_step; go_step; go_step
  go_step; go_step; go_step
  go_step; go_step; go_step
  go_step; go_step; go_step
  refine wpList_build_g (by rfl) _ _ rfl (instC 1 ty 0 0 0 (.slice none 0 0)).toList (by kernel_rfl) ?_
  go_step; go_step; go_step
  refine wpList_store_new (by rfl) _ _ _ rfl _ _ (instC 1 ty 0 0 0 (.slice none 0 0)).toList (by rfl) (by rfl) (by rfl) HI8'.out (instC_all _ _ _ _ _ _ _ _) ?_
  obtain ⟨bI, hbI⟩ : ∃ b, w4.heap.size = b := ⟨_, rfl⟩
  rw [hbI]
  obtain ⟨w5, hw5⟩ : ∃ z, w4.alloc (.cells (instC 1 ty 0 0 0 (.slice none 0 0)) 78) = z := ⟨_, rfl⟩
  have b45 : Below w4.heap.size w4 w5 := by rw [← hw5]; exact (Below.refl _ _).alloc (Nat.le_refl _) _
  have HI5 : Hid (Whole w5 bI 78 (instC 1 ty 0 0 0 (.slice none 0 0))) := hide (by rw [← hw5, ← hbI]; exact Whole.new w4 _ _)
  have HFn5 := hide (HFn.out.below' b45)
  have HR5 := hide (HR4.out.below' b45)
  have HB5 : Hid (Below bR w1 w5) := hide (HB4.out.trans (b45.mono (by have := HB4.out.size; have := HbR.out; omega)))
  have hbFI : Hid (bF < bI) := hide (by rw [← hbI]; exact HFn.out.lt)
  have hRlt : Hid (∀ g, (Value.slice Ar (ts.length + 1) cr).ownBlock = some g → g < bI) := hide (fun g hg => by rw [← hbI]; exact (HR4.out.size g hg).2)
  have hs5 : bI + 1 = w5.heap.size := by rw [← hw5, World.size_alloc, hbI]
  rw [show w4.alloc (.cells (instC 1 ty 0 0 0 (.slice none 0 0)).toList.toArray 78) = w5 from hw5]
  clear hw5 b45 HFn HR4 HB4 hA4 p0 p1
  have HS5 := hide hs5
  clear hs5 hbI
  go_wp2_with fail
  go_loopw [24] (fun z wr => ∃ (j : Nat) (av : Value), j ≤ ts.length ∧ z = .int .i64 j ∧ Hid (Own wr (bI + 1) 3 .i64 av (ups1 j)) ∧ Hid (Whole wr bI 78 (instC 1 ty 0 0 0 av)) ∧ Hid (Below bI w5 wr)) (fun z _ => ts.length - (intOf z).toNat)
  case atStart => exact ⟨0, .slice none 0 0, Nat.zero_le _, rfl, hide Own.nil, HI5, hide (Below.refl _ _)⟩
  case round =>
    clear HI5
    obtain ⟨wq, rfl⟩ : ∃ x, x = wr := ⟨_, rfl⟩
    obtain ⟨j, av, hj, rfl, hAv, hI, hb⟩ := hrel
    obtain ⟨Aa, ca, ea, hca, hma, -⟩ := id hAv.out.rd
    have hla : (ups1 j).length = j := ups1_len j
    rw [hla] at ea hca
    subst ea
    have hca9 : ca ≤ 9223372036854775807 := by unfold maxLen at hma; omega
    have hsq : Hid (bI + 1 ≤ wq.heap.size) := hide (by have := hb.out.size; have := HS5.out; omega)
    clear hma
    by_cases hlt : j < ts.length
    · have c3 : wq.cell? ⟨bI, 3, none⟩ = some (.slice Aa j ca) := hI.out.cell 3
      have HO5 := hide (hAv.out.alloc (.cells #[.int .i64 ((j : Int) + 1)] 3))
      have hs6 : bI + 1 ≤ (wq.alloc (.cells #[.int .i64 ((j : Int) + 1)] 3)).heap.size := by have := hsq.out; simp; omega
      have HLA := hide hla
      clear hla
      go_wp2_with (refine wpList_append_rd _ rfl _ _ 23 rfl (bI + 1) 3 .i64 8 intsE9 _ _ rfl HO5.out _ [(j : Int) + 1] rfl (rd_one _ _ _) ?b2 ?b3 hs6 ?_)
      case b2 => rw [HLA.out]; simp only [List.length_singleton]; omega
      case b3 => rw [HLA.out]; simp only [List.length_singleton]; unfold maxLen; omega
      rintro v' w6 ho hg hbl hw6
      have f16 : Frm wq w6 (Value.slice Aa j ca).ownBlock.toList := ((Frm.refl wq _).alloc _).trans (Frm.grown hg)
      have hnb : bI ∉ (Value.slice Aa j ca).ownBlock.toList := fun h => by have := (hAv.out.size bI (by simpa using h)).1; omega
      have HI6 := hide (hI.out.frm f16 hnb)
      have HV6 := hide ho
      have HF6 := hide f16
      have c3' : w6.cell? ⟨bI, 3, none⟩ = some (.slice Aa j ca) := HI6.out.cell 3
      have f3' : w6.frozen? ⟨bI, 3, none⟩ = false := HI6.out.free 3
      clear ho hg hbl hw6 f16 hnb c3 hs6 HO5
      obtain ⟨A6, c6, e6, -, hm6, -⟩ := id HV6.out.rd
      have hc69 : c6 ≤ 9223372036854775807 := by unfold maxLen at hm6; omega
      have hl6 : (ups1 j ++ [(j : Int) + 1]).length = j + 1 := by rw [List.length_append, ups1_len]; rfl
      rw [hl6] at e6
      subst e6
      clear hm6 hl6
      have HI7 : Hid (Whole (w6.setCell ⟨bI, 3, none⟩ (.slice A6 (j + 1) c6)) bI 78 (instC 1 ty 0 0 0 (.slice A6 (j + 1) c6))) := hide (HI6.out.set 3 _)
      have hset : Frm w6 (w6.setCell ⟨bI, 3, none⟩ (.slice A6 (j + 1) c6)) [bI] := (Frm.refl w6 [bI]).setCell _ _ (.inl (by simp))
      have HV7 : Hid (Own (w6.setCell ⟨bI, 3, none⟩ (.slice A6 (j + 1) c6)) (bI + 1) 3 .i64 (.slice A6 (j + 1) c6) (ups1 (j + 1))) := hide (by rw [ups1_succ]; exact HV6.out.frm9 hset (fun g hg hm => by have := (HV6.out.size g hg).1; rw [List.mem_singleton] at hm; omega))
      have HB7 : Hid (Below bI w5 (w6.setCell ⟨bI, 3, none⟩ (.slice A6 (j + 1) c6))) := hide ((hb.out.trans (HF6.out.toBelow (B := bI) (fun g hg => by have := (hAv.out.size g (by simpa using hg)).1; omega) (by have := hsq.out; omega))).trans (hset.toBelow (fun g hg => by rw [List.mem_singleton.1 hg]; exact Nat.le_refl _) (by have := HF6.out.size; have := hsq.out; omega)))
      clear hset HI6 HV6 HF6 hAv hI
      go_wp2_with fail
      go_roundw
      case rel => exact ⟨j + 1, _, by omega, by go_num, HV7, HI7, HB7⟩
      case measure => simp [intOf]; omega
    · have hjl : j = ts.length := by omega
      obtain rfl := hjl
      have hb1 : Hid (Below bR w1 wq) := hide (HB5.out.trans (hb.out.mono (by have := hbRF.out; have := hbFI.out; omega)))
      have HA' := hide (HA.out.below hb1.out (by have := HA.out.lt; have := HbR.out; omega))
      have HM' := hide (HM.out.below hb1.out (by have := HM.out.lt; have := HbR.out; omega))
      have HFn' := hide (HFn5.out.below hb.out hbFI.out)
      have fr : Frm w5 wq [bI] := ⟨hb.out.os, hb.out.tape, hb.out.output, hb.out.size, fun k hk hn => hb.out.block k (by have := HS5.out; simp at hn; omega)⟩
      have HR' := hide (HR5.out.frm9 fr (fun g hg hm => by have := hRlt.out g hg; rw [List.mem_singleton] at hm; omega))
      clear hla hlt hj
      have i4 : wq.cell? ⟨bI, 4, none⟩ = some (.int .i64 0) := hI.out.cell 4
      have f4 : wq.frozen? ⟨bI, 4, none⟩ = false := hI.out.free 4
      have n0 : wq.cell? ⟨w.heap.size, 0, none⟩ = some (.int .i64 1) := HA'.out.cell 0
      have n2 : wq.cell? ⟨w.heap.size, 2, none⟩ = some (.int .i64 n) := HA'.out.cell 2
      have hset : Frm wq (wq.setCell ⟨bI, 4, none⟩ (.int .i64 n)) [bI] := (Frm.refl wq [bI]).setCell _ _ (.inl (by simp))
      go_upto_region 12 with fail
      clear n0 n2 i4 f4
      obtain ⟨w8, hw8⟩ : ∃ z, wq.setCell ⟨bI, 4, none⟩ (.int .i64 n) = z := ⟨_, rfl⟩
      have HI8 : Hid (Whole w8 bI 78 (instC 1 ty 0 n 0 (.slice Aa ts.length ca))) := hide (by rw [← hw8]; exact hI.out.set 4 (.int .i64 n))
      rw [hw8] at hset ⊢
      clear hw8
      have hA8 := HA'.out.frm hset (by have := HA.out.lt; have := HbR.out; have := hbRF.out; have := hbFI.out; simp; omega)
      have hM8 := HM'.out.frm hset (by have := HM.out.lt; have := HbR.out; have := hbRF.out; have := hbFI.out; simp; omega)
      have hF8 := HFn'.out.frm hset (by have := hbFI.out; simp; omega)
      have hR8 := (HR'.out.frm9 hset (fun g hg hm => by have := hRlt.out g hg; rw [List.mem_singleton] at hm; omega)).rd
      have hV8 := (hAv.out.frm9 hset (fun g hg hm => by have := (hAv.out.size g hg).1; rw [List.mem_singleton] at hm; omega)).rd
      have hb8 : Below bI w5 w8 := hb.out.trans (hset.toBelow (fun g hg => by rw [List.mem_singleton.1 hg]; exact Nat.le_refl _) (by have := hsq.out; omega))
      have hbw8 : Below w.heap.size w w8.drew := Below.drewN' (HB.out.trans ((HB5.out.trans (hb8.mono (by have := hbRF.out; have := hbFI.out; omega))).mono (by have := HB.out.size; have := HbR.out; omega))) 1
      have K0 : w8.drew.cell? ⟨w.heap.size, 1, none⟩ = some (.int .i64 ty) ∧ w8.drew.cell? ⟨w.heap.size + 1, 0, none⟩ = some (.slice GA gn gc) ∧ w8.drew.cell? ⟨w.heap.size + 1, 1, none⟩ = some (.slice FA fs.length fc) ∧ w8.drew.cell? ⟨bF, 0, none⟩ = some (.string ⟨#[]⟩) ∧ w8.drew.cell? ⟨bF, 1, none⟩ = some (.slice none 0 0) ∧ w8.drew.cell? ⟨bF, 2, none⟩ = some (.int .i64 0) ∧ w8.drew.cell? ⟨bF, 3, none⟩ = some (.slice Ar (ts.length + 1) cr) ∧ w8.drew.cell? ⟨bF, 4, none⟩ = some (.slice none 0 0) ∧ w8.drew.cell? ⟨bI, 0, none⟩ = some (.int .i64 1) ∧ w8.drew.cell? ⟨bI, 1, none⟩ = some (.int .i64 ty) ∧ w8.drew.cell? ⟨bI, 2, none⟩ = some (.int .i64 0) ∧ w8.drew.cell? ⟨bI, 3, none⟩ = some (.slice Aa ts.length ca) ∧ w8.drew.cell? ⟨bI, 4, none⟩ = some (.int .i64 n) ∧ w8.drew.cell? ⟨bI, 5, none⟩ = some (.int .i64 0) ∧ w8.drew.cell? ⟨bI, 6, none⟩ = some (.int .i64 0) ∧ w8.drew.cell? ⟨bI, 7, none⟩ = some (.bool false) := ⟨hA8.cell 1, hM8.cell 0, hM8.cell 1, hF8.cell 0, hF8.cell 1, hF8.cell 2, hF8.cell 3, hF8.cell 4, HI8.out.cell 0, HI8.out.cell 1, HI8.out.cell 2, HI8.out.cell 3, HI8.out.cell 4, HI8.out.cell 5, HI8.out.cell 6, HI8.out.cell 7⟩
      have HCk : Hid (Calls Tryd.prog 46 #[.agg #[.int .i64 1, .int .i64 ty, .int .i64 0, .slice Aa ts.length ca, .int .i64 n, .int .i64 0, .int .i64 0, .bool false], .agg #[.string ⟨#[]⟩, .slice none 0 0, .int .i64 0, .slice Ar (ts.length + 1) cr, .slice none 0 0], .agg #[.slice GA gn gc, .slice FA fs.length fc]] w8.drew fun e w' =>
          e = .returned (.int .i64 (checkM 1 ty 0 n 0 0 false (ups1 ts.length) (ty :: ts) gn fs.length)) ∧ Below w.heap.size w w' ∧ w'.cell? ⟨w.heap.size, 1, none⟩ = some (.int .i64 ty) ∧ w'.cell? ⟨w.heap.size + 1, 0, none⟩ = some (.slice GA gn gc) ∧ w'.cell? ⟨w.heap.size + 1, 1, none⟩ = some (.slice FA fs.length fc) ∧ w'.cell? ⟨bF, 0, none⟩ = some (.string ⟨#[]⟩) ∧ w'.cell? ⟨bF, 1, none⟩ = some (.slice none 0 0) ∧ w'.cell? ⟨bF, 2, none⟩ = some (.int .i64 0) ∧ w'.cell? ⟨bF, 3, none⟩ = some (.slice Ar (ts.length + 1) cr) ∧ w'.cell? ⟨bF, 4, none⟩ = some (.slice none 0 0) ∧ w'.cell? ⟨bI, 0, none⟩ = some (.int .i64 1) ∧ w'.cell? ⟨bI, 1, none⟩ = some (.int .i64 ty) ∧ w'.cell? ⟨bI, 2, none⟩ = some (.int .i64 0) ∧ w'.cell? ⟨bI, 3, none⟩ = some (.slice Aa ts.length ca) ∧ w'.cell? ⟨bI, 4, none⟩ = some (.int .i64 n) ∧ w'.cell? ⟨bI, 5, none⟩ = some (.int .i64 0) ∧ w'.cell? ⟨bI, 6, none⟩ = some (.int .i64 0) ∧ w'.cell? ⟨bI, 7, none⟩ = some (.bool false)) := hide (by
        have hav6 : Rd w8.drew .i64 (.slice Aa (ups1 ts.length).length ca) (ups1 ts.length) := by rw [ups1_len]; exact hV8
        have hrv6 : Rd w8.drew .i64 (.slice Ar (ty :: ts).length cr) (ty :: ts) := hR8
        have hC := rcheck_any 1 ty 0 n 0 0 Aa Ar GA FA ca cr gn gc fc fs HSH.out (ups1 ts.length) (ty :: ts) (by rw [ups1_len]; omega) false (.string ⟨#[]⟩) (.slice none 0 0) (.slice none 0 0) 0 w8.drew (HT.out.below hbw8) (HO.out.below hbw8) hav6 hrv6 (HF.out.below hbw8)
        rw [ups1_len, List.length_cons] at hC
        refine hC.mono ?_
        rintro e w' ⟨rfl, hbe⟩
        exact ⟨by unfold checkA; rw [if_neg (by omega)], Below.all hbw8 hbe, cell_below hbe (hA8.cell 1), cell_below hbe (hM8.cell 0), cell_below hbe (hM8.cell 1), cell_below hbe (hF8.cell 0), cell_below hbe (hF8.cell 1), cell_below hbe (hF8.cell 2), cell_below hbe (hF8.cell 3), cell_below hbe (hF8.cell 4), cell_below hbe (HI8.out.cell 0), cell_below hbe (HI8.out.cell 1), cell_below hbe (HI8.out.cell 2), cell_below hbe (HI8.out.cell 3), cell_below hbe (HI8.out.cell 4), cell_below hbe (HI8.out.cell 5), cell_below hbe (HI8.out.cell 6), cell_below hbe (HI8.out.cell 7)⟩)
      have cc := K0
      clear hset hA8 hM8 hF8 hR8 hV8 hb8 hbw8
      go_region_held3 (fun w' => w'.cell? ⟨w.heap.size, 1, none⟩ = some (.int .i64 ty) ∧ w'.cell? ⟨w.heap.size + 1, 0, none⟩ = some (.slice GA gn gc) ∧ w'.cell? ⟨w.heap.size + 1, 1, none⟩ = some (.slice FA fs.length fc) ∧ w'.cell? ⟨bF, 0, none⟩ = some (.string ⟨#[]⟩) ∧ w'.cell? ⟨bF, 1, none⟩ = some (.slice none 0 0) ∧ w'.cell? ⟨bF, 2, none⟩ = some (.int .i64 0) ∧ w'.cell? ⟨bF, 3, none⟩ = some (.slice Ar (ts.length + 1) cr) ∧ w'.cell? ⟨bF, 4, none⟩ = some (.slice none 0 0) ∧ w'.cell? ⟨bI, 0, none⟩ = some (.int .i64 1) ∧ w'.cell? ⟨bI, 1, none⟩ = some (.int .i64 ty) ∧ w'.cell? ⟨bI, 2, none⟩ = some (.int .i64 0) ∧ w'.cell? ⟨bI, 3, none⟩ = some (.slice Aa ts.length ca) ∧ w'.cell? ⟨bI, 4, none⟩ = some (.int .i64 n) ∧ w'.cell? ⟨bI, 5, none⟩ = some (.int .i64 0) ∧ w'.cell? ⟨bI, 6, none⟩ = some (.int .i64 0) ∧ w'.cell? ⟨bI, 7, none⟩ = some (.bool false)) (first | exact cc | exact K0)
        (first | (go_at_call 46; refine HCk.out.mono ?_; rintro en w9 ⟨rfl, hb9, hc9'⟩; have HZ := hide hb9; replace cc := hc9'; clear hb9 hc9'))
      go_wp2_with fail
      go_ret2
      exact ⟨rfl, HZ.out⟩
set_option maxRecDepth 100000 in
set_option maxHeartbeats 8000000 in
theorem rn_33 (ty n : Int) (A : Option Addr) (c : Nat) (ts : List Int) (hk : ts.length ≤ 4) (GA FA : Option Addr) (gn gc fc : Nat) (fs : List FD) (hsh : ∀ d ∈ fs, Shp d)  (w : World) (hT : Tab w) (hO : OpTab w) (hl : Rd w .i64 (.slice A ts.length c) ts) (hF : FnsAt w FA fs) :
    Calls Tryd.prog 30 #[.agg #[.int .i64 33, .int .i64 ty, .int .i64 n], .slice A ts.length c, .agg #[.slice GA gn gc, .slice FA fs.length fc]] w fun e w' => e = .returned (.tuple #[.int .i64 ty, .int .i64 (checkM 33 ty 0 n 0 0 false (ups1 ts.length) (ty :: ts) gn fs.length)]) ∧ Below w.heap.size w w' := by
  have HT := hide hT
  have HO := hide hO
  have HL := hide hl
  have HF := hide hF
  have HSH := hide hsh
  have hc9 : c ≤ 9223372036854775807 := by
    obtain ⟨_, _, e1, _, hm, -⟩ := id hl
    injection e1 with _ _ e1
    unfold maxLen at hm
    omega
  obtain ⟨w1, hw1⟩ : ∃ z, (w.alloc (.cells #[.int .i64 33, .int .i64 ty, .int .i64 n] 40)).alloc (.cells #[.slice GA gn gc, .slice FA fs.length fc] 32) = z := ⟨_, rfl⟩
  have HB : Hid (Below w.heap.size w w1) := hide (by rw [← hw1]; exact ((Below.refl _ _).alloc (Nat.le_refl _) _).alloc (by simp) _)
  have HA : Hid (Whole w1 w.heap.size 40 #[.int .i64 33, .int .i64 ty, .int .i64 n]) := hide (by rw [← hw1]; exact (Whole.new w _ _).alloc _)
  have HM : Hid (Whole w1 (w.heap.size + 1) 32 #[.slice GA gn gc, .slice FA fs.length fc]) := hide (by
    rw [← hw1, show w.heap.size + 1 = (w.alloc (.cells #[.int .i64 33, .int .i64 ty, .int .i64 n] 40)).heap.size by simp]; exact Whole.new _ _ _)
  have hi8 : (Tryd.prog.info? 78).map (·.size) = some 8 := by kernel_rfl
  have hi5 : (Tryd.prog.info? 28).map (·.size) = some 5 := by kernel_rfl
  have HI8' := hide hi8
  have HI5' := hide hi5
  have p1 : w1.cell? ⟨w.heap.size, 1, none⟩ = some (.int .i64 ty) := HA.out.cell 1
  have p0 : w1.cell? ⟨w.heap.size, 0, none⟩ = some (.int .i64 33) := HA.out.cell 0
  clear hT hO hl hF hi8 hi5 hsh
  go_enter Tryd.func30, Tryd.ntmps30
  go_upto_region 1 with fail
  clear hw1
  -- the registers
  refine wp_region_lit ?_
  go_step; go_step; go_step
  go_step; go_step; go_step
  refine wpList_bslice_g (by rfl) 25 1 _ rfl #[(0, .int .i64 ty)] (by kernel_rfl) (.slice (some ⟨w1.heap.size, 0, none⟩) 1 1) (w1.alloc (.cells #[.int .i64 ty] 24)) (by kernel_rfl) ?_
  obtain ⟨bR, hbR⟩ : ∃ b, w1.heap.size = b := ⟨_, rfl⟩
  obtain ⟨w2, hw2⟩ : ∃ z, w1.alloc (.cells #[.int .i64 ty] 24) = z := ⟨_, rfl⟩
  have HR2 : Hid (Own w2 bR 24 .i64 (.slice (some ⟨bR, 0, none⟩) 1 1) [ty]) := hide (by rw [← hw2, ← hbR]; exact own_one9 w1 _ _)
  have HB2 : Hid (Below bR w1 w2) := hide (by rw [← hw2, ← hbR]; exact (Below.refl _ _).alloc (Nat.le_refl _) _)
  have HbR := hide hbR
  have hs2 : bR ≤ w2.heap.size := by rw [← hw2, World.size_alloc]; omega
  rw [hw2, hbR]
  clear hw2 hbR p0 p1
  have HL2 := hide (HL.out.below' (HB.out.trans (HB2.out.mono (by have := HB.out.size; have := HbR.out; omega))))
  go_step; go_step; go_step
  refine wpList_append_rd _ rfl _ _ 25 rfl bR 24 .i64 8 tysE9 (.slice (some ⟨bR, 0, none⟩) 1 1) _ rfl HR2.out (.slice A ts.length c) ts rfl HL2.out ?b0 ?b1 hs2 ?_
  case b0 => simp only [List.length_singleton]; omega
  case b1 => simp only [List.length_singleton]; unfold maxLen; omega
  rintro rv w3 ho hg hbl -
  obtain ⟨Ar, cr, er, -⟩ := id ho.rd
  have er2 : rv = .slice Ar (ts.length + 1) cr := by rw [er]; simp
  subst er2
  have HR3 : Hid (Own w3 bR 24 .i64 (.slice Ar (ts.length + 1) cr) (ty :: ts)) := hide ho
  have HB3 : Hid (Below bR w1 w3) := hide (HB2.out.trans hbl)
  clear ho hg hbl er HR2 HB2 HL2 hs2
  refine wpList_build_g (by rfl) _ _ rfl (fnR Ar (ts.length + 1) cr) (by kernel_rfl) ?_
  go_step; go_step; go_step
  refine wpList_store_new (by rfl) _ _ _ rfl _ _ (fnR Ar (ts.length + 1) cr) (by rfl) (by rfl) (by rfl) HI5'.out (fnR_all _ _ _) ?_
  obtain ⟨bF, hbF⟩ : ∃ b, w3.heap.size = b := ⟨_, rfl⟩
  rw [hbF]
  obtain ⟨w4, hw4⟩ : ∃ z, w3.alloc (.cells (fnR Ar (ts.length + 1) cr).toArray 28) = z := ⟨_, rfl⟩
  have b34 : Below w3.heap.size w3 w4 := by rw [← hw4]; exact (Below.refl _ _).alloc (Nat.le_refl _) _
  have HFn : Hid (Whole w4 bF 28 (fnR Ar (ts.length + 1) cr).toArray) := hide (by rw [← hw4, ← hbF]; exact Whole.new w3 _ _)
  have HR4 := hide (HR3.out.below' b34)
  have HB4 : Hid (Below bR w1 w4) := hide (HB3.out.trans (b34.mono (by have := HB3.out.size; have := HbR.out; omega)))
  have hbRF : Hid (bR ≤ bF) := hide (by have := HB3.out.size; have := HbR.out; omega)
  rw [hw4]
  clear hw4 b34 hbF HR3 HB3
  have hA4 := hide (HA.out.below HB4.out (by have := HA.out.lt; have := HbR.out; omega))
  have p0 : w4.cell? ⟨w.heap.size, 0, none⟩ = some (.int .i64 33) := hA4.out.cell 0
  have p1 : w4.cell? ⟨w.heap.size, 1, none⟩ = some (.int .i64 ty) := hA4.out.cell 1
  go_upto_region 2 with fail
  refine wp_region_lit ?_
  go_step; go_step; go_step
  go_step; go_step; go_step
  go_step; go_step; go_step
  go_step; go_step; go_step
  refine wpList_build_g (by rfl) _ _ rfl (instC 33 ty 0 0 0 (.slice none 0 0)).toList (by kernel_rfl) ?_
  go_step; go_step; go_step
  refine wpList_store_new (by rfl) _ _ _ rfl _ _ (instC 33 ty 0 0 0 (.slice none 0 0)).toList (by rfl) (by rfl) (by rfl) HI8'.out (instC_all _ _ _ _ _ _ _ _) ?_
  obtain ⟨bI, hbI⟩ : ∃ b, w4.heap.size = b := ⟨_, rfl⟩
  rw [hbI]
  obtain ⟨w5, hw5⟩ : ∃ z, w4.alloc (.cells (instC 33 ty 0 0 0 (.slice none 0 0)) 78) = z := ⟨_, rfl⟩
  have b45 : Below w4.heap.size w4 w5 := by rw [← hw5]; exact (Below.refl _ _).alloc (Nat.le_refl _) _
  have HI5 : Hid (Whole w5 bI 78 (instC 33 ty 0 0 0 (.slice none 0 0))) := hide (by rw [← hw5, ← hbI]; exact Whole.new w4 _ _)
  have HFn5 := hide (HFn.out.below' b45)
  have HR5 := hide (HR4.out.below' b45)
  have HB5 : Hid (Below bR w1 w5) := hide (HB4.out.trans (b45.mono (by have := HB4.out.size; have := HbR.out; omega)))
  have hbFI : Hid (bF < bI) := hide (by rw [← hbI]; exact HFn.out.lt)
  have hRlt : Hid (∀ g, (Value.slice Ar (ts.length + 1) cr).ownBlock = some g → g < bI) := hide (fun g hg => by rw [← hbI]; exact (HR4.out.size g hg).2)
  have hs5 : bI + 1 = w5.heap.size := by rw [← hw5, World.size_alloc, hbI]
  rw [show w4.alloc (.cells (instC 33 ty 0 0 0 (.slice none 0 0)).toList.toArray 78) = w5 from hw5]
  clear hw5 b45 HFn HR4 HB4 hA4 p0 p1
  have HS5 := hide hs5
  clear hs5 hbI
  go_wp2_with fail
  go_loopw [24] (fun z wr => ∃ (j : Nat) (av : Value), j ≤ ts.length ∧ z = .int .i64 j ∧ Hid (Own wr (bI + 1) 3 .i64 av (ups1 j)) ∧ Hid (Whole wr bI 78 (instC 33 ty 0 0 0 av)) ∧ Hid (Below bI w5 wr)) (fun z _ => ts.length - (intOf z).toNat)
  case atStart => exact ⟨0, .slice none 0 0, Nat.zero_le _, rfl, hide Own.nil, HI5, hide (Below.refl _ _)⟩
  case round =>
    clear HI5
    obtain ⟨wq, rfl⟩ : ∃ x, x = wr := ⟨_, rfl⟩
    obtain ⟨j, av, hj, rfl, hAv, hI, hb⟩ := hrel
    obtain ⟨Aa, ca, ea, hca, hma, -⟩ := id hAv.out.rd
    have hla : (ups1 j).length = j := ups1_len j
    rw [hla] at ea hca
    subst ea
    have hca9 : ca ≤ 9223372036854775807 := by unfold maxLen at hma; omega
    have hsq : Hid (bI + 1 ≤ wq.heap.size) := hide (by have := hb.out.size; have := HS5.out; omega)
    clear hma
    by_cases hlt : j < ts.length
    · have c3 : wq.cell? ⟨bI, 3, none⟩ = some (.slice Aa j ca) := hI.out.cell 3
      have HO5 := hide (hAv.out.alloc (.cells #[.int .i64 ((j : Int) + 1)] 3))
      have hs6 : bI + 1 ≤ (wq.alloc (.cells #[.int .i64 ((j : Int) + 1)] 3)).heap.size := by have := hsq.out; simp; omega
      have HLA := hide hla
      clear hla
      go_wp2_with (refine wpList_append_rd _ rfl _ _ 23 rfl (bI + 1) 3 .i64 8 intsE9 _ _ rfl HO5.out _ [(j : Int) + 1] rfl (rd_one _ _ _) ?b2 ?b3 hs6 ?_)
      case b2 => rw [HLA.out]; simp only [List.length_singleton]; omega
      case b3 => rw [HLA.out]; simp only [List.length_singleton]; unfold maxLen; omega
      rintro v' w6 ho hg hbl hw6
      have f16 : Frm wq w6 (Value.slice Aa j ca).ownBlock.toList := ((Frm.refl wq _).alloc _).trans (Frm.grown hg)
      have hnb : bI ∉ (Value.slice Aa j ca).ownBlock.toList := fun h => by have := (hAv.out.size bI (by simpa using h)).1; omega
      have HI6 := hide (hI.out.frm f16 hnb)
      have HV6 := hide ho
      have HF6 := hide f16
      have c3' : w6.cell? ⟨bI, 3, none⟩ = some (.slice Aa j ca) := HI6.out.cell 3
      have f3' : w6.frozen? ⟨bI, 3, none⟩ = false := HI6.out.free 3
      clear ho hg hbl hw6 f16 hnb c3 hs6 HO5
      obtain ⟨A6, c6, e6, -, hm6, -⟩ := id HV6.out.rd
      have hc69 : c6 ≤ 9223372036854775807 := by unfold maxLen at hm6; omega
      have hl6 : (ups1 j ++ [(j : Int) + 1]).length = j + 1 := by rw [List.length_append, ups1_len]; rfl
      rw [hl6] at e6
      subst e6
      clear hm6 hl6
      have HI7 : Hid (Whole (w6.setCell ⟨bI, 3, none⟩ (.slice A6 (j + 1) c6)) bI 78 (instC 33 ty 0 0 0 (.slice A6 (j + 1) c6))) := hide (HI6.out.set 3 _)
      have hset : Frm w6 (w6.setCell ⟨bI, 3, none⟩ (.slice A6 (j + 1) c6)) [bI] := (Frm.refl w6 [bI]).setCell _ _ (.inl (by simp))
      have HV7 : Hid (Own (w6.setCell ⟨bI, 3, none⟩ (.slice A6 (j + 1) c6)) (bI + 1) 3 .i64 (.slice A6 (j + 1) c6) (ups1 (j + 1))) := hide (by rw [ups1_succ]; exact HV6.out.frm9 hset (fun g hg hm => by have := (HV6.out.size g hg).1; rw [List.mem_singleton] at hm; omega))
      have HB7 : Hid (Below bI w5 (w6.setCell ⟨bI, 3, none⟩ (.slice A6 (j + 1) c6))) := hide ((hb.out.trans (HF6.out.toBelow (B := bI) (fun g hg => by have := (hAv.out.size g (by simpa using hg)).1; omega) (by have := hsq.out; omega))).trans (hset.toBelow (fun g hg => by rw [List.mem_singleton.1 hg]; exact Nat.le_refl _) (by have := HF6.out.size; have := hsq.out; omega)))
      clear hset HI6 HV6 HF6 hAv hI
      go_wp2_with fail
      go_roundw
      case rel => exact ⟨j + 1, _, by omega, by go_num, HV7, HI7, HB7⟩
      case measure => simp [intOf]; omega
    · have hjl : j = ts.length := by omega
      obtain rfl := hjl
      have hb1 : Hid (Below bR w1 wq) := hide (HB5.out.trans (hb.out.mono (by have := hbRF.out; have := hbFI.out; omega)))
      have HA' := hide (HA.out.below hb1.out (by have := HA.out.lt; have := HbR.out; omega))
      have HM' := hide (HM.out.below hb1.out (by have := HM.out.lt; have := HbR.out; omega))
      have HFn' := hide (HFn5.out.below hb.out hbFI.out)
      have fr : Frm w5 wq [bI] := ⟨hb.out.os, hb.out.tape, hb.out.output, hb.out.size, fun k hk hn => hb.out.block k (by have := HS5.out; simp at hn; omega)⟩
      have HR' := hide (HR5.out.frm9 fr (fun g hg hm => by have := hRlt.out g hg; rw [List.mem_singleton] at hm; omega))
      clear hla hlt hj
      have i4 : wq.cell? ⟨bI, 4, none⟩ = some (.int .i64 0) := hI.out.cell 4
      have f4 : wq.frozen? ⟨bI, 4, none⟩ = false := hI.out.free 4
      have n0 : wq.cell? ⟨w.heap.size, 0, none⟩ = some (.int .i64 33) := HA'.out.cell 0
      have n2 : wq.cell? ⟨w.heap.size, 2, none⟩ = some (.int .i64 n) := HA'.out.cell 2
      have hset : Frm wq (wq.setCell ⟨bI, 4, none⟩ (.int .i64 n)) [bI] := (Frm.refl wq [bI]).setCell _ _ (.inl (by simp))
      go_upto_region 12 with fail
      clear n0 n2 i4 f4
      obtain ⟨w8, hw8⟩ : ∃ z, wq.setCell ⟨bI, 4, none⟩ (.int .i64 n) = z := ⟨_, rfl⟩
      have HI8 : Hid (Whole w8 bI 78 (instC 33 ty 0 n 0 (.slice Aa ts.length ca))) := hide (by rw [← hw8]; exact hI.out.set 4 (.int .i64 n))
      rw [hw8] at hset ⊢
      clear hw8
      have hA8 := HA'.out.frm hset (by have := HA.out.lt; have := HbR.out; have := hbRF.out; have := hbFI.out; simp; omega)
      have hM8 := HM'.out.frm hset (by have := HM.out.lt; have := HbR.out; have := hbRF.out; have := hbFI.out; simp; omega)
      have hF8 := HFn'.out.frm hset (by have := hbFI.out; simp; omega)
      have hR8 := (HR'.out.frm9 hset (fun g hg hm => by have := hRlt.out g hg; rw [List.mem_singleton] at hm; omega)).rd
      have hV8 := (hAv.out.frm9 hset (fun g hg hm => by have := (hAv.out.size g hg).1; rw [List.mem_singleton] at hm; omega)).rd
      have hb8 : Below bI w5 w8 := hb.out.trans (hset.toBelow (fun g hg => by rw [List.mem_singleton.1 hg]; exact Nat.le_refl _) (by have := hsq.out; omega))
      have hbw8 : Below w.heap.size w w8.drew := Below.drewN' (HB.out.trans ((HB5.out.trans (hb8.mono (by have := hbRF.out; have := hbFI.out; omega))).mono (by have := HB.out.size; have := HbR.out; omega))) 1
      have K0 : w8.drew.cell? ⟨w.heap.size, 1, none⟩ = some (.int .i64 ty) ∧ w8.drew.cell? ⟨w.heap.size + 1, 0, none⟩ = some (.slice GA gn gc) ∧ w8.drew.cell? ⟨w.heap.size + 1, 1, none⟩ = some (.slice FA fs.length fc) ∧ w8.drew.cell? ⟨bF, 0, none⟩ = some (.string ⟨#[]⟩) ∧ w8.drew.cell? ⟨bF, 1, none⟩ = some (.slice none 0 0) ∧ w8.drew.cell? ⟨bF, 2, none⟩ = some (.int .i64 0) ∧ w8.drew.cell? ⟨bF, 3, none⟩ = some (.slice Ar (ts.length + 1) cr) ∧ w8.drew.cell? ⟨bF, 4, none⟩ = some (.slice none 0 0) ∧ w8.drew.cell? ⟨bI, 0, none⟩ = some (.int .i64 33) ∧ w8.drew.cell? ⟨bI, 1, none⟩ = some (.int .i64 ty) ∧ w8.drew.cell? ⟨bI, 2, none⟩ = some (.int .i64 0) ∧ w8.drew.cell? ⟨bI, 3, none⟩ = some (.slice Aa ts.length ca) ∧ w8.drew.cell? ⟨bI, 4, none⟩ = some (.int .i64 n) ∧ w8.drew.cell? ⟨bI, 5, none⟩ = some (.int .i64 0) ∧ w8.drew.cell? ⟨bI, 6, none⟩ = some (.int .i64 0) ∧ w8.drew.cell? ⟨bI, 7, none⟩ = some (.bool false) := ⟨hA8.cell 1, hM8.cell 0, hM8.cell 1, hF8.cell 0, hF8.cell 1, hF8.cell 2, hF8.cell 3, hF8.cell 4, HI8.out.cell 0, HI8.out.cell 1, HI8.out.cell 2, HI8.out.cell 3, HI8.out.cell 4, HI8.out.cell 5, HI8.out.cell 6, HI8.out.cell 7⟩
      have HCk : Hid (Calls Tryd.prog 46 #[.agg #[.int .i64 33, .int .i64 ty, .int .i64 0, .slice Aa ts.length ca, .int .i64 n, .int .i64 0, .int .i64 0, .bool false], .agg #[.string ⟨#[]⟩, .slice none 0 0, .int .i64 0, .slice Ar (ts.length + 1) cr, .slice none 0 0], .agg #[.slice GA gn gc, .slice FA fs.length fc]] w8.drew fun e w' =>
          e = .returned (.int .i64 (checkM 33 ty 0 n 0 0 false (ups1 ts.length) (ty :: ts) gn fs.length)) ∧ Below w.heap.size w w' ∧ w'.cell? ⟨w.heap.size, 1, none⟩ = some (.int .i64 ty) ∧ w'.cell? ⟨w.heap.size + 1, 0, none⟩ = some (.slice GA gn gc) ∧ w'.cell? ⟨w.heap.size + 1, 1, none⟩ = some (.slice FA fs.length fc) ∧ w'.cell? ⟨bF, 0, none⟩ = some (.string ⟨#[]⟩) ∧ w'.cell? ⟨bF, 1, none⟩ = some (.slice none 0 0) ∧ w'.cell? ⟨bF, 2, none⟩ = some (.int .i64 0) ∧ w'.cell? ⟨bF, 3, none⟩ = some (.slice Ar (ts.length + 1) cr) ∧ w'.cell? ⟨bF, 4, none⟩ = some (.slice none 0 0) ∧ w'.cell? ⟨bI, 0, none⟩ = some (.int .i64 33) ∧ w'.cell? ⟨bI, 1, none⟩ = some (.int .i64 ty) ∧ w'.cell? ⟨bI, 2, none⟩ = some (.int .i64 0) ∧ w'.cell? ⟨bI, 3, none⟩ = some (.slice Aa ts.length ca) ∧ w'.cell? ⟨bI, 4, none⟩ = some (.int .i64 n) ∧ w'.cell? ⟨bI, 5, none⟩ = some (.int .i64 0) ∧ w'.cell? ⟨bI, 6, none⟩ = some (.int .i64 0) ∧ w'.cell? ⟨bI, 7, none⟩ = some (.bool false)) := hide (by
        have hav6 : Rd w8.drew .i64 (.slice Aa (ups1 ts.length).length ca) (ups1 ts.length) := by rw [ups1_len]; exact hV8
        have hrv6 : Rd w8.drew .i64 (.slice Ar (ty :: ts).length cr) (ty :: ts) := hR8
        have hC := rcheck_any 33 ty 0 n 0 0 Aa Ar GA FA ca cr gn gc fc fs HSH.out (ups1 ts.length) (ty :: ts) (by rw [ups1_len]; omega) false (.string ⟨#[]⟩) (.slice none 0 0) (.slice none 0 0) 0 w8.drew (HT.out.below hbw8) (HO.out.below hbw8) hav6 hrv6 (HF.out.below hbw8)
        rw [ups1_len, List.length_cons] at hC
        refine hC.mono ?_
        rintro e w' ⟨rfl, hbe⟩
        exact ⟨by unfold checkA; rw [if_neg (by omega)], Below.all hbw8 hbe, cell_below hbe (hA8.cell 1), cell_below hbe (hM8.cell 0), cell_below hbe (hM8.cell 1), cell_below hbe (hF8.cell 0), cell_below hbe (hF8.cell 1), cell_below hbe (hF8.cell 2), cell_below hbe (hF8.cell 3), cell_below hbe (hF8.cell 4), cell_below hbe (HI8.out.cell 0), cell_below hbe (HI8.out.cell 1), cell_below hbe (HI8.out.cell 2), cell_below hbe (HI8.out.cell 3), cell_below hbe (HI8.out.cell 4), cell_below hbe (HI8.out.cell 5), cell_below hbe (HI8.out.cell 6), cell_below hbe (HI8.out.cell 7)⟩)
      have cc := K0
      clear hset hA8 hM8 hF8 hR8 hV8 hb8 hbw8
      go_region_held3 (fun w' => w'.cell? ⟨w.heap.size, 1, none⟩ = some (.int .i64 ty) ∧ w'.cell? ⟨w.heap.size + 1, 0, none⟩ = some (.slice GA gn gc) ∧ w'.cell? ⟨w.heap.size + 1, 1, none⟩ = some (.slice FA fs.length fc) ∧ w'.cell? ⟨bF, 0, none⟩ = some (.string ⟨#[]⟩) ∧ w'.cell? ⟨bF, 1, none⟩ = some (.slice none 0 0) ∧ w'.cell? ⟨bF, 2, none⟩ = some (.int .i64 0) ∧ w'.cell? ⟨bF, 3, none⟩ = some (.slice Ar (ts.length + 1) cr) ∧ w'.cell? ⟨bF, 4, none⟩ = some (.slice none 0 0) ∧ w'.cell? ⟨bI, 0, none⟩ = some (.int .i64 33) ∧ w'.cell? ⟨bI, 1, none⟩ = some (.int .i64 ty) ∧ w'.cell? ⟨bI, 2, none⟩ = some (.int .i64 0) ∧ w'.cell? ⟨bI, 3, none⟩ = some (.slice Aa ts.length ca) ∧ w'.cell? ⟨bI, 4, none⟩ = some (.int .i64 n) ∧ w'.cell? ⟨bI, 5, none⟩ = some (.int .i64 0) ∧ w'.cell? ⟨bI, 6, none⟩ = some (.int .i64 0) ∧ w'.cell? ⟨bI, 7, none⟩ = some (.bool false)) (first | exact cc | exact K0)
        (first | (go_at_call 46; refine HCk.out.mono ?_; rintro en w9 ⟨rfl, hb9, hc9'⟩; have HZ := hide hb9; replace cc := hc9'; clear hb9 hc9'))
      go_wp2_with fail
      go_ret2
      exact ⟨rfl, HZ.out⟩
set_option maxRecDepth 100000 in
set_option maxHeartbeats 8000000 in
theorem rn_op (op ty n : Int) (A : Option Addr) (c : Nat) (ts : List Int) (hk : ts.length ≤ 4) (GA FA : Option Addr) (gn gc fc : Nat) (fs : List FD) (hsh : ∀ d ∈ fs, Shp d) (g25 : (op == 25) = false) (g1 : (op == 1) = false) (g33 : (op == 33) = false) (c30 : ¬ op = 30) (w : World) (hT : Tab w) (hO : OpTab w) (hl : Rd w .i64 (.slice A ts.length c) ts) (hF : FnsAt w FA fs) :
    Calls Tryd.prog 30 #[.agg #[.int .i64 op, .int .i64 ty, .int .i64 n], .slice A ts.length c, .agg #[.slice GA gn gc, .slice FA fs.length fc]] w fun e w' => e = .returned (.tuple #[.int .i64 ty, .int .i64 (checkM op ty 0 0 0 0 false (ups1 ts.length) (ty :: ts) gn fs.length)]) ∧ Below w.heap.size w w' := by
  have HT := hide hT
  have HO := hide hO
  have HL := hide hl
  have HF := hide hF
  have HSH := hide hsh
  have hc9 : c ≤ 9223372036854775807 := by
    obtain ⟨_, _, e1, _, hm, -⟩ := id hl
    injection e1 with _ _ e1
    unfold maxLen at hm
    omega
  obtain ⟨w1, hw1⟩ : ∃ z, (w.alloc (.cells #[.int .i64 op, .int .i64 ty, .int .i64 n] 40)).alloc (.cells #[.slice GA gn gc, .slice FA fs.length fc] 32) = z := ⟨_, rfl⟩
  have HB : Hid (Below w.heap.size w w1) := hide (by rw [← hw1]; exact ((Below.refl _ _).alloc (Nat.le_refl _) _).alloc (by simp) _)
  have HA : Hid (Whole w1 w.heap.size 40 #[.int .i64 op, .int .i64 ty, .int .i64 n]) := hide (by rw [← hw1]; exact (Whole.new w _ _).alloc _)
  have HM : Hid (Whole w1 (w.heap.size + 1) 32 #[.slice GA gn gc, .slice FA fs.length fc]) := hide (by
    rw [← hw1, show w.heap.size + 1 = (w.alloc (.cells #[.int .i64 op, .int .i64 ty, .int .i64 n] 40)).heap.size by simp]; exact Whole.new _ _ _)
  have hi8 : (Tryd.prog.info? 78).map (·.size) = some 8 := by kernel_rfl
  have hi5 : (Tryd.prog.info? 28).map (·.size) = some 5 := by kernel_rfl
  have HI8' := hide hi8
  have HI5' := hide hi5
  have p1 : w1.cell? ⟨w.heap.size, 1, none⟩ = some (.int .i64 ty) := HA.out.cell 1
  have p0 : w1.cell? ⟨w.heap.size, 0, none⟩ = some (.int .i64 op) := HA.out.cell 0
  clear hT hO hl hF hi8 hi5 hsh
  go_enter Tryd.func30, Tryd.ntmps30
  go_upto_region 1 with fail
  clear hw1
  -- the registers
  refine wp_region_lit ?_
  go_step; go_step; go_step
  go_step; go_step; go_step
  refine wpList_bslice_g (by rfl) 25 1 _ rfl #[(0, .int .i64 ty)] (by kernel_rfl) (.slice (some ⟨w1.heap.size, 0, none⟩) 1 1) (w1.alloc (.cells #[.int .i64 ty] 24)) (by kernel_rfl) ?_
  obtain ⟨bR, hbR⟩ : ∃ b, w1.heap.size = b := ⟨_, rfl⟩
  obtain ⟨w2, hw2⟩ : ∃ z, w1.alloc (.cells #[.int .i64 ty] 24) = z := ⟨_, rfl⟩
  have HR2 : Hid (Own w2 bR 24 .i64 (.slice (some ⟨bR, 0, none⟩) 1 1) [ty]) := hide (by rw [← hw2, ← hbR]; exact own_one9 w1 _ _)
  have HB2 : Hid (Below bR w1 w2) := hide (by rw [← hw2, ← hbR]; exact (Below.refl _ _).alloc (Nat.le_refl _) _)
  have HbR := hide hbR
  have hs2 : bR ≤ w2.heap.size := by rw [← hw2, World.size_alloc]; omega
  rw [hw2, hbR]
  clear hw2 hbR p0 p1
  have HL2 := hide (HL.out.below' (HB.out.trans (HB2.out.mono (by have := HB.out.size; have := HbR.out; omega))))
  go_step; go_step; go_step
  refine wpList_append_rd _ rfl _ _ 25 rfl bR 24 .i64 8 tysE9 (.slice (some ⟨bR, 0, none⟩) 1 1) _ rfl HR2.out (.slice A ts.length c) ts rfl HL2.out ?b0 ?b1 hs2 ?_
  case b0 => simp only [List.length_singleton]; omega
  case b1 => simp only [List.length_singleton]; unfold maxLen; omega
  rintro rv w3 ho hg hbl -
  obtain ⟨Ar, cr, er, -⟩ := id ho.rd
  have er2 : rv = .slice Ar (ts.length + 1) cr := by rw [er]; simp
  subst er2
  have HR3 : Hid (Own w3 bR 24 .i64 (.slice Ar (ts.length + 1) cr) (ty :: ts)) := hide ho
  have HB3 : Hid (Below bR w1 w3) := hide (HB2.out.trans hbl)
  clear ho hg hbl er HR2 HB2 HL2 hs2
  refine wpList_build_g (by rfl) _ _ rfl (fnR Ar (ts.length + 1) cr) (by kernel_rfl) ?_
  go_step; go_step; go_step
  refine wpList_store_new (by rfl) _ _ _ rfl _ _ (fnR Ar (ts.length + 1) cr) (by rfl) (by rfl) (by rfl) HI5'.out (fnR_all _ _ _) ?_
  obtain ⟨bF, hbF⟩ : ∃ b, w3.heap.size = b := ⟨_, rfl⟩
  rw [hbF]
  obtain ⟨w4, hw4⟩ : ∃ z, w3.alloc (.cells (fnR Ar (ts.length + 1) cr).toArray 28) = z := ⟨_, rfl⟩
  have b34 : Below w3.heap.size w3 w4 := by rw [← hw4]; exact (Below.refl _ _).alloc (Nat.le_refl _) _
  have HFn : Hid (Whole w4 bF 28 (fnR Ar (ts.length + 1) cr).toArray) := hide (by rw [← hw4, ← hbF]; exact Whole.new w3 _ _)
  have HR4 := hide (HR3.out.below' b34)
  have HB4 : Hid (Below bR w1 w4) := hide (HB3.out.trans (b34.mono (by have := HB3.out.size; have := HbR.out; omega)))
  have hbRF : Hid (bR ≤ bF) := hide (by have := HB3.out.size; have := HbR.out; omega)
  rw [hw4]
  clear hw4 b34 hbF HR3 HB3
  have hA4 := hide (HA.out.below HB4.out (by have := HA.out.lt; have := HbR.out; omega))
  have p0 : w4.cell? ⟨w.heap.size, 0, none⟩ = some (.int .i64 op) := hA4.out.cell 0
  have p1 : w4.cell? ⟨w.heap.size, 1, none⟩ = some (.int .i64 ty) := hA4.out.cell 1
  go_upto_region 2 with fail
  refine wp_region_lit ?_
  go_step; go_step; go_step
  go_step; go_step; go_step
  go_step; go_step; go_step
  go_step; go_step; go_step
  refine wpList_build_g (by rfl) _ _ rfl (instC op ty 0 0 0 (.slice none 0 0)).toList (by kernel_rfl) ?_
  go_step; go_step; go_step
  refine wpList_store_new (by rfl) _ _ _ rfl _ _ (instC op ty 0 0 0 (.slice none 0 0)).toList (by rfl) (by rfl) (by rfl) HI8'.out (instC_all _ _ _ _ _ _ _ _) ?_
  obtain ⟨bI, hbI⟩ : ∃ b, w4.heap.size = b := ⟨_, rfl⟩
  rw [hbI]
  obtain ⟨w5, hw5⟩ : ∃ z, w4.alloc (.cells (instC op ty 0 0 0 (.slice none 0 0)) 78) = z := ⟨_, rfl⟩
  have b45 : Below w4.heap.size w4 w5 := by rw [← hw5]; exact (Below.refl _ _).alloc (Nat.le_refl _) _
  have HI5 : Hid (Whole w5 bI 78 (instC op ty 0 0 0 (.slice none 0 0))) := hide (by rw [← hw5, ← hbI]; exact Whole.new w4 _ _)
  have HFn5 := hide (HFn.out.below' b45)
  have HR5 := hide (HR4.out.below' b45)
  have HB5 : Hid (Below bR w1 w5) := hide (HB4.out.trans (b45.mono (by have := HB4.out.size; have := HbR.out; omega)))
  have hbFI : Hid (bF < bI) := hide (by rw [← hbI]; exact HFn.out.lt)
  have hRlt : Hid (∀ g, (Value.slice Ar (ts.length + 1) cr).ownBlock = some g → g < bI) := hide (fun g hg => by rw [← hbI]; exact (HR4.out.size g hg).2)
  have hs5 : bI + 1 = w5.heap.size := by rw [← hw5, World.size_alloc, hbI]
  rw [show w4.alloc (.cells (instC op ty 0 0 0 (.slice none 0 0)).toList.toArray 78) = w5 from hw5]
  clear hw5 b45 HFn HR4 HB4 hA4 p0 p1
  have HS5 := hide hs5
  clear hs5 hbI
  go_wp2_with fail
  go_loopw [24] (fun z wr => ∃ (j : Nat) (av : Value), j ≤ ts.length ∧ z = .int .i64 j ∧ Hid (Own wr (bI + 1) 3 .i64 av (ups1 j)) ∧ Hid (Whole wr bI 78 (instC op ty 0 0 0 av)) ∧ Hid (Below bI w5 wr)) (fun z _ => ts.length - (intOf z).toNat)
  case atStart => exact ⟨0, .slice none 0 0, Nat.zero_le _, rfl, hide Own.nil, HI5, hide (Below.refl _ _)⟩
  case round =>
    clear HI5
    obtain ⟨wq, rfl⟩ : ∃ x, x = wr := ⟨_, rfl⟩
    obtain ⟨j, av, hj, rfl, hAv, hI, hb⟩ := hrel
    obtain ⟨Aa, ca, ea, hca, hma, -⟩ := id hAv.out.rd
    have hla : (ups1 j).length = j := ups1_len j
    rw [hla] at ea hca
    subst ea
    have hca9 : ca ≤ 9223372036854775807 := by unfold maxLen at hma; omega
    have hsq : Hid (bI + 1 ≤ wq.heap.size) := hide (by have := hb.out.size; have := HS5.out; omega)
    clear hma
    by_cases hlt : j < ts.length
    · have c3 : wq.cell? ⟨bI, 3, none⟩ = some (.slice Aa j ca) := hI.out.cell 3
      have HO5 := hide (hAv.out.alloc (.cells #[.int .i64 ((j : Int) + 1)] 3))
      have hs6 : bI + 1 ≤ (wq.alloc (.cells #[.int .i64 ((j : Int) + 1)] 3)).heap.size := by have := hsq.out; simp; omega
      have HLA := hide hla
      clear hla
      go_wp2_with (refine wpList_append_rd _ rfl _ _ 23 rfl (bI + 1) 3 .i64 8 intsE9 _ _ rfl HO5.out _ [(j : Int) + 1] rfl (rd_one _ _ _) ?b2 ?b3 hs6 ?_)
      case b2 => rw [HLA.out]; simp only [List.length_singleton]; omega
      case b3 => rw [HLA.out]; simp only [List.length_singleton]; unfold maxLen; omega
      rintro v' w6 ho hg hbl hw6
      have f16 : Frm wq w6 (Value.slice Aa j ca).ownBlock.toList := ((Frm.refl wq _).alloc _).trans (Frm.grown hg)
      have hnb : bI ∉ (Value.slice Aa j ca).ownBlock.toList := fun h => by have := (hAv.out.size bI (by simpa using h)).1; omega
      have HI6 := hide (hI.out.frm f16 hnb)
      have HV6 := hide ho
      have HF6 := hide f16
      have c3' : w6.cell? ⟨bI, 3, none⟩ = some (.slice Aa j ca) := HI6.out.cell 3
      have f3' : w6.frozen? ⟨bI, 3, none⟩ = false := HI6.out.free 3
      clear ho hg hbl hw6 f16 hnb c3 hs6 HO5
      obtain ⟨A6, c6, e6, -, hm6, -⟩ := id HV6.out.rd
      have hc69 : c6 ≤ 9223372036854775807 := by unfold maxLen at hm6; omega
      have hl6 : (ups1 j ++ [(j : Int) + 1]).length = j + 1 := by rw [List.length_append, ups1_len]; rfl
      rw [hl6] at e6
      subst e6
      clear hm6 hl6
      have HI7 : Hid (Whole (w6.setCell ⟨bI, 3, none⟩ (.slice A6 (j + 1) c6)) bI 78 (instC op ty 0 0 0 (.slice A6 (j + 1) c6))) := hide (HI6.out.set 3 _)
      have hset : Frm w6 (w6.setCell ⟨bI, 3, none⟩ (.slice A6 (j + 1) c6)) [bI] := (Frm.refl w6 [bI]).setCell _ _ (.inl (by simp))
      have HV7 : Hid (Own (w6.setCell ⟨bI, 3, none⟩ (.slice A6 (j + 1) c6)) (bI + 1) 3 .i64 (.slice A6 (j + 1) c6) (ups1 (j + 1))) := hide (by rw [ups1_succ]; exact HV6.out.frm9 hset (fun g hg hm => by have := (HV6.out.size g hg).1; rw [List.mem_singleton] at hm; omega))
      have HB7 : Hid (Below bI w5 (w6.setCell ⟨bI, 3, none⟩ (.slice A6 (j + 1) c6))) := hide ((hb.out.trans (HF6.out.toBelow (B := bI) (fun g hg => by have := (hAv.out.size g (by simpa using hg)).1; omega) (by have := hsq.out; omega))).trans (hset.toBelow (fun g hg => by rw [List.mem_singleton.1 hg]; exact Nat.le_refl _) (by have := HF6.out.size; have := hsq.out; omega)))
      clear hset HI6 HV6 HF6 hAv hI
      go_wp2_with fail
      go_roundw
      case rel => exact ⟨j + 1, _, by omega, by go_num, HV7, HI7, HB7⟩
      case measure => simp [intOf]; omega
    · have hjl : j = ts.length := by omega
      obtain rfl := hjl
      have hb1 : Hid (Below bR w1 wq) := hide (HB5.out.trans (hb.out.mono (by have := hbRF.out; have := hbFI.out; omega)))
      have HA' := hide (HA.out.below hb1.out (by have := HA.out.lt; have := HbR.out; omega))
      have HM' := hide (HM.out.below hb1.out (by have := HM.out.lt; have := HbR.out; omega))
      have HFn' := hide (HFn5.out.below hb.out hbFI.out)
      have fr : Frm w5 wq [bI] := ⟨hb.out.os, hb.out.tape, hb.out.output, hb.out.size, fun k hk hn => hb.out.block k (by have := HS5.out; simp at hn; omega)⟩
      have HR' := hide (HR5.out.frm9 fr (fun g hg hm => by have := hRlt.out g hg; rw [List.mem_singleton] at hm; omega))
      clear hla hlt hj
      have n0 : wq.cell? ⟨w.heap.size, 0, none⟩ = some (.int .i64 op) := HA'.out.cell 0
      go_upto_region 12 with fail
      clear n0
      obtain ⟨w8, hw8⟩ : ∃ z, wq = z := ⟨_, rfl⟩
      have hset : Frm wq w8 [bI] := by rw [← hw8]; exact Frm.refl wq [bI]
      have HI8 : Hid (Whole w8 bI 78 (instC op ty 0 0 0 (.slice Aa ts.length ca))) := by rw [← hw8]; exact hI
      rw [hw8]
      clear hw8
      have hA8 := HA'.out.frm hset (by have := HA.out.lt; have := HbR.out; have := hbRF.out; have := hbFI.out; simp; omega)
      have hM8 := HM'.out.frm hset (by have := HM.out.lt; have := HbR.out; have := hbRF.out; have := hbFI.out; simp; omega)
      have hF8 := HFn'.out.frm hset (by have := hbFI.out; simp; omega)
      have hR8 := (HR'.out.frm9 hset (fun g hg hm => by have := hRlt.out g hg; rw [List.mem_singleton] at hm; omega)).rd
      have hV8 := (hAv.out.frm9 hset (fun g hg hm => by have := (hAv.out.size g hg).1; rw [List.mem_singleton] at hm; omega)).rd
      have hb8 : Below bI w5 w8 := hb.out.trans (hset.toBelow (fun g hg => by rw [List.mem_singleton.1 hg]; exact Nat.le_refl _) (by have := hsq.out; omega))
      have hbw8 : Below w.heap.size w w8.drew := Below.drewN' (HB.out.trans ((HB5.out.trans (hb8.mono (by have := hbRF.out; have := hbFI.out; omega))).mono (by have := HB.out.size; have := HbR.out; omega))) 1
      have K0 : w8.drew.cell? ⟨w.heap.size, 1, none⟩ = some (.int .i64 ty) ∧ w8.drew.cell? ⟨w.heap.size + 1, 0, none⟩ = some (.slice GA gn gc) ∧ w8.drew.cell? ⟨w.heap.size + 1, 1, none⟩ = some (.slice FA fs.length fc) ∧ w8.drew.cell? ⟨bF, 0, none⟩ = some (.string ⟨#[]⟩) ∧ w8.drew.cell? ⟨bF, 1, none⟩ = some (.slice none 0 0) ∧ w8.drew.cell? ⟨bF, 2, none⟩ = some (.int .i64 0) ∧ w8.drew.cell? ⟨bF, 3, none⟩ = some (.slice Ar (ts.length + 1) cr) ∧ w8.drew.cell? ⟨bF, 4, none⟩ = some (.slice none 0 0) ∧ w8.drew.cell? ⟨bI, 0, none⟩ = some (.int .i64 op) ∧ w8.drew.cell? ⟨bI, 1, none⟩ = some (.int .i64 ty) ∧ w8.drew.cell? ⟨bI, 2, none⟩ = some (.int .i64 0) ∧ w8.drew.cell? ⟨bI, 3, none⟩ = some (.slice Aa ts.length ca) ∧ w8.drew.cell? ⟨bI, 4, none⟩ = some (.int .i64 0) ∧ w8.drew.cell? ⟨bI, 5, none⟩ = some (.int .i64 0) ∧ w8.drew.cell? ⟨bI, 6, none⟩ = some (.int .i64 0) ∧ w8.drew.cell? ⟨bI, 7, none⟩ = some (.bool false) := ⟨hA8.cell 1, hM8.cell 0, hM8.cell 1, hF8.cell 0, hF8.cell 1, hF8.cell 2, hF8.cell 3, hF8.cell 4, HI8.out.cell 0, HI8.out.cell 1, HI8.out.cell 2, HI8.out.cell 3, HI8.out.cell 4, HI8.out.cell 5, HI8.out.cell 6, HI8.out.cell 7⟩
      have HCk : Hid (Calls Tryd.prog 46 #[.agg #[.int .i64 op, .int .i64 ty, .int .i64 0, .slice Aa ts.length ca, .int .i64 0, .int .i64 0, .int .i64 0, .bool false], .agg #[.string ⟨#[]⟩, .slice none 0 0, .int .i64 0, .slice Ar (ts.length + 1) cr, .slice none 0 0], .agg #[.slice GA gn gc, .slice FA fs.length fc]] w8.drew fun e w' =>
          e = .returned (.int .i64 (checkM op ty 0 0 0 0 false (ups1 ts.length) (ty :: ts) gn fs.length)) ∧ Below w.heap.size w w' ∧ w'.cell? ⟨w.heap.size, 1, none⟩ = some (.int .i64 ty) ∧ w'.cell? ⟨w.heap.size + 1, 0, none⟩ = some (.slice GA gn gc) ∧ w'.cell? ⟨w.heap.size + 1, 1, none⟩ = some (.slice FA fs.length fc) ∧ w'.cell? ⟨bF, 0, none⟩ = some (.string ⟨#[]⟩) ∧ w'.cell? ⟨bF, 1, none⟩ = some (.slice none 0 0) ∧ w'.cell? ⟨bF, 2, none⟩ = some (.int .i64 0) ∧ w'.cell? ⟨bF, 3, none⟩ = some (.slice Ar (ts.length + 1) cr) ∧ w'.cell? ⟨bF, 4, none⟩ = some (.slice none 0 0) ∧ w'.cell? ⟨bI, 0, none⟩ = some (.int .i64 op) ∧ w'.cell? ⟨bI, 1, none⟩ = some (.int .i64 ty) ∧ w'.cell? ⟨bI, 2, none⟩ = some (.int .i64 0) ∧ w'.cell? ⟨bI, 3, none⟩ = some (.slice Aa ts.length ca) ∧ w'.cell? ⟨bI, 4, none⟩ = some (.int .i64 0) ∧ w'.cell? ⟨bI, 5, none⟩ = some (.int .i64 0) ∧ w'.cell? ⟨bI, 6, none⟩ = some (.int .i64 0) ∧ w'.cell? ⟨bI, 7, none⟩ = some (.bool false)) := hide (by
        have hav6 : Rd w8.drew .i64 (.slice Aa (ups1 ts.length).length ca) (ups1 ts.length) := by rw [ups1_len]; exact hV8
        have hrv6 : Rd w8.drew .i64 (.slice Ar (ty :: ts).length cr) (ty :: ts) := hR8
        have hC := rcheck_any op ty 0 0 0 0 Aa Ar GA FA ca cr gn gc fc fs HSH.out (ups1 ts.length) (ty :: ts) (by rw [ups1_len]; omega) false (.string ⟨#[]⟩) (.slice none 0 0) (.slice none 0 0) 0 w8.drew (HT.out.below hbw8) (HO.out.below hbw8) hav6 hrv6 (HF.out.below hbw8)
        rw [ups1_len, List.length_cons] at hC
        refine hC.mono ?_
        rintro e w' ⟨rfl, hbe⟩
        exact ⟨by unfold checkA; rw [if_neg c30], Below.all hbw8 hbe, cell_below hbe (hA8.cell 1), cell_below hbe (hM8.cell 0), cell_below hbe (hM8.cell 1), cell_below hbe (hF8.cell 0), cell_below hbe (hF8.cell 1), cell_below hbe (hF8.cell 2), cell_below hbe (hF8.cell 3), cell_below hbe (hF8.cell 4), cell_below hbe (HI8.out.cell 0), cell_below hbe (HI8.out.cell 1), cell_below hbe (HI8.out.cell 2), cell_below hbe (HI8.out.cell 3), cell_below hbe (HI8.out.cell 4), cell_below hbe (HI8.out.cell 5), cell_below hbe (HI8.out.cell 6), cell_below hbe (HI8.out.cell 7)⟩)
      have cc := K0
      clear hset hA8 hM8 hF8 hR8 hV8 hb8 hbw8
      go_region_held3 (fun w' => w'.cell? ⟨w.heap.size, 1, none⟩ = some (.int .i64 ty) ∧ w'.cell? ⟨w.heap.size + 1, 0, none⟩ = some (.slice GA gn gc) ∧ w'.cell? ⟨w.heap.size + 1, 1, none⟩ = some (.slice FA fs.length fc) ∧ w'.cell? ⟨bF, 0, none⟩ = some (.string ⟨#[]⟩) ∧ w'.cell? ⟨bF, 1, none⟩ = some (.slice none 0 0) ∧ w'.cell? ⟨bF, 2, none⟩ = some (.int .i64 0) ∧ w'.cell? ⟨bF, 3, none⟩ = some (.slice Ar (ts.length + 1) cr) ∧ w'.cell? ⟨bF, 4, none⟩ = some (.slice none 0 0) ∧ w'.cell? ⟨bI, 0, none⟩ = some (.int .i64 op) ∧ w'.cell? ⟨bI, 1, none⟩ = some (.int .i64 ty) ∧ w'.cell? ⟨bI, 2, none⟩ = some (.int .i64 0) ∧ w'.cell? ⟨bI, 3, none⟩ = some (.slice Aa ts.length ca) ∧ w'.cell? ⟨bI, 4, none⟩ = some (.int .i64 0) ∧ w'.cell? ⟨bI, 5, none⟩ = some (.int .i64 0) ∧ w'.cell? ⟨bI, 6, none⟩ = some (.int .i64 0) ∧ w'.cell? ⟨bI, 7, none⟩ = some (.bool false)) (first | exact cc | exact K0)
        (first | (go_at_call 46; refine HCk.out.mono ?_; rintro en w9 ⟨rfl, hb9, hc9'⟩; have HZ := hide hb9; replace cc := hc9'; clear hb9 hc9'))
      go_wp2_with fail
      go_ret2
      exact ⟨rfl, HZ.out⟩
theorem node_any (x : NdD) (A : Option Addr) (c : Nat) (ts : List Int) (hk : ts.length ≤ 4) (GA FA : Option Addr) (gn gc fc : Nat) (fs : List FD) (hsh : ∀ d ∈ fs, Shp d) (c30 : ¬ x.op = 30) (w : World) (hT : Tab w) (hO : OpTab w) (hl : Rd w .i64 (.slice A ts.length c) ts) (hF : FnsAt w FA fs) :
    Calls Tryd.prog 30 #[.agg x.cells.toArray, .slice A ts.length c, .agg #[.slice GA gn gc, .slice FA fs.length fc]] w fun e w' => e = .returned (.tuple #[.int .i64 x.ty, .int .i64 (tyE x ts gn fs.length)]) ∧ Below w.heap.size w w' := by
  obtain ⟨op, ty, n⟩ := x
  show Calls Tryd.prog 30 #[.agg #[.int .i64 op, .int .i64 ty, .int .i64 n], .slice A ts.length c, .agg #[.slice GA gn gc, .slice FA fs.length fc]] w fun e w' => e = .returned (.tuple #[.int .i64 ty, .int .i64 (checkM op ty 0 (immE op n) (symE op n) 0 false (ups1 ts.length) (ty :: ts) gn fs.length)]) ∧ Below w.heap.size w w'
  by_cases c25 : op = 25
  · subst c25
    exact rn_25 ty n A c ts hk GA FA gn gc fc fs hsh w hT hO hl hF
  by_cases c1 : op = 1
  · subst c1
    exact rn_1 ty n A c ts hk GA FA gn gc fc fs hsh w hT hO hl hF
  by_cases c33 : op = 33
  · subst c33
    exact rn_33 ty n A c ts hk GA FA gn gc fc fs hsh w hT hO hl hF
  · rw [show immE op n = 0 by simp [immE, c1, c33], show symE op n = 0 by simp [symE, c25]]
    exact rn_op op ty n A c ts hk GA FA gn gc fc fs hsh (by simpa using c25) (by simpa using c1) (by simpa using c33) c30 w hT hO hl hF
end Go.Proofs.YtnhaanjpcnnifaaDoor

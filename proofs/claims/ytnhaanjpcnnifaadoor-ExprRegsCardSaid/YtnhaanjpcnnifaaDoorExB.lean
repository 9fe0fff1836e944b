/-
  Layer 23 (expr): checkTypes: what the operation of a node asks of its operands.
-/
import Derived.Test.YtnhaanjpcnnifaaDoorExA
import Derived.Test.YtnhaanjpcnnifaaDoorExK
import Derived.Test.YtnhaanjpcnnifaaDoorOpR
import Derived.Test.YtnhaanjpcnnifaaDoorRowN
namespace Go.Proofs.YtnhaanjpcnnifaaDoor
open Go.RowKit Go.Deep

theorem info9 {P : Program} {e : TypeId} {z : Value} {m b : Nat} (h : (P.info? e).map (fun i => (i.zero, i.size, i.bytes)) = some (some z, m, b)) : ∃ i, P.info? e = some i ∧ i.zero = some z ∧ i.size = m ∧ i.bytes = b := by
  cases hi : P.info? e with
  | none => rw [hi] at h; cases h
  | some i =>
    rw [hi] at h
    simp only [Option.map_some, Option.some.injEq, Prod.mk.injEq] at h
    exact ⟨i, rfl, h.1, h.2.1, h.2.2⟩
theorem intsE9 : ElemI Tryd.prog 23 3 .i64 8 := ⟨Tryd.underlying23, Tryd.underlying3, info9 (by kernel_rfl)⟩
theorem tysE9 : ElemI Tryd.prog 25 24 .i64 8 := ⟨Tryd.underlying25, Tryd.underlying24, info9 (by kernel_rfl)⟩
theorem tysV9 : ElemV Tryd.prog 25 24 (.int .i64 0) 8 := ⟨Tryd.underlying25, rfl, info9 (by kernel_rfl)⟩
theorem Own.frm9 {w w' : World} {base : Nat} {e : TypeId} {S : List Nat} {k : IntKind} {v : Value} {l : List Int} (h : Own w base e k v l) (hf : Frm w w' S) (hv : ∀ g, v.ownBlock = some g → g ∉ S) : Own w' base e k v l := (h.toV.frm hf hv).toI
theorem rdv_one9 (w : World) (t : TypeId) (z : Int) : RdV (w.alloc (.cells #[.int .i64 z] t)).drew (.slice (some ⟨w.heap.size, 0, none⟩) 1 1) [.int .i64 z] := (rd_one (k := .i64) w t z).toV
/-- The cells of the instruction. -/
def instC (op ty k imm sym : Int) (av : Value) : Array Value := #[.int .i64 op, .int .i64 ty, .int .i64 k, av, .int .i64 imm, .int .i64 sym, .int .i64 0, .bool false]
theorem instC_all (op ty k imm sym : Int) (B : Option Addr) (n c : Nat) : (instC op ty k imm sym (.slice B n c)).all (·.oneCell') = true := by simp [instC, Value.oneCell']
set_option maxRecDepth 100000 in
set_option maxHeartbeats 8000000 in
theorem ct_25 (ty n : Int) (A : Option Addr) (c : Nat) (ts : List Int) (hk : ts.length ≤ 4) (GA FA : Option Addr) (gn gc fc : Nat) (fs : List FD)  (w : World) (hT : Tab w) (hO : OpTab w) (hl : Rd w .i64 (.slice A ts.length c) ts) (hF : FnsAt w FA fs) :
    Calls Tryd.prog 26 #[.agg #[.int .i64 25, .int .i64 ty, .int .i64 n], .slice A ts.length c, .agg #[.slice GA gn gc, .slice FA fs.length fc]] w fun e w' => e = .returned (.int .i64 (checkM 25 ty ts.length 0 n 0 false (ups ts.length) (ts ++ [ty]) gn fs.length)) ∧ Below w.heap.size w w' := by
  have HT := hide hT
  have HO := hide hO
  have HL := hide hl
  have HF := hide hF
  have hc9 : c ≤ 9223372036854775807 := by
    obtain ⟨_, _, e1, _, hm, -⟩ := id hl
    injection e1 with _ _ e1
    unfold maxLen at hm
    omega
  obtain ⟨w1, hw1⟩ : ∃ z, (w.alloc (.cells #[.int .i64 25, .int .i64 ty, .int .i64 n] 40)).alloc (.cells #[.slice GA gn gc, .slice FA fs.length fc] 32) = z := ⟨_, rfl⟩
  have HB : Hid (Below w.heap.size w w1) := hide (by rw [← hw1]; exact ((Below.refl _ _).alloc (Nat.le_refl _) _).alloc (by simp) _)
  have HA : Hid (Whole w1 w.heap.size 40 #[.int .i64 25, .int .i64 ty, .int .i64 n]) := hide (by rw [← hw1]; exact (Whole.new w _ _).alloc _)
  have HM : Hid (Whole w1 (w.heap.size + 1) 32 #[.slice GA gn gc, .slice FA fs.length fc]) := hide (by
    rw [← hw1, show w.heap.size + 1 = (w.alloc (.cells #[.int .i64 25, .int .i64 ty, .int .i64 n] 40)).heap.size by simp]; exact Whole.new _ _ _)
  have p0 : w1.cell? ⟨w.heap.size, 0, none⟩ = some (.int .i64 25) := HA.out.cell 0
  have p1 : w1.cell? ⟨w.heap.size, 1, none⟩ = some (.int .i64 ty) := HA.out.cell 1
  have hi8 : (Tryd.prog.info? 78).map (·.size) = some 8 := by kernel_rfl
  have HI8 := hide hi8
  clear hT hO hl hF hi8
  go_enter Tryd.func26, Tryd.ntmps26
  go_upto_region 1 with fail
  clear hw1
  refine wp_region_lit ?_
  go_step; go_step; go_step
  go_step; go_step; go_step
  go_step; go_step; go_step
  go_step; go_step; go_step
  go_step; go_step; go_step
  go_step; go_step; go_step
  refine wpList_build_g (by rfl) _ _ rfl (instC 25 ty ts.length 0 0 (.slice none 0 0)).toList (by kernel_rfl) ?_
  go_step; go_step; go_step
  refine wpList_store_new (by rfl) _ _ _ rfl _ _ (instC 25 ty ts.length 0 0 (.slice none 0 0)).toList (by rfl) (by rfl) (by rfl) HI8.out (instC_all _ _ _ _ _ _ _ _) ?_
  obtain ⟨bI, hbI⟩ : ∃ bI, w1.heap.size = bI := ⟨_, rfl⟩
  rw [hbI]
  obtain ⟨w3, hw3⟩ : ∃ z, w1.alloc (.cells (instC 25 ty ts.length 0 0 (.slice none 0 0)) 78) = z := ⟨_, rfl⟩
  have HI : Hid (Whole w3 bI 78 (instC 25 ty ts.length 0 0 (.slice none 0 0))) := hide (by rw [← hw3, ← hbI]; exact Whole.new w1 _ _)
  have HB3 : Hid (Below bI w1 w3) := hide (by rw [← hw3, ← hbI]; exact (Below.refl _ _).alloc (Nat.le_refl _) _)
  have HBI := hide hbI
  have p0' : w3.cell? ⟨w.heap.size, 0, none⟩ = some (.int .i64 25) := (HB3.out.cell (p := ⟨w.heap.size, 0, none⟩) (by show w.heap.size < bI; have := HA.out.lt; omega)).trans p0
  have p2' : w3.cell? ⟨w.heap.size, 2, none⟩ = some (.int .i64 n) := (HB3.out.cell (p := ⟨w.heap.size, 2, none⟩) (by show w.heap.size < bI; have := HA.out.lt; omega)).trans (HA.out.cell 2)
  have i4 : w3.cell? ⟨bI, 4, none⟩ = some (.int .i64 0) := HI.out.cell 4
  have i5 : w3.cell? ⟨bI, 5, none⟩ = some (.int .i64 0) := HI.out.cell 5
  have f4 : w3.frozen? ⟨bI, 4, none⟩ = false := HI.out.free 4
  have f5 : w3.frozen? ⟨bI, 5, none⟩ = false := HI.out.free 5
  rw [show w1.alloc (.cells (instC 25 ty ts.length 0 0 (.slice none 0 0)).toList.toArray 78) = w3 from hw3]
  clear hw3 hbI p0 p1
  go_upto_region 8 with fail
  replace HI := hide (HI.out.set 5 (.int .i64 n))
  obtain ⟨w4, hw4⟩ : ∃ z, w3.setCell ⟨bI, 5, none⟩ (.int .i64 n) = z := ⟨_, rfl⟩
  have HI4 : Hid (Whole w4 bI 78 (instC 25 ty ts.length 0 n (.slice none 0 0))) := hide (by rw [← hw4]; exact HI.out)
  have HB4 : Hid (Below bI w1 w4) := hide (by rw [← hw4]; exact HB3.out.setCell (p := ⟨bI, 5, none⟩) (Nat.le_refl _) _)
  rw [hw4]
  clear hw4 HI
  clear p0' p2' i4 i5 f4 f5
  have hmk := fun W => run_make0 (P := Tryd.prog) W 25 24 .i64 8 tysE9 ((ts.length : Int) + 1) (by omega) (by omega) (by omega)
  go_upto_region 9 with fail
  clear hmk
  obtain ⟨w5, hw5⟩ : ∃ z, w4.alloc (.cells (madeCells #[.int .i64 0] (ts.length + 1)) 24) = z := ⟨_, rfl⟩
  obtain ⟨base, hbase⟩ : ∃ b, w4.heap.size = b := ⟨_, rfl⟩
  have HRv : Hid (Own w5 base 24 .i64 (.slice (some ⟨base, 0, none⟩) 0 (ts.length + 1)) (ts.take 0)) := hide (by rw [← hw5, ← hbase]; exact own_made w4 _ _ _ _ (by unfold maxLen; omega) (Nat.le_refl _))
  have b45 : Below w4.heap.size w4 w5 := by rw [← hw5]; exact (Below.refl _ _).alloc (Nat.le_refl _) _
  have HI5 := hide (HI4.out.below' b45)
  have HB5 : Hid (Below bI w1 w5) := hide (HB4.out.trans (b45.mono (by have := HB4.out.size; have := HBI.out; omega)))
  have hbb : Hid (bI < base) := hide (by rw [← hbase]; exact HI4.out.lt)
  rw [hw5, hbase]
  clear hw5 b45 hbase HI4 HB4
  go_wp2_with fail
  go_loopw [8, 37] (fun p z wr => ∃ (j : Nat) (av rv : Value), j ≤ ts.length ∧ p = rv ∧ z = .int .i64 j ∧ Hid (Own wr base 3 .i64 av (ups j)) ∧ Hid (Own wr base 24 .i64 rv (ts.take j)) ∧ Hid (∀ g, av.ownBlock = some g → rv.ownBlock ≠ some g) ∧ Hid (Whole wr bI 78 (instC 25 ty ts.length 0 n av)) ∧ Hid (base ≤ wr.heap.size) ∧ Hid (Below bI w1 wr)) (fun _ z _ => ts.length - (intOf z).toNat)
  case atStart => exact ⟨0, .slice none 0 0, _, Nat.zero_le _, rfl, rfl, hide Own.nil, HRv, hide (fun g hg => by simp [Value.ownBlock] at hg), HI5, hide (by have := (HRv.out.size base rfl).2; omega), HB5⟩
  case round =>
    clear HRv HI5 HB5
    obtain ⟨wq, rfl⟩ : ∃ x, x = wr := ⟨_, rfl⟩
    obtain ⟨j, av, rv, hj, rfl, rfl, hAv, hRv, hne, hI, hbs, hb⟩ := hrel
    obtain ⟨Aa, ca, ea, hca, hma, -⟩ := id hAv.out.rd
    obtain ⟨Ar, cr, er, hcr, hmr, -⟩ := id hRv.out.rd
    have hla : (ups j).length = j := ups_len j
    have hlr : (ts.take j).length = j := by rw [List.length_take]; omega
    rw [hla] at ea hca
    rw [hlr] at er hcr
    subst ea
    subst er
    have hca9 : ca ≤ 9223372036854775807 := by unfold maxLen at hma; omega
    have hcr9 : cr ≤ 9223372036854775807 := by unfold maxLen at hmr; omega
    have hbw : Below w.heap.size w wq := HB.out.trans (hb.out.mono (by have := HB.out.size; have := HBI.out; omega))
    have hwI : Hid (w.heap.size + 1 < bI) := hide (by have := HM.out.lt; have := HBI.out; omega)
    clear hma hmr
    by_cases hlt : j < ts.length
    · obtain ⟨t, ht⟩ : ∃ t, ts[j]? = some t := ⟨_, List.getElem?_eq_getElem hlt⟩
      obtain ⟨b8, o8, e8, hb8, hc8⟩ := (HL.out.below' hbw).toV.at j (.int .i64 t) (by rw [List.getElem?_map, ht]; rfl)
      subst e8
      have hnx : ts.take (j + 1) = ts.take j ++ [t] := by rw [List.take_succ_eq_append_getElem hlt, (List.getElem?_eq_some_iff.1 ht).2]
      have HNX := hide hnx
      have c3 : wq.cell? ⟨bI, 3, none⟩ = some (.slice Aa j ca) := hI.out.cell 3
      have HO5 := hide (hAv.out.alloc (.cells #[.int .i64 (j : Int)] 3))
      have hs5 : base ≤ (wq.alloc (.cells #[.int .i64 (j : Int)] 3)).heap.size := by have := hbs.out; simp; omega
      have HLA := hide hla
      have HLR := hide hlr
      clear ht hnx hb8 hbw hla hlr
      go_upto_region 12 with fail
      clear hc8
      go_wp2_with (refine wpList_append_rd _ rfl _ _ 23 rfl base 3 .i64 8 intsE9 _ _ rfl HO5.out _ [(j : Int)] rfl (rd_one _ _ _) ?b0 ?b1 hs5 ?_)
      case b0 => rw [HLA.out]; simp only [List.length_singleton]; omega
      case b1 => rw [HLA.out]; simp only [List.length_singleton]; unfold maxLen; omega
      rintro v' w6 ho hg hbl hw6
      have f16 : Frm wq w6 (Value.slice Aa j ca).ownBlock.toList := ((Frm.refl wq _).alloc _).trans (Frm.grown hg)
      have hnb : bI ∉ (Value.slice Aa j ca).ownBlock.toList := fun h => by have := (hAv.out.size bI (by simpa using h)).1; have := hbb.out; omega
      have HI6 := hide (hI.out.frm f16 hnb)
      have HV6 := hide ho
      have HRv6 := hide (hRv.out.frm9 f16 (fun g hg' hm => hne.out g (by simpa using hm) hg'))
      have HF6 := hide f16
      have HW6 : Hid (∀ g, v'.ownBlock = some g → (Value.slice Aa j ca).ownBlock = some g ∨ wq.heap.size ≤ g) := hide (fun g h => by
        rcases hw6 with h1 | h1
        · exact .inl (by rw [← h1]; exact h)
        · right
          rw [h1] at h
          injection h with h
          rw [← h]
          simp)
      have c3' : w6.cell? ⟨bI, 3, none⟩ = some (.slice Aa j ca) := HI6.out.cell 3
      have f3' : w6.frozen? ⟨bI, 3, none⟩ = false := HI6.out.free 3
      clear ho hg hbl hw6 f16 hnb c3 hs5 HO5
      obtain ⟨A6, c6, e6, -, hm6, -⟩ := id HV6.out.rd
      have hc69 : c6 ≤ 9223372036854775807 := by unfold maxLen at hm6; omega
      have hl6 : (ups j ++ [(j : Int)]).length = j + 1 := by rw [List.length_append, ups_len]; rfl
      rw [hl6] at e6
      subst e6
      clear hm6 hl6
      go_upto_region 13 with fail
      clear c3' f3'
      have HI7 : Hid (Whole (w6.setCell ⟨bI, 3, none⟩ (.slice A6 (j + 1) c6)) bI 78 (instC 25 ty ts.length 0 n (.slice A6 (j + 1) c6))) := hide (HI6.out.set 3 _)
      have hset : Frm w6 (w6.setCell ⟨bI, 3, none⟩ (.slice A6 (j + 1) c6)) [bI] := (Frm.refl w6 [bI]).setCell _ _ (.inl (by simp))
      have hnot : ∀ {g : Nat}, base ≤ g → g ∉ [bI] := fun h hm => by have := hbb.out; rw [List.mem_singleton] at hm; omega
      have HV7 := hide (HV6.out.frm9 hset (fun g hg => hnot (HV6.out.size g hg).1))
      have HRv7 := hide (HRv6.out.frm9 hset (fun g hg => hnot (HRv6.out.size g hg).1))
      have HB7 : Hid (Below bI w1 (w6.setCell ⟨bI, 3, none⟩ (.slice A6 (j + 1) c6))) := hide ((hb.out.trans (HF6.out.toBelow (B := bI) (fun g hg => by have := (hAv.out.size g (by simpa using hg)).1; have := hbb.out; omega) (by have := hb.out.size; have := HBI.out; omega))).trans (hset.toBelow (fun g hg => by rw [List.mem_singleton.1 hg]; exact Nat.le_refl _) (by have := hb.out.size; have := HF6.out.size; have := HBI.out; omega)))
      have hs7 : base ≤ (w6.setCell ⟨bI, 3, none⟩ (.slice A6 (j + 1) c6)).heap.size := by have := hset.size; have := HF6.out.size; have := hbs.out; omega
      have HW7 : Hid (wq.heap.size ≤ (w6.setCell ⟨bI, 3, none⟩ (.slice A6 (j + 1) c6)).heap.size) := hide (by have := hset.size; have := HF6.out.size; omega)
      obtain ⟨w7, hw7⟩ : ∃ z, w6.setCell ⟨bI, 3, none⟩ (.slice A6 (j + 1) c6) = z := ⟨_, rfl⟩
      rw [hw7] at HI7 HV7 HRv7 HB7 hs7 HW7 ⊢
      clear hw7 hset hnot HI6 HV6 HRv6 HF6 hAv hI
      have HO8 := hide (HRv7.out.alloc (.cells #[.int .i64 t] 24))
      have hs8 : base ≤ (w7.alloc (.cells #[.int .i64 t] 24)).heap.size := by simp; omega
      go_wp2_with (refine wpList_append_rd _ rfl _ _ 25 rfl base 24 .i64 8 tysE9 _ _ rfl HO8.out _ [t] rfl (rd_one _ _ _) ?b2 ?b3 hs8 ?_)
      case b2 => rw [HLR.out]; simp only [List.length_singleton]; omega
      case b3 => rw [HLR.out]; simp only [List.length_singleton]; unfold maxLen; omega
      rintro v9 w9 ho hg hbl hw9
      have f19 : Frm w7 w9 (Value.slice Ar j cr).ownBlock.toList := ((Frm.refl w7 _).alloc _).trans (Frm.grown hg)
      have hnb : bI ∉ (Value.slice Ar j cr).ownBlock.toList := fun h => by have := (HRv7.out.size bI (by simpa using h)).1; have := hbb.out; omega
      have HI9 := hide (HI7.out.frm f19 hnb)
      have HR9 : Hid (Own w9 base 24 .i64 v9 (ts.take (j + 1))) := hide (by rw [HNX.out]; exact ho)
      have hne7 : ∀ g, (Value.slice A6 (j + 1) c6).ownBlock = some g → (Value.slice Ar j cr).ownBlock ≠ some g := fun g h h2 => by
        rcases HW6.out g h with h1 | h1
        · exact hne.out g h1 h2
        · have := (hRv.out.size g h2).2
          omega
      have HV9 : Hid (Own w9 base 3 .i64 (.slice A6 (j + 1) c6) (ups (j + 1))) := hide (by rw [ups_succ]; exact HV7.out.frm9 f19 (fun g hg' hm => hne7 g hg' (by simpa using hm)))
      have HN9 : Hid (∀ g, (Value.slice A6 (j + 1) c6).ownBlock = some g → v9.ownBlock ≠ some g) := hide (fun g h h2 => by
        rcases hw9 with h1 | h1
        · exact hne7 g h (by rw [← h1]; exact h2)
        · rw [h1] at h2
          have h4 := Option.some.inj h2
          have := (HV7.out.size g h).2
          omega)
      have HB9 : Hid (Below bI w1 w9) := hide (HB7.out.trans (f19.toBelow (fun g hg => by have := (HRv7.out.size g (by simpa using hg)).1; have := hbb.out; omega) (by have := HB7.out.size; have := HBI.out; omega)))
      have HS9 : Hid (base ≤ w9.heap.size) := hide (by have := f19.size; omega)
      clear ho hg hbl hw9 f19 hnb hne7 hs8 HO8 hs7
      go_wp2_with fail
      go_roundw
      case rel => exact ⟨j + 1, _, v9, by omega, rfl, by go_num, HV9, HR9, HN9, HI9, HS9, HB9⟩
      case measure => simp [intOf]; omega
    · have hjl : j = ts.length := by omega
      have htk : ts.take j = ts := List.take_of_length_le (by omega)
      rw [htk] at hRv
      obtain rfl := hjl
      have HA' := hide (HA.out.below hb.out (by have := hwI.out; omega))
      have HM' := hide (HM.out.below hb.out (by have := hwI.out; omega))
      have HBW := hide hbw
      clear htk hbw hla hlr hlt hj
      go_upto_region 15 with fail
      have hfz : Frm wq (wq.alloc (.cells #[.int .i64 ty] 24)).drew [] := ((Frm.refl wq []).alloc _).trans (Frm.drew _ _)
      have hO2 := hide (hRv.out.toV.frm hfz (fun _ _ => by simp))
      have HAFT : Hid (∀ v' w5, OwnV w5 base 24 v' (ts.map (Value.int .i64) ++ [.int .i64 ty]) → Frm (wq.alloc (.cells #[.int .i64 ty] 24)).drew w5 (Value.slice Ar ts.length cr).ownBlock.toList →
          ∃ A5 c5, v' = .slice A5 (ts.length + 1) c5 ∧ (w5.cell? ⟨w.heap.size, 1, none⟩ = some (.int .i64 ty) ∧ w5.cell? ⟨w.heap.size + 1, 0, none⟩ = some (.slice GA gn gc) ∧ w5.cell? ⟨w.heap.size + 1, 1, none⟩ = some (.slice FA fs.length fc) ∧
            w5.cell? ⟨bI, 0, none⟩ = some (.int .i64 25) ∧ w5.cell? ⟨bI, 1, none⟩ = some (.int .i64 ty) ∧ w5.cell? ⟨bI, 2, none⟩ = some (.int .i64 (ts.length : Int)) ∧ w5.cell? ⟨bI, 3, none⟩ = some (.slice Aa ts.length ca) ∧ w5.cell? ⟨bI, 4, none⟩ = some (.int .i64 0) ∧ w5.cell? ⟨bI, 5, none⟩ = some (.int .i64 n) ∧ w5.cell? ⟨bI, 6, none⟩ = some (.int .i64 0) ∧ w5.cell? ⟨bI, 7, none⟩ = some (.bool false)) ∧
            Hid (Calls Tryd.prog 41 #[.agg #[.int .i64 25, .int .i64 ty, .int .i64 (ts.length : Int), .slice Aa ts.length ca, .int .i64 0, .int .i64 n, .int .i64 0, .bool false], .agg #[.string ⟨#[]⟩, .slice none 0 0, .int .i64 0, .slice A5 (ts.length + 1) c5, .slice none 0 0], .agg #[.slice GA gn gc, .slice FA fs.length fc]] w5 fun e w' =>
              e = .returned (.int .i64 (checkM 25 ty ts.length 0 n 0 false (ups ts.length) (ts ++ [ty]) gn fs.length)) ∧ Below w.heap.size w w' ∧ (w'.cell? ⟨w.heap.size, 1, none⟩ = some (.int .i64 ty) ∧ w'.cell? ⟨w.heap.size + 1, 0, none⟩ = some (.slice GA gn gc) ∧ w'.cell? ⟨w.heap.size + 1, 1, none⟩ = some (.slice FA fs.length fc) ∧ w'.cell? ⟨bI, 0, none⟩ = some (.int .i64 25) ∧ w'.cell? ⟨bI, 1, none⟩ = some (.int .i64 ty) ∧ w'.cell? ⟨bI, 2, none⟩ = some (.int .i64 (ts.length : Int)) ∧ w'.cell? ⟨bI, 3, none⟩ = some (.slice Aa ts.length ca) ∧ w'.cell? ⟨bI, 4, none⟩ = some (.int .i64 0) ∧ w'.cell? ⟨bI, 5, none⟩ = some (.int .i64 n) ∧ w'.cell? ⟨bI, 6, none⟩ = some (.int .i64 0) ∧ w'.cell? ⟨bI, 7, none⟩ = some (.bool false)))) := hide (by
        intro v' w5 ho5 hf5
        have f05 : Frm wq w5 (Value.slice Ar ts.length cr).ownBlock.toList := (hfz.mono (fun g hg => by cases hg)).trans hf5
        have nI : bI ∉ (Value.slice Ar ts.length cr).ownBlock.toList := fun h => by have := (hRv.out.size bI (by simpa using h)).1; have := hbb.out; omega
        have nA : w.heap.size ∉ (Value.slice Ar ts.length cr).ownBlock.toList := fun h => by have := (hRv.out.size _ (by simpa using h)).1; have := hbb.out; have := hwI.out; omega
        have nM : w.heap.size + 1 ∉ (Value.slice Ar ts.length cr).ownBlock.toList := fun h => by have := (hRv.out.size _ (by simpa using h)).1; have := hbb.out; have := hwI.out; omega
        have hI5 := hI.out.frm f05 nI
        have hA5 := HA'.out.frm f05 nA
        have hM5 := HM'.out.frm f05 nM
        have hb15 : Below bI w1 w5 := hb.out.trans (f05.toBelow (fun g hg => by have := (hRv.out.size g (by simpa using hg)).1; have := hbb.out; omega) (by have := hb.out.size; have := HBI.out; omega))
        have hbw5 : Below w.heap.size w w5 := HB.out.trans (hb15.mono (by have := HB.out.size; have := HBI.out; omega))
        have hav5 := (hAv.out.frm9 f05 (fun g hg hm => hne.out g hg (by simpa using hm))).rd
        have er9 : ts.map (Value.int .i64) ++ [.int .i64 ty] = (ts ++ [ty]).map (Value.int .i64) := by simp
        rw [er9] at ho5
        have hrv5 : Rd w5 .i64 v' (ts ++ [ty]) := (ho5.toI).rd
        obtain ⟨A5, c5, e5, -⟩ := id hrv5
        have hln : (ts ++ [ty]).length = ts.length + 1 := by simp
        rw [hln] at e5
        subst e5
        refine ⟨A5, c5, rfl, ⟨hA5.cell 1, hM5.cell 0, hM5.cell 1, hI5.cell 0, hI5.cell 1, hI5.cell 2, hI5.cell 3, hI5.cell 4, hI5.cell 5, hI5.cell 6, hI5.cell 7⟩, hide ?_⟩
        have hav6 : Rd w5 .i64 (.slice Aa (ups ts.length).length ca) (ups ts.length) := by rw [ups_len]; exact hav5
        have hrv6 : Rd w5 .i64 (.slice A5 (ts ++ [ty]).length c5) (ts ++ [ty]) := by rw [hln]; exact hrv5
        have hC := check_any 25 ty ts.length 0 n 0 Aa A5 GA FA ca c5 gn gc fc fs (ups ts.length) (ts ++ [ty]) (by rw [ups_len]; omega) false (.string ⟨#[]⟩) (.slice none 0 0) (.slice none 0 0) 0 w5 (HT.out.below hbw5) (HO.out.below hbw5) hav6 hrv6 (HF.out.below hbw5)
        rw [ups_len, hln] at hC
        refine hC.mono ?_
        rintro e w' ⟨rfl, hbe⟩
        exact ⟨by unfold checkA; rw [if_neg (by omega)], Below.all hbw5 hbe, cell_below hbe (hA5.cell 1), cell_below hbe (hM5.cell 0), cell_below hbe (hM5.cell 1), cell_below hbe (hI5.cell 0), cell_below hbe (hI5.cell 1), cell_below hbe (hI5.cell 2), cell_below hbe (hI5.cell 3), cell_below hbe (hI5.cell 4), cell_below hbe (hI5.cell 5), cell_below hbe (hI5.cell 6), cell_below hbe (hI5.cell 7)⟩)
      have S0 : Frm wq (wq.alloc (.cells #[.int .i64 ty] 24)).drew [] := hfz
      have q1 : wq.cell? ⟨w.heap.size, 1, none⟩ = some (.int .i64 ty) := HA'.out.cell 1
      have hone : ∀ x ∈ [Value.int .i64 ty], x.oneCell' = true := by intro x hx; rw [List.mem_singleton] at hx; subst hx; rfl
      have hby : ((ts.map (Value.int .i64)).length + [Value.int .i64 ty].length) * 8 ≤ 140737488355328 := by rw [List.length_map, List.length_singleton]; omega
      have hml : (ts.map (Value.int .i64)).length + [Value.int .i64 ty].length ≤ maxLen := by rw [List.length_map, List.length_singleton]; unfold maxLen; omega
      have hB2 : base ≤ (wq.alloc (.cells #[.int .i64 ty] 24)).drew.heap.size := by have := hbs.out; have := S0.size; omega
      have K0 : (wq.cell? ⟨w.heap.size, 1, none⟩ = some (.int .i64 ty) ∧ wq.cell? ⟨w.heap.size + 1, 0, none⟩ = some (.slice GA gn gc) ∧ wq.cell? ⟨w.heap.size + 1, 1, none⟩ = some (.slice FA fs.length fc) ∧
            wq.cell? ⟨bI, 0, none⟩ = some (.int .i64 25) ∧ wq.cell? ⟨bI, 1, none⟩ = some (.int .i64 ty) ∧ wq.cell? ⟨bI, 2, none⟩ = some (.int .i64 (ts.length : Int)) ∧ wq.cell? ⟨bI, 3, none⟩ = some (.slice Aa ts.length ca) ∧ wq.cell? ⟨bI, 4, none⟩ = some (.int .i64 0) ∧ wq.cell? ⟨bI, 5, none⟩ = some (.int .i64 n) ∧ wq.cell? ⟨bI, 6, none⟩ = some (.int .i64 0) ∧ wq.cell? ⟨bI, 7, none⟩ = some (.bool false)) :=
        ⟨HA'.out.cell 1, HM'.out.cell 0, HM'.out.cell 1, hI.out.cell 0, hI.out.cell 1, hI.out.cell 2, hI.out.cell 3, hI.out.cell 4, hI.out.cell 5, hI.out.cell 6, hI.out.cell 7⟩
      have K1 : ((wq.alloc (.cells #[.int .i64 ty] 24)).drew.cell? ⟨w.heap.size, 1, none⟩ = some (.int .i64 ty) ∧ (wq.alloc (.cells #[.int .i64 ty] 24)).drew.cell? ⟨w.heap.size + 1, 0, none⟩ = some (.slice GA gn gc) ∧ (wq.alloc (.cells #[.int .i64 ty] 24)).drew.cell? ⟨w.heap.size + 1, 1, none⟩ = some (.slice FA fs.length fc) ∧
            (wq.alloc (.cells #[.int .i64 ty] 24)).drew.cell? ⟨bI, 0, none⟩ = some (.int .i64 25) ∧ (wq.alloc (.cells #[.int .i64 ty] 24)).drew.cell? ⟨bI, 1, none⟩ = some (.int .i64 ty) ∧ (wq.alloc (.cells #[.int .i64 ty] 24)).drew.cell? ⟨bI, 2, none⟩ = some (.int .i64 (ts.length : Int)) ∧ (wq.alloc (.cells #[.int .i64 ty] 24)).drew.cell? ⟨bI, 3, none⟩ = some (.slice Aa ts.length ca) ∧ (wq.alloc (.cells #[.int .i64 ty] 24)).drew.cell? ⟨bI, 4, none⟩ = some (.int .i64 0) ∧ (wq.alloc (.cells #[.int .i64 ty] 24)).drew.cell? ⟨bI, 5, none⟩ = some (.int .i64 n) ∧ (wq.alloc (.cells #[.int .i64 ty] 24)).drew.cell? ⟨bI, 6, none⟩ = some (.int .i64 0) ∧ (wq.alloc (.cells #[.int .i64 ty] 24)).drew.cell? ⟨bI, 7, none⟩ = some (.bool false)) :=
        ⟨(HA'.out.frm S0 (by simp)).cell 1, (HM'.out.frm S0 (by simp)).cell 0, (HM'.out.frm S0 (by simp)).cell 1, (hI.out.frm S0 (by simp)).cell 0, (hI.out.frm S0 (by simp)).cell 1, (hI.out.frm S0 (by simp)).cell 2, (hI.out.frm S0 (by simp)).cell 3, (hI.out.frm S0 (by simp)).cell 4, (hI.out.frm S0 (by simp)).cell 5, (hI.out.frm S0 (by simp)).cell 6, (hI.out.frm S0 (by simp)).cell 7⟩
      have cc := K0
      clear S0 hfz
      go_region_held3 (fun w' => w'.cell? ⟨w.heap.size, 1, none⟩ = some (.int .i64 ty) ∧ w'.cell? ⟨w.heap.size + 1, 0, none⟩ = some (.slice GA gn gc) ∧ w'.cell? ⟨w.heap.size + 1, 1, none⟩ = some (.slice FA fs.length fc) ∧
            w'.cell? ⟨bI, 0, none⟩ = some (.int .i64 25) ∧ w'.cell? ⟨bI, 1, none⟩ = some (.int .i64 ty) ∧ w'.cell? ⟨bI, 2, none⟩ = some (.int .i64 (ts.length : Int)) ∧ w'.cell? ⟨bI, 3, none⟩ = some (.slice Aa ts.length ca) ∧ w'.cell? ⟨bI, 4, none⟩ = some (.int .i64 0) ∧ w'.cell? ⟨bI, 5, none⟩ = some (.int .i64 n) ∧ w'.cell? ⟨bI, 6, none⟩ = some (.int .i64 0) ∧ w'.cell? ⟨bI, 7, none⟩ = some (.bool false)) (first | exact cc | exact K0 | exact K1) (first
        | (refine step_append_v rfl (.tmp 54) (.tmp 57) 25 rfl base 24 (.int .i64 0) 8 tysV9 (.slice Ar ts.length cr) (ts.map (Value.int .i64)) (by simp [Act.eval]) hO2.out (.slice (some ⟨wq.heap.size, 0, none⟩) 1 1) [.int .i64 ty] (by simp [Act.eval]) (rdv_one9 _ _ _) hone hby hml hB2 ?_; intro v' w5 ho5 hf5 hb5; obtain ⟨A5, c5, rfl, c6, HP⟩ := HAFT.out v' w5 ho5 hf5; replace cc := c6; clear ho5 hf5 hb5 c6)
        | (go_at_call 41; refine HP.out.mono ?_; rintro en w7 ⟨rfl, hb7, hc7⟩; have HZ := hide hb7; replace cc := hc7; clear hb7 hc7 HP))
      all_goals
        clear cc K0 K1 q1
        go_wp2_with fail
        go_ret
        exact ⟨rfl, HZ.out⟩
set_option maxRecDepth 100000 in
set_option maxHeartbeats 8000000 in
theorem ct_1 (ty n : Int) (A : Option Addr) (c : Nat) (ts : List Int) (hk : ts.length ≤ 4) (GA FA : Option Addr) (gn gc fc : Nat) (fs : List FD)  (w : World) (hT : Tab w) (hO : OpTab w) (hl : Rd w .i64 (.slice A ts.length c) ts) (hF : FnsAt w FA fs) :
    Calls Tryd.prog 26 #[.agg #[.int .i64 1, .int .i64 ty, .int .i64 n], .slice A ts.length c, .agg #[.slice GA gn gc, .slice FA fs.length fc]] w fun e w' => e = .returned (.int .i64 (checkM 1 ty ts.length n 0 0 false (ups ts.length) (ts ++ [ty]) gn fs.length)) ∧ Below w.heap.size w w' := by
  have HT := hide hT
  have HO := hide hO
  have HL := hide hl
  have HF := hide hF
  have hc9 : c ≤ 9223372036854775807 := by
    obtain ⟨_, _, e1, _, hm, -⟩ := id hl
    injection e1 with _ _ e1
    unfold maxLen at hm
    omega
  obtain ⟨w1, hw1⟩ : ∃ z, (w.alloc (.cells #[.int .i64 1, .int .i64 ty, .int .i64 n] 40)).alloc (.cells #[.slice GA gn gc, .slice FA fs.length fc] 32) = z := ⟨_, rfl⟩
  have HB : Hid (Below w.heap.size w w1) := hide (by rw [← hw1]; exact ((Below.refl _ _).alloc (Nat.le_refl _) _).alloc (by simp) _)
  have HA : Hid (Whole w1 w.heap.size 40 #[.int .i64 1, .int .i64 ty, .int .i64 n]) := hide (by rw [← hw1]; exact (Whole.new w _ _).alloc _)
  have HM : Hid (Whole w1 (w.heap.size + 1) 32 #[.slice GA gn gc, .slice FA fs.length fc]) := hide (by
    rw [← hw1, show w.heap.size + 1 = (w.alloc (.cells #[.int .i64 1, .int .i64 ty, .int .i64 n] 40)).heap.size by simp]; exact Whole.new _ _ _)
  have p0 : w1.cell? ⟨w.heap.size, 0, none⟩ = some (.int .i64 1) := HA.out.cell 0
  have p1 : w1.cell? ⟨w.heap.size, 1, none⟩ = some (.int .i64 ty) := HA.out.cell 1
  have hi8 : (Tryd.prog.info? 78).map (·.size) = some 8 := by kernel_rfl
  have HI8 := hide hi8
  clear hT hO hl hF hi8
  go_enter Tryd.func26, Tryd.ntmps26
  go_upto_region 1 with fail
  clear hw1
  refine wp_region_lit ?_
  go_step; go_step; go_step
  go_step; go_step; go_step
  go_step; go_step; go_step
  go_step; go_step; go_step
  go_step; go_step; go_step
  go_step; go_step; go_step
  refine wpList_build_g (by rfl) _ _ rfl (instC 1 ty ts.length 0 0 (.slice none 0 0)).toList (by kernel_rfl) ?_
  go_step; go_step; go_step
  refine wpList_store_new (by rfl) _ _ _ rfl _ _ (instC 1 ty ts.length 0 0 (.slice none 0 0)).toList (by rfl) (by rfl) (by rfl) HI8.out (instC_all _ _ _ _ _ _ _ _) ?_
  obtain ⟨bI, hbI⟩ : ∃ bI, w1.heap.size = bI := ⟨_, rfl⟩
  rw [hbI]
  obtain ⟨w3, hw3⟩ : ∃ z, w1.alloc (.cells (instC 1 ty ts.length 0 0 (.slice none 0 0)) 78) = z := ⟨_, rfl⟩
  have HI : Hid (Whole w3 bI 78 (instC 1 ty ts.length 0 0 (.slice none 0 0))) := hide (by rw [← hw3, ← hbI]; exact Whole.new w1 _ _)
  have HB3 : Hid (Below bI w1 w3) := hide (by rw [← hw3, ← hbI]; exact (Below.refl _ _).alloc (Nat.le_refl _) _)
  have HBI := hide hbI
  have p0' : w3.cell? ⟨w.heap.size, 0, none⟩ = some (.int .i64 1) := (HB3.out.cell (p := ⟨w.heap.size, 0, none⟩) (by show w.heap.size < bI; have := HA.out.lt; omega)).trans p0
  have p2' : w3.cell? ⟨w.heap.size, 2, none⟩ = some (.int .i64 n) := (HB3.out.cell (p := ⟨w.heap.size, 2, none⟩) (by show w.heap.size < bI; have := HA.out.lt; omega)).trans (HA.out.cell 2)
  have i4 : w3.cell? ⟨bI, 4, none⟩ = some (.int .i64 0) := HI.out.cell 4
  have i5 : w3.cell? ⟨bI, 5, none⟩ = some (.int .i64 0) := HI.out.cell 5
  have f4 : w3.frozen? ⟨bI, 4, none⟩ = false := HI.out.free 4
  have f5 : w3.frozen? ⟨bI, 5, none⟩ = false := HI.out.free 5
  rw [show w1.alloc (.cells (instC 1 ty ts.length 0 0 (.slice none 0 0)).toList.toArray 78) = w3 from hw3]
  clear hw3 hbI p0 p1
  go_upto_region 8 with fail
  replace HI := hide (HI.out.set 4 (.int .i64 n))
  obtain ⟨w4, hw4⟩ : ∃ z, w3.setCell ⟨bI, 4, none⟩ (.int .i64 n) = z := ⟨_, rfl⟩
  have HI4 : Hid (Whole w4 bI 78 (instC 1 ty ts.length n 0 (.slice none 0 0))) := hide (by rw [← hw4]; exact HI.out)
  have HB4 : Hid (Below bI w1 w4) := hide (by rw [← hw4]; exact HB3.out.setCell (p := ⟨bI, 4, none⟩) (Nat.le_refl _) _)
  rw [hw4]
  clear hw4 HI
  clear p0' p2' i4 i5 f4 f5
  have hmk := fun W => run_make0 (P := Tryd.prog) W 25 24 .i64 8 tysE9 ((ts.length : Int) + 1) (by omega) (by omega) (by omega)
  go_upto_region 9 with fail
  clear hmk
  obtain ⟨w5, hw5⟩ : ∃ z, w4.alloc (.cells (madeCells #[.int .i64 0] (ts.length + 1)) 24) = z := ⟨_, rfl⟩
  obtain ⟨base, hbase⟩ : ∃ b, w4.heap.size = b := ⟨_, rfl⟩
  have HRv : Hid (Own w5 base 24 .i64 (.slice (some ⟨base, 0, none⟩) 0 (ts.length + 1)) (ts.take 0)) := hide (by rw [← hw5, ← hbase]; exact own_made w4 _ _ _ _ (by unfold maxLen; omega) (Nat.le_refl _))
  have b45 : Below w4.heap.size w4 w5 := by rw [← hw5]; exact (Below.refl _ _).alloc (Nat.le_refl _) _
  have HI5 := hide (HI4.out.below' b45)
  have HB5 : Hid (Below bI w1 w5) := hide (HB4.out.trans (b45.mono (by have := HB4.out.size; have := HBI.out; omega)))
  have hbb : Hid (bI < base) := hide (by rw [← hbase]; exact HI4.out.lt)
  rw [hw5, hbase]
  clear hw5 b45 hbase HI4 HB4
  go_wp2_with fail
  go_loopw [8, 37] (fun p z wr => ∃ (j : Nat) (av rv : Value), j ≤ ts.length ∧ p = rv ∧ z = .int .i64 j ∧ Hid (Own wr base 3 .i64 av (ups j)) ∧ Hid (Own wr base 24 .i64 rv (ts.take j)) ∧ Hid (∀ g, av.ownBlock = some g → rv.ownBlock ≠ some g) ∧ Hid (Whole wr bI 78 (instC 1 ty ts.length n 0 av)) ∧ Hid (base ≤ wr.heap.size) ∧ Hid (Below bI w1 wr)) (fun _ z _ => ts.length - (intOf z).toNat)
  case atStart => exact ⟨0, .slice none 0 0, _, Nat.zero_le _, rfl, rfl, hide Own.nil, HRv, hide (fun g hg => by simp [Value.ownBlock] at hg), HI5, hide (by have := (HRv.out.size base rfl).2; omega), HB5⟩
  case round =>
    clear HRv HI5 HB5
    obtain ⟨wq, rfl⟩ : ∃ x, x = wr := ⟨_, rfl⟩
    obtain ⟨j, av, rv, hj, rfl, rfl, hAv, hRv, hne, hI, hbs, hb⟩ := hrel
    obtain ⟨Aa, ca, ea, hca, hma, -⟩ := id hAv.out.rd
    obtain ⟨Ar, cr, er, hcr, hmr, -⟩ := id hRv.out.rd
    have hla : (ups j).length = j := ups_len j
    have hlr : (ts.take j).length = j := by rw [List.length_take]; omega
    rw [hla] at ea hca
    rw [hlr] at er hcr
    subst ea
    subst er
    have hca9 : ca ≤ 9223372036854775807 := by unfold maxLen at hma; omega
    have hcr9 : cr ≤ 9223372036854775807 := by unfold maxLen at hmr; omega
    have hbw : Below w.heap.size w wq := HB.out.trans (hb.out.mono (by have := HB.out.size; have := HBI.out; omega))
    have hwI : Hid (w.heap.size + 1 < bI) := hide (by have := HM.out.lt; have := HBI.out; omega)
    clear hma hmr
    by_cases hlt : j < ts.length
    · obtain ⟨t, ht⟩ : ∃ t, ts[j]? = some t := ⟨_, List.getElem?_eq_getElem hlt⟩
      obtain ⟨b8, o8, e8, hb8, hc8⟩ := (HL.out.below' hbw).toV.at j (.int .i64 t) (by rw [List.getElem?_map, ht]; rfl)
      subst e8
      have hnx : ts.take (j + 1) = ts.take j ++ [t] := by rw [List.take_succ_eq_append_getElem hlt, (List.getElem?_eq_some_iff.1 ht).2]
      have HNX := hide hnx
      have c3 : wq.cell? ⟨bI, 3, none⟩ = some (.slice Aa j ca) := hI.out.cell 3
      have HO5 := hide (hAv.out.alloc (.cells #[.int .i64 (j : Int)] 3))
      have hs5 : base ≤ (wq.alloc (.cells #[.int .i64 (j : Int)] 3)).heap.size := by have := hbs.out; simp; omega
      have HLA := hide hla
      have HLR := hide hlr
      clear ht hnx hb8 hbw hla hlr
      go_upto_region 12 with fail
      clear hc8
      go_wp2_with (refine wpList_append_rd _ rfl _ _ 23 rfl base 3 .i64 8 intsE9 _ _ rfl HO5.out _ [(j : Int)] rfl (rd_one _ _ _) ?b0 ?b1 hs5 ?_)
      case b0 => rw [HLA.out]; simp only [List.length_singleton]; omega
      case b1 => rw [HLA.out]; simp only [List.length_singleton]; unfold maxLen; omega
      rintro v' w6 ho hg hbl hw6
      have f16 : Frm wq w6 (Value.slice Aa j ca).ownBlock.toList := ((Frm.refl wq _).alloc _).trans (Frm.grown hg)
      have hnb : bI ∉ (Value.slice Aa j ca).ownBlock.toList := fun h => by have := (hAv.out.size bI (by simpa using h)).1; have := hbb.out; omega
      have HI6 := hide (hI.out.frm f16 hnb)
      have HV6 := hide ho
      have HRv6 := hide (hRv.out.frm9 f16 (fun g hg' hm => hne.out g (by simpa using hm) hg'))
      have HF6 := hide f16
      have HW6 : Hid (∀ g, v'.ownBlock = some g → (Value.slice Aa j ca).ownBlock = some g ∨ wq.heap.size ≤ g) := hide (fun g h => by
        rcases hw6 with h1 | h1
        · exact .inl (by rw [← h1]; exact h)
        · right
          rw [h1] at h
          injection h with h
          rw [← h]
          simp)
      have c3' : w6.cell? ⟨bI, 3, none⟩ = some (.slice Aa j ca) := HI6.out.cell 3
      have f3' : w6.frozen? ⟨bI, 3, none⟩ = false := HI6.out.free 3
      clear ho hg hbl hw6 f16 hnb c3 hs5 HO5
      obtain ⟨A6, c6, e6, -, hm6, -⟩ := id HV6.out.rd
      have hc69 : c6 ≤ 9223372036854775807 := by unfold maxLen at hm6; omega
      have hl6 : (ups j ++ [(j : Int)]).length = j + 1 := by rw [List.length_append, ups_len]; rfl
      rw [hl6] at e6
      subst e6
      clear hm6 hl6
      go_upto_region 13 with fail
      clear c3' f3'
      have HI7 : Hid (Whole (w6.setCell ⟨bI, 3, none⟩ (.slice A6 (j + 1) c6)) bI 78 (instC 1 ty ts.length n 0 (.slice A6 (j + 1) c6))) := hide (HI6.out.set 3 _)
      have hset : Frm w6 (w6.setCell ⟨bI, 3, none⟩ (.slice A6 (j + 1) c6)) [bI] := (Frm.refl w6 [bI]).setCell _ _ (.inl (by simp))
      have hnot : ∀ {g : Nat}, base ≤ g → g ∉ [bI] := fun h hm => by have := hbb.out; rw [List.mem_singleton] at hm; omega
      have HV7 := hide (HV6.out.frm9 hset (fun g hg => hnot (HV6.out.size g hg).1))
      have HRv7 := hide (HRv6.out.frm9 hset (fun g hg => hnot (HRv6.out.size g hg).1))
      have HB7 : Hid (Below bI w1 (w6.setCell ⟨bI, 3, none⟩ (.slice A6 (j + 1) c6))) := hide ((hb.out.trans (HF6.out.toBelow (B := bI) (fun g hg => by have := (hAv.out.size g (by simpa using hg)).1; have := hbb.out; omega) (by have := hb.out.size; have := HBI.out; omega))).trans (hset.toBelow (fun g hg => by rw [List.mem_singleton.1 hg]; exact Nat.le_refl _) (by have := hb.out.size; have := HF6.out.size; have := HBI.out; omega)))
      have hs7 : base ≤ (w6.setCell ⟨bI, 3, none⟩ (.slice A6 (j + 1) c6)).heap.size := by have := hset.size; have := HF6.out.size; have := hbs.out; omega
      have HW7 : Hid (wq.heap.size ≤ (w6.setCell ⟨bI, 3, none⟩ (.slice A6 (j + 1) c6)).heap.size) := hide (by have := hset.size; have := HF6.out.size; omega)
      obtain ⟨w7, hw7⟩ : ∃ z, w6.setCell ⟨bI, 3, none⟩ (.slice A6 (j + 1) c6) = z := ⟨_, rfl⟩
      rw [hw7] at HI7 HV7 HRv7 HB7 hs7 HW7 ⊢
      clear hw7 hset hnot HI6 HV6 HRv6 HF6 hAv hI
      have HO8 := hide (HRv7.out.alloc (.cells #[.int .i64 t] 24))
      have hs8 : base ≤ (w7.alloc (.cells #[.int .i64 t] 24)).heap.size := by simp; omega
      go_wp2_with (refine wpList_append_rd _ rfl _ _ 25 rfl base 24 .i64 8 tysE9 _ _ rfl HO8.out _ [t] rfl (rd_one _ _ _) ?b2 ?b3 hs8 ?_)
      case b2 => rw [HLR.out]; simp only [List.length_singleton]; omega
      case b3 => rw [HLR.out]; simp only [List.length_singleton]; unfold maxLen; omega
      rintro v9 w9 ho hg hbl hw9
      have f19 : Frm w7 w9 (Value.slice Ar j cr).ownBlock.toList := ((Frm.refl w7 _).alloc _).trans (Frm.grown hg)
      have hnb : bI ∉ (Value.slice Ar j cr).ownBlock.toList := fun h => by have := (HRv7.out.size bI (by simpa using h)).1; have := hbb.out; omega
      have HI9 := hide (HI7.out.frm f19 hnb)
      have HR9 : Hid (Own w9 base 24 .i64 v9 (ts.take (j + 1))) := hide (by rw [HNX.out]; exact ho)
      have hne7 : ∀ g, (Value.slice A6 (j + 1) c6).ownBlock = some g → (Value.slice Ar j cr).ownBlock ≠ some g := fun g h h2 => by
        rcases HW6.out g h with h1 | h1
        · exact hne.out g h1 h2
        · have := (hRv.out.size g h2).2
          omega
      have HV9 : Hid (Own w9 base 3 .i64 (.slice A6 (j + 1) c6) (ups (j + 1))) := hide (by rw [ups_succ]; exact HV7.out.frm9 f19 (fun g hg' hm => hne7 g hg' (by simpa using hm)))
      have HN9 : Hid (∀ g, (Value.slice A6 (j + 1) c6).ownBlock = some g → v9.ownBlock ≠ some g) := hide (fun g h h2 => by
        rcases hw9 with h1 | h1
        · exact hne7 g h (by rw [← h1]; exact h2)
        · rw [h1] at h2
          have h4 := Option.some.inj h2
          have := (HV7.out.size g h).2
          omega)
      have HB9 : Hid (Below bI w1 w9) := hide (HB7.out.trans (f19.toBelow (fun g hg => by have := (HRv7.out.size g (by simpa using hg)).1; have := hbb.out; omega) (by have := HB7.out.size; have := HBI.out; omega)))
      have HS9 : Hid (base ≤ w9.heap.size) := hide (by have := f19.size; omega)
      clear ho hg hbl hw9 f19 hnb hne7 hs8 HO8 hs7
      go_wp2_with fail
      go_roundw
      case rel => exact ⟨j + 1, _, v9, by omega, rfl, by go_num, HV9, HR9, HN9, HI9, HS9, HB9⟩
      case measure => simp [intOf]; omega
    · have hjl : j = ts.length := by omega
      have htk : ts.take j = ts := List.take_of_length_le (by omega)
      rw [htk] at hRv
      obtain rfl := hjl
      have HA' := hide (HA.out.below hb.out (by have := hwI.out; omega))
      have HM' := hide (HM.out.below hb.out (by have := hwI.out; omega))
      have HBW := hide hbw
      clear htk hbw hla hlr hlt hj
      go_upto_region 15 with fail
      have hfz : Frm wq (wq.alloc (.cells #[.int .i64 ty] 24)).drew [] := ((Frm.refl wq []).alloc _).trans (Frm.drew _ _)
      have hO2 := hide (hRv.out.toV.frm hfz (fun _ _ => by simp))
      have HAFT : Hid (∀ v' w5, OwnV w5 base 24 v' (ts.map (Value.int .i64) ++ [.int .i64 ty]) → Frm (wq.alloc (.cells #[.int .i64 ty] 24)).drew w5 (Value.slice Ar ts.length cr).ownBlock.toList →
          ∃ A5 c5, v' = .slice A5 (ts.length + 1) c5 ∧ (w5.cell? ⟨w.heap.size, 1, none⟩ = some (.int .i64 ty) ∧ w5.cell? ⟨w.heap.size + 1, 0, none⟩ = some (.slice GA gn gc) ∧ w5.cell? ⟨w.heap.size + 1, 1, none⟩ = some (.slice FA fs.length fc) ∧
            w5.cell? ⟨bI, 0, none⟩ = some (.int .i64 1) ∧ w5.cell? ⟨bI, 1, none⟩ = some (.int .i64 ty) ∧ w5.cell? ⟨bI, 2, none⟩ = some (.int .i64 (ts.length : Int)) ∧ w5.cell? ⟨bI, 3, none⟩ = some (.slice Aa ts.length ca) ∧ w5.cell? ⟨bI, 4, none⟩ = some (.int .i64 n) ∧ w5.cell? ⟨bI, 5, none⟩ = some (.int .i64 0) ∧ w5.cell? ⟨bI, 6, none⟩ = some (.int .i64 0) ∧ w5.cell? ⟨bI, 7, none⟩ = some (.bool false)) ∧
            Hid (Calls Tryd.prog 41 #[.agg #[.int .i64 1, .int .i64 ty, .int .i64 (ts.length : Int), .slice Aa ts.length ca, .int .i64 n, .int .i64 0, .int .i64 0, .bool false], .agg #[.string ⟨#[]⟩, .slice none 0 0, .int .i64 0, .slice A5 (ts.length + 1) c5, .slice none 0 0], .agg #[.slice GA gn gc, .slice FA fs.length fc]] w5 fun e w' =>
              e = .returned (.int .i64 (checkM 1 ty ts.length n 0 0 false (ups ts.length) (ts ++ [ty]) gn fs.length)) ∧ Below w.heap.size w w' ∧ (w'.cell? ⟨w.heap.size, 1, none⟩ = some (.int .i64 ty) ∧ w'.cell? ⟨w.heap.size + 1, 0, none⟩ = some (.slice GA gn gc) ∧ w'.cell? ⟨w.heap.size + 1, 1, none⟩ = some (.slice FA fs.length fc) ∧ w'.cell? ⟨bI, 0, none⟩ = some (.int .i64 1) ∧ w'.cell? ⟨bI, 1, none⟩ = some (.int .i64 ty) ∧ w'.cell? ⟨bI, 2, none⟩ = some (.int .i64 (ts.length : Int)) ∧ w'.cell? ⟨bI, 3, none⟩ = some (.slice Aa ts.length ca) ∧ w'.cell? ⟨bI, 4, none⟩ = some (.int .i64 n) ∧ w'.cell? ⟨bI, 5, none⟩ = some (.int .i64 0) ∧ w'.cell? ⟨bI, 6, none⟩ = some (.int .i64 0) ∧ w'.cell? ⟨bI, 7, none⟩ = some (.bool false)))) := hide (by
        intro v' w5 ho5 hf5
        have f05 : Frm wq w5 (Value.slice Ar ts.length cr).ownBlock.toList := (hfz.mono (fun g hg => by cases hg)).trans hf5
        have nI : bI ∉ (Value.slice Ar ts.length cr).ownBlock.toList := fun h => by have := (hRv.out.size bI (by simpa using h)).1; have := hbb.out; omega
        have nA : w.heap.size ∉ (Value.slice Ar ts.length cr).ownBlock.toList := fun h => by have := (hRv.out.size _ (by simpa using h)).1; have := hbb.out; have := hwI.out; omega
        have nM : w.heap.size + 1 ∉ (Value.slice Ar ts.length cr).ownBlock.toList := fun h => by have := (hRv.out.size _ (by simpa using h)).1; have := hbb.out; have := hwI.out; omega
        have hI5 := hI.out.frm f05 nI
        have hA5 := HA'.out.frm f05 nA
        have hM5 := HM'.out.frm f05 nM
        have hb15 : Below bI w1 w5 := hb.out.trans (f05.toBelow (fun g hg => by have := (hRv.out.size g (by simpa using hg)).1; have := hbb.out; omega) (by have := hb.out.size; have := HBI.out; omega))
        have hbw5 : Below w.heap.size w w5 := HB.out.trans (hb15.mono (by have := HB.out.size; have := HBI.out; omega))
        have hav5 := (hAv.out.frm9 f05 (fun g hg hm => hne.out g hg (by simpa using hm))).rd
        have er9 : ts.map (Value.int .i64) ++ [.int .i64 ty] = (ts ++ [ty]).map (Value.int .i64) := by simp
        rw [er9] at ho5
        have hrv5 : Rd w5 .i64 v' (ts ++ [ty]) := (ho5.toI).rd
        obtain ⟨A5, c5, e5, -⟩ := id hrv5
        have hln : (ts ++ [ty]).length = ts.length + 1 := by simp
        rw [hln] at e5
        subst e5
        refine ⟨A5, c5, rfl, ⟨hA5.cell 1, hM5.cell 0, hM5.cell 1, hI5.cell 0, hI5.cell 1, hI5.cell 2, hI5.cell 3, hI5.cell 4, hI5.cell 5, hI5.cell 6, hI5.cell 7⟩, hide ?_⟩
        have hav6 : Rd w5 .i64 (.slice Aa (ups ts.length).length ca) (ups ts.length) := by rw [ups_len]; exact hav5
        have hrv6 : Rd w5 .i64 (.slice A5 (ts ++ [ty]).length c5) (ts ++ [ty]) := by rw [hln]; exact hrv5
        have hC := check_any 1 ty ts.length n 0 0 Aa A5 GA FA ca c5 gn gc fc fs (ups ts.length) (ts ++ [ty]) (by rw [ups_len]; omega) false (.string ⟨#[]⟩) (.slice none 0 0) (.slice none 0 0) 0 w5 (HT.out.below hbw5) (HO.out.below hbw5) hav6 hrv6 (HF.out.below hbw5)
        rw [ups_len, hln] at hC
        refine hC.mono ?_
        rintro e w' ⟨rfl, hbe⟩
        exact ⟨by unfold checkA; rw [if_neg (by omega)], Below.all hbw5 hbe, cell_below hbe (hA5.cell 1), cell_below hbe (hM5.cell 0), cell_below hbe (hM5.cell 1), cell_below hbe (hI5.cell 0), cell_below hbe (hI5.cell 1), cell_below hbe (hI5.cell 2), cell_below hbe (hI5.cell 3), cell_below hbe (hI5.cell 4), cell_below hbe (hI5.cell 5), cell_below hbe (hI5.cell 6), cell_below hbe (hI5.cell 7)⟩)
      have S0 : Frm wq (wq.alloc (.cells #[.int .i64 ty] 24)).drew [] := hfz
      have q1 : wq.cell? ⟨w.heap.size, 1, none⟩ = some (.int .i64 ty) := HA'.out.cell 1
      have hone : ∀ x ∈ [Value.int .i64 ty], x.oneCell' = true := by intro x hx; rw [List.mem_singleton] at hx; subst hx; rfl
      have hby : ((ts.map (Value.int .i64)).length + [Value.int .i64 ty].length) * 8 ≤ 140737488355328 := by rw [List.length_map, List.length_singleton]; omega
      have hml : (ts.map (Value.int .i64)).length + [Value.int .i64 ty].length ≤ maxLen := by rw [List.length_map, List.length_singleton]; unfold maxLen; omega
      have hB2 : base ≤ (wq.alloc (.cells #[.int .i64 ty] 24)).drew.heap.size := by have := hbs.out; have := S0.size; omega
      have K0 : (wq.cell? ⟨w.heap.size, 1, none⟩ = some (.int .i64 ty) ∧ wq.cell? ⟨w.heap.size + 1, 0, none⟩ = some (.slice GA gn gc) ∧ wq.cell? ⟨w.heap.size + 1, 1, none⟩ = some (.slice FA fs.length fc) ∧
            wq.cell? ⟨bI, 0, none⟩ = some (.int .i64 1) ∧ wq.cell? ⟨bI, 1, none⟩ = some (.int .i64 ty) ∧ wq.cell? ⟨bI, 2, none⟩ = some (.int .i64 (ts.length : Int)) ∧ wq.cell? ⟨bI, 3, none⟩ = some (.slice Aa ts.length ca) ∧ wq.cell? ⟨bI, 4, none⟩ = some (.int .i64 n) ∧ wq.cell? ⟨bI, 5, none⟩ = some (.int .i64 0) ∧ wq.cell? ⟨bI, 6, none⟩ = some (.int .i64 0) ∧ wq.cell? ⟨bI, 7, none⟩ = some (.bool false)) :=
        ⟨HA'.out.cell 1, HM'.out.cell 0, HM'.out.cell 1, hI.out.cell 0, hI.out.cell 1, hI.out.cell 2, hI.out.cell 3, hI.out.cell 4, hI.out.cell 5, hI.out.cell 6, hI.out.cell 7⟩
      have K1 : ((wq.alloc (.cells #[.int .i64 ty] 24)).drew.cell? ⟨w.heap.size, 1, none⟩ = some (.int .i64 ty) ∧ (wq.alloc (.cells #[.int .i64 ty] 24)).drew.cell? ⟨w.heap.size + 1, 0, none⟩ = some (.slice GA gn gc) ∧ (wq.alloc (.cells #[.int .i64 ty] 24)).drew.cell? ⟨w.heap.size + 1, 1, none⟩ = some (.slice FA fs.length fc) ∧
            (wq.alloc (.cells #[.int .i64 ty] 24)).drew.cell? ⟨bI, 0, none⟩ = some (.int .i64 1) ∧ (wq.alloc (.cells #[.int .i64 ty] 24)).drew.cell? ⟨bI, 1, none⟩ = some (.int .i64 ty) ∧ (wq.alloc (.cells #[.int .i64 ty] 24)).drew.cell? ⟨bI, 2, none⟩ = some (.int .i64 (ts.length : Int)) ∧ (wq.alloc (.cells #[.int .i64 ty] 24)).drew.cell? ⟨bI, 3, none⟩ = some (.slice Aa ts.length ca) ∧ (wq.alloc (.cells #[.int .i64 ty] 24)).drew.cell? ⟨bI, 4, none⟩ = some (.int .i64 n) ∧ (wq.alloc (.cells #[.int .i64 ty] 24)).drew.cell? ⟨bI, 5, none⟩ = some (.int .i64 0) ∧ (wq.alloc (.cells #[.int .i64 ty] 24)).drew.cell? ⟨bI, 6, none⟩ = some (.int .i64 0) ∧ (wq.alloc (.cells #[.int .i64 ty] 24)).drew.cell? ⟨bI, 7, none⟩ = some (.bool false)) :=
        ⟨(HA'.out.frm S0 (by simp)).cell 1, (HM'.out.frm S0 (by simp)).cell 0, (HM'.out.frm S0 (by simp)).cell 1, (hI.out.frm S0 (by simp)).cell 0, (hI.out.frm S0 (by simp)).cell 1, (hI.out.frm S0 (by simp)).cell 2, (hI.out.frm S0 (by simp)).cell 3, (hI.out.frm S0 (by simp)).cell 4, (hI.out.frm S0 (by simp)).cell 5, (hI.out.frm S0 (by simp)).cell 6, (hI.out.frm S0 (by simp)).cell 7⟩
      have cc := K0
      clear S0 hfz
      go_region_held3 (fun w' => w'.cell? ⟨w.heap.size, 1, none⟩ = some (.int .i64 ty) ∧ w'.cell? ⟨w.heap.size + 1, 0, none⟩ = some (.slice GA gn gc) ∧ w'.cell? ⟨w.heap.size + 1, 1, none⟩ = some (.slice FA fs.length fc) ∧
            w'.cell? ⟨bI, 0, none⟩ = some (.int .i64 1) ∧ w'.cell? ⟨bI, 1, none⟩ = some (.int .i64 ty) ∧ w'.cell? ⟨bI, 2, none⟩ = some (.int .i64 (ts.length : Int)) ∧ w'.cell? ⟨bI, 3, none⟩ = some (.slice Aa ts.length ca) ∧ w'.cell? ⟨bI, 4, none⟩ = some (.int .i64 n) ∧ w'.cell? ⟨bI, 5, none⟩ = some (.int .i64 0) ∧ w'.cell? ⟨bI, 6, none⟩ = some (.int .i64 0) ∧ w'.cell? ⟨bI, 7, none⟩ = some (.bool false)) (first | exact cc | exact K0 | exact K1) (first
        | (refine step_append_v rfl (.tmp 54) (.tmp 57) 25 rfl base 24 (.int .i64 0) 8 tysV9 (.slice Ar ts.length cr) (ts.map (Value.int .i64)) (by simp [Act.eval]) hO2.out (.slice (some ⟨wq.heap.size, 0, none⟩) 1 1) [.int .i64 ty] (by simp [Act.eval]) (rdv_one9 _ _ _) hone hby hml hB2 ?_; intro v' w5 ho5 hf5 hb5; obtain ⟨A5, c5, rfl, c6, HP⟩ := HAFT.out v' w5 ho5 hf5; replace cc := c6; clear ho5 hf5 hb5 c6)
        | (go_at_call 41; refine HP.out.mono ?_; rintro en w7 ⟨rfl, hb7, hc7⟩; have HZ := hide hb7; replace cc := hc7; clear hb7 hc7 HP))
      all_goals
        clear cc K0 K1 q1
        go_wp2_with fail
        go_ret
        exact ⟨rfl, HZ.out⟩
set_option maxRecDepth 100000 in
set_option maxHeartbeats 8000000 in
theorem ct_33 (ty n : Int) (A : Option Addr) (c : Nat) (ts : List Int) (hk : ts.length ≤ 4) (GA FA : Option Addr) (gn gc fc : Nat) (fs : List FD)  (w : World) (hT : Tab w) (hO : OpTab w) (hl : Rd w .i64 (.slice A ts.length c) ts) (hF : FnsAt w FA fs) :
    Calls Tryd.prog 26 #[.agg #[.int .i64 33, .int .i64 ty, .int .i64 n], .slice A ts.length c, .agg #[.slice GA gn gc, .slice FA fs.length fc]] w fun e w' => e = .returned (.int .i64 (checkM 33 ty ts.length n 0 0 false (ups ts.length) (ts ++ [ty]) gn fs.length)) ∧ Below w.heap.size w w' := by
  have HT := hide hT
  have HO := hide hO
  have HL := hide hl
  have HF := hide hF
  have hc9 : c ≤ 9223372036854775807 := by
    obtain ⟨_, _, e1, _, hm, -⟩ := id hl
    injection e1 with _ _ e1
    unfold maxLen at hm
    omega
  obtain ⟨w1, hw1⟩ : ∃ z, (w.alloc (.cells #[.int .i64 33, .int .i64 ty, .int .i64 n] 40)).alloc (.cells #[.slice GA gn gc, .slice FA fs.length fc] 32) = z := ⟨_, rfl⟩
  have HB : Hid (Below w.heap.size w w1) := hide (by rw [← hw1]; exact ((Below.refl _ _).alloc (Nat.le_refl _) _).alloc (by simp) _)
  have HA : Hid (Whole w1 w.heap.size 40 #[.int .i64 33, .int .i64 ty, .int .i64 n]) := hide (by rw [← hw1]; exact (Whole.new w _ _).alloc _)
  have HM : Hid (Whole w1 (w.heap.size + 1) 32 #[.slice GA gn gc, .slice FA fs.length fc]) := hide (by
    rw [← hw1, show w.heap.size + 1 = (w.alloc (.cells #[.int .i64 33, .int .i64 ty, .int .i64 n] 40)).heap.size by simp]; exact Whole.new _ _ _)
  have p0 : w1.cell? ⟨w.heap.size, 0, none⟩ = some (.int .i64 33) := HA.out.cell 0
  have p1 : w1.cell? ⟨w.heap.size, 1, none⟩ = some (.int .i64 ty) := HA.out.cell 1
  have hi8 : (Tryd.prog.info? 78).map (·.size) = some 8 := by kernel_rfl
  have HI8 := hide hi8
  clear hT hO hl hF hi8
  go_enter Tryd.func26, Tryd.ntmps26
  go_upto_region 1 with fail
  clear hw1
  refine wp_region_lit ?_
  go_step; go_step; go_step
  go_step; go_step; go_step
  go_step; go_step; go_step
  go_step; go_step; go_step
  go_step; go_step; go_step
  go_step; go_step; go_step
  refine wpList_build_g (by rfl) _ _ rfl (instC 33 ty ts.length 0 0 (.slice none 0 0)).toList (by kernel_rfl) ?_
  go_step; go_step; go_step
  refine wpList_store_new (by rfl) _ _ _ rfl _ _ (instC 33 ty ts.length 0 0 (.slice none 0 0)).toList (by rfl) (by rfl) (by rfl) HI8.out (instC_all _ _ _ _ _ _ _ _) ?_
  obtain ⟨bI, hbI⟩ : ∃ bI, w1.heap.size = bI := ⟨_, rfl⟩
  rw [hbI]
  obtain ⟨w3, hw3⟩ : ∃ z, w1.alloc (.cells (instC 33 ty ts.length 0 0 (.slice none 0 0)) 78) = z := ⟨_, rfl⟩
  have HI : Hid (Whole w3 bI 78 (instC 33 ty ts.length 0 0 (.slice none 0 0))) := hide (by rw [← hw3, ← hbI]; exact Whole.new w1 _ _)
  have HB3 : Hid (Below bI w1 w3) := hide (by rw [← hw3, ← hbI]; exact (Below.refl _ _).alloc (Nat.le_refl _) _)
  have HBI := hide hbI
  have p0' : w3.cell? ⟨w.heap.size, 0, none⟩ = some (.int .i64 33) := (HB3.out.cell (p := ⟨w.heap.size, 0, none⟩) (by show w.heap.size < bI; have := HA.out.lt; omega)).trans p0
  have p2' : w3.cell? ⟨w.heap.size, 2, none⟩ = some (.int .i64 n) := (HB3.out.cell (p := ⟨w.heap.size, 2, none⟩) (by show w.heap.size < bI; have := HA.out.lt; omega)).trans (HA.out.cell 2)
  have i4 : w3.cell? ⟨bI, 4, none⟩ = some (.int .i64 0) := HI.out.cell 4
  have i5 : w3.cell? ⟨bI, 5, none⟩ = some (.int .i64 0) := HI.out.cell 5
  have f4 : w3.frozen? ⟨bI, 4, none⟩ = false := HI.out.free 4
  have f5 : w3.frozen? ⟨bI, 5, none⟩ = false := HI.out.free 5
  rw [show w1.alloc (.cells (instC 33 ty ts.length 0 0 (.slice none 0 0)).toList.toArray 78) = w3 from hw3]
  clear hw3 hbI p0 p1
  go_upto_region 8 with fail
  replace HI := hide (HI.out.set 4 (.int .i64 n))
  obtain ⟨w4, hw4⟩ : ∃ z, w3.setCell ⟨bI, 4, none⟩ (.int .i64 n) = z := ⟨_, rfl⟩
  have HI4 : Hid (Whole w4 bI 78 (instC 33 ty ts.length n 0 (.slice none 0 0))) := hide (by rw [← hw4]; exact HI.out)
  have HB4 : Hid (Below bI w1 w4) := hide (by rw [← hw4]; exact HB3.out.setCell (p := ⟨bI, 4, none⟩) (Nat.le_refl _) _)
  rw [hw4]
  clear hw4 HI
  clear p0' p2' i4 i5 f4 f5
  have hmk := fun W => run_make0 (P := Tryd.prog) W 25 24 .i64 8 tysE9 ((ts.length : Int) + 1) (by omega) (by omega) (by omega)
  go_upto_region 9 with fail
  clear hmk
  obtain ⟨w5, hw5⟩ : ∃ z, w4.alloc (.cells (madeCells #[.int .i64 0] (ts.length + 1)) 24) = z := ⟨_, rfl⟩
  obtain ⟨base, hbase⟩ : ∃ b, w4.heap.size = b := ⟨_, rfl⟩
  have HRv : Hid (Own w5 base 24 .i64 (.slice (some ⟨base, 0, none⟩) 0 (ts.length + 1)) (ts.take 0)) := hide (by rw [← hw5, ← hbase]; exact own_made w4 _ _ _ _ (by unfold maxLen; omega) (Nat.le_refl _))
  have b45 : Below w4.heap.size w4 w5 := by rw [← hw5]; exact (Below.refl _ _).alloc (Nat.le_refl _) _
  have HI5 := hide (HI4.out.below' b45)
  have HB5 : Hid (Below bI w1 w5) := hide (HB4.out.trans (b45.mono (by have := HB4.out.size; have := HBI.out; omega)))
  have hbb : Hid (bI < base) := hide (by rw [← hbase]; exact HI4.out.lt)
  rw [hw5, hbase]
  clear hw5 b45 hbase HI4 HB4
  go_wp2_with fail
  go_loopw [8, 37] (fun p z wr => ∃ (j : Nat) (av rv : Value), j ≤ ts.length ∧ p = rv ∧ z = .int .i64 j ∧ Hid (Own wr base 3 .i64 av (ups j)) ∧ Hid (Own wr base 24 .i64 rv (ts.take j)) ∧ Hid (∀ g, av.ownBlock = some g → rv.ownBlock ≠ some g) ∧ Hid (Whole wr bI 78 (instC 33 ty ts.length n 0 av)) ∧ Hid (base ≤ wr.heap.size) ∧ Hid (Below bI w1 wr)) (fun _ z _ => ts.length - (intOf z).toNat)
  case atStart => exact ⟨0, .slice none 0 0, _, Nat.zero_le _, rfl, rfl, hide Own.nil, HRv, hide (fun g hg => by simp [Value.ownBlock] at hg), HI5, hide (by have := (HRv.out.size base rfl).2; omega), HB5⟩
  case round =>
    clear HRv HI5 HB5
    obtain ⟨wq, rfl⟩ : ∃ x, x = wr := ⟨_, rfl⟩
    obtain ⟨j, av, rv, hj, rfl, rfl, hAv, hRv, hne, hI, hbs, hb⟩ := hrel
    obtain ⟨Aa, ca, ea, hca, hma, -⟩ := id hAv.out.rd
    obtain ⟨Ar, cr, er, hcr, hmr, -⟩ := id hRv.out.rd
    have hla : (ups j).length = j := ups_len j
    have hlr : (ts.take j).length = j := by rw [List.length_take]; omega
    rw [hla] at ea hca
    rw [hlr] at er hcr
    subst ea
    subst er
    have hca9 : ca ≤ 9223372036854775807 := by unfold maxLen at hma; omega
    have hcr9 : cr ≤ 9223372036854775807 := by unfold maxLen at hmr; omega
    have hbw : Below w.heap.size w wq := HB.out.trans (hb.out.mono (by have := HB.out.size; have := HBI.out; omega))
    have hwI : Hid (w.heap.size + 1 < bI) := hide (by have := HM.out.lt; have := HBI.out; omega)
    clear hma hmr
    by_cases hlt : j < ts.length
    · obtain ⟨t, ht⟩ : ∃ t, ts[j]? = some t := ⟨_, List.getElem?_eq_getElem hlt⟩
      obtain ⟨b8, o8, e8, hb8, hc8⟩ := (HL.out.below' hbw).toV.at j (.int .i64 t) (by rw [List.getElem?_map, ht]; rfl)
      subst e8
      have hnx : ts.take (j + 1) = ts.take j ++ [t] := by rw [List.take_succ_eq_append_getElem hlt, (List.getElem?_eq_some_iff.1 ht).2]
      have HNX := hide hnx
      have c3 : wq.cell? ⟨bI, 3, none⟩ = some (.slice Aa j ca) := hI.out.cell 3
      have HO5 := hide (hAv.out.alloc (.cells #[.int .i64 (j : Int)] 3))
      have hs5 : base ≤ (wq.alloc (.cells #[.int .i64 (j : Int)] 3)).heap.size := by have := hbs.out; simp; omega
      have HLA := hide hla
      have HLR := hide hlr
      clear ht hnx hb8 hbw hla hlr
      go_upto_region 12 with fail
      clear hc8
      go_wp2_with (refine wpList_append_rd _ rfl _ _ 23 rfl base 3 .i64 8 intsE9 _ _ rfl HO5.out _ [(j : Int)] rfl (rd_one _ _ _) ?b0 ?b1 hs5 ?_)
      case b0 => rw [HLA.out]; simp only [List.length_singleton]; omega
      case b1 => rw [HLA.out]; simp only [List.length_singleton]; unfold maxLen; omega
      rintro v' w6 ho hg hbl hw6
      have f16 : Frm wq w6 (Value.slice Aa j ca).ownBlock.toList := ((Frm.refl wq _).alloc _).trans (Frm.grown hg)
      have hnb : bI ∉ (Value.slice Aa j ca).ownBlock.toList := fun h => by have := (hAv.out.size bI (by simpa using h)).1; have := hbb.out; omega
      have HI6 := hide (hI.out.frm f16 hnb)
      have HV6 := hide ho
      have HRv6 := hide (hRv.out.frm9 f16 (fun g hg' hm => hne.out g (by simpa using hm) hg'))
      have HF6 := hide f16
      have HW6 : Hid (∀ g, v'.ownBlock = some g → (Value.slice Aa j ca).ownBlock = some g ∨ wq.heap.size ≤ g) := hide (fun g h => by
        rcases hw6 with h1 | h1
        · exact .inl (by rw [← h1]; exact h)
        · right
          rw [h1] at h
          injection h with h
          rw [← h]
          simp)
      have c3' : w6.cell? ⟨bI, 3, none⟩ = some (.slice Aa j ca) := HI6.out.cell 3
      have f3' : w6.frozen? ⟨bI, 3, none⟩ = false := HI6.out.free 3
      clear ho hg hbl hw6 f16 hnb c3 hs5 HO5
      obtain ⟨A6, c6, e6, -, hm6, -⟩ := id HV6.out.rd
      have hc69 : c6 ≤ 9223372036854775807 := by unfold maxLen at hm6; omega
      have hl6 : (ups j ++ [(j : Int)]).length = j + 1 := by rw [List.length_append, ups_len]; rfl
      rw [hl6] at e6
      subst e6
      clear hm6 hl6
      go_upto_region 13 with fail
      clear c3' f3'
      have HI7 : Hid (Whole (w6.setCell ⟨bI, 3, none⟩ (.slice A6 (j + 1) c6)) bI 78 (instC 33 ty ts.length n 0 (.slice A6 (j + 1) c6))) := hide (HI6.out.set 3 _)
      have hset : Frm w6 (w6.setCell ⟨bI, 3, none⟩ (.slice A6 (j + 1) c6)) [bI] := (Frm.refl w6 [bI]).setCell _ _ (.inl (by simp))
      have hnot : ∀ {g : Nat}, base ≤ g → g ∉ [bI] := fun h hm => by have := hbb.out; rw [List.mem_singleton] at hm; omega
      have HV7 := hide (HV6.out.frm9 hset (fun g hg => hnot (HV6.out.size g hg).1))
      have HRv7 := hide (HRv6.out.frm9 hset (fun g hg => hnot (HRv6.out.size g hg).1))
      have HB7 : Hid (Below bI w1 (w6.setCell ⟨bI, 3, none⟩ (.slice A6 (j + 1) c6))) := hide ((hb.out.trans (HF6.out.toBelow (B := bI) (fun g hg => by have := (hAv.out.size g (by simpa using hg)).1; have := hbb.out; omega) (by have := hb.out.size; have := HBI.out; omega))).trans (hset.toBelow (fun g hg => by rw [List.mem_singleton.1 hg]; exact Nat.le_refl _) (by have := hb.out.size; have := HF6.out.size; have := HBI.out; omega)))
      have hs7 : base ≤ (w6.setCell ⟨bI, 3, none⟩ (.slice A6 (j + 1) c6)).heap.size := by have := hset.size; have := HF6.out.size; have := hbs.out; omega
      have HW7 : Hid (wq.heap.size ≤ (w6.setCell ⟨bI, 3, none⟩ (.slice A6 (j + 1) c6)).heap.size) := hide (by have := hset.size; have := HF6.out.size; omega)
      obtain ⟨w7, hw7⟩ : ∃ z, w6.setCell ⟨bI, 3, none⟩ (.slice A6 (j + 1) c6) = z := ⟨_, rfl⟩
      rw [hw7] at HI7 HV7 HRv7 HB7 hs7 HW7 ⊢
      clear hw7 hset hnot HI6 HV6 HRv6 HF6 hAv hI
      have HO8 := hide (HRv7.out.alloc (.cells #[.int .i64 t] 24))
      have hs8 : base ≤ (w7.alloc (.cells #[.int .i64 t] 24)).heap.size := by simp; omega
      go_wp2_with (refine wpList_append_rd _ rfl _ _ 25 rfl base 24 .i64 8 tysE9 _ _ rfl HO8.out _ [t] rfl (rd_one _ _ _) ?b2 ?b3 hs8 ?_)
      case b2 => rw [HLR.out]; simp only [List.length_singleton]; omega
      case b3 => rw [HLR.out]; simp only [List.length_singleton]; unfold maxLen; omega
      rintro v9 w9 ho hg hbl hw9
      have f19 : Frm w7 w9 (Value.slice Ar j cr).ownBlock.toList := ((Frm.refl w7 _).alloc _).trans (Frm.grown hg)
      have hnb : bI ∉ (Value.slice Ar j cr).ownBlock.toList := fun h => by have := (HRv7.out.size bI (by simpa using h)).1; have := hbb.out; omega
      have HI9 := hide (HI7.out.frm f19 hnb)
      have HR9 : Hid (Own w9 base 24 .i64 v9 (ts.take (j + 1))) := hide (by rw [HNX.out]; exact ho)
      have hne7 : ∀ g, (Value.slice A6 (j + 1) c6).ownBlock = some g → (Value.slice Ar j cr).ownBlock ≠ some g := fun g h h2 => by
        rcases HW6.out g h with h1 | h1
        · exact hne.out g h1 h2
        · have := (hRv.out.size g h2).2
          omega
      have HV9 : Hid (Own w9 base 3 .i64 (.slice A6 (j + 1) c6) (ups (j + 1))) := hide (by rw [ups_succ]; exact HV7.out.frm9 f19 (fun g hg' hm => hne7 g hg' (by simpa using hm)))
      have HN9 : Hid (∀ g, (Value.slice A6 (j + 1) c6).ownBlock = some g → v9.ownBlock ≠ some g) := hide (fun g h h2 => by
        rcases hw9 with h1 | h1
        · exact hne7 g h (by rw [← h1]; exact h2)
        · rw [h1] at h2
          have h4 := Option.some.inj h2
          have := (HV7.out.size g h).2
          omega)
      have HB9 : Hid (Below bI w1 w9) := hide (HB7.out.trans (f19.toBelow (fun g hg => by have := (HRv7.out.size g (by simpa using hg)).1; have := hbb.out; omega) (by have := HB7.out.size; have := HBI.out; omega)))
      have HS9 : Hid (base ≤ w9.heap.size) := hide (by have := f19.size; omega)
      clear ho hg hbl hw9 f19 hnb hne7 hs8 HO8 hs7
      go_wp2_with fail
      go_roundw
      case rel => exact ⟨j + 1, _, v9, by omega, rfl, by go_num, HV9, HR9, HN9, HI9, HS9, HB9⟩
      case measure => simp [intOf]; omega
    · have hjl : j = ts.length := by omega
      have htk : ts.take j = ts := List.take_of_length_le (by omega)
      rw [htk] at hRv
      obtain rfl := hjl
      have HA' := hide (HA.out.below hb.out (by have := hwI.out; omega))
      have HM' := hide (HM.out.below hb.out (by have := hwI.out; omega))
      have HBW := hide hbw
      clear htk hbw hla hlr hlt hj
      go_upto_region 15 with fail
      have hfz : Frm wq (wq.alloc (.cells #[.int .i64 ty] 24)).drew [] := ((Frm.refl wq []).alloc _).trans (Frm.drew _ _)
      have hO2 := hide (hRv.out.toV.frm hfz (fun _ _ => by simp))
      have HAFT : Hid (∀ v' w5, OwnV w5 base 24 v' (ts.map (Value.int .i64) ++ [.int .i64 ty]) → Frm (wq.alloc (.cells #[.int .i64 ty] 24)).drew w5 (Value.slice Ar ts.length cr).ownBlock.toList →
          ∃ A5 c5, v' = .slice A5 (ts.length + 1) c5 ∧ (w5.cell? ⟨w.heap.size, 1, none⟩ = some (.int .i64 ty) ∧ w5.cell? ⟨w.heap.size + 1, 0, none⟩ = some (.slice GA gn gc) ∧ w5.cell? ⟨w.heap.size + 1, 1, none⟩ = some (.slice FA fs.length fc) ∧
            w5.cell? ⟨bI, 0, none⟩ = some (.int .i64 33) ∧ w5.cell? ⟨bI, 1, none⟩ = some (.int .i64 ty) ∧ w5.cell? ⟨bI, 2, none⟩ = some (.int .i64 (ts.length : Int)) ∧ w5.cell? ⟨bI, 3, none⟩ = some (.slice Aa ts.length ca) ∧ w5.cell? ⟨bI, 4, none⟩ = some (.int .i64 n) ∧ w5.cell? ⟨bI, 5, none⟩ = some (.int .i64 0) ∧ w5.cell? ⟨bI, 6, none⟩ = some (.int .i64 0) ∧ w5.cell? ⟨bI, 7, none⟩ = some (.bool false)) ∧
            Hid (Calls Tryd.prog 41 #[.agg #[.int .i64 33, .int .i64 ty, .int .i64 (ts.length : Int), .slice Aa ts.length ca, .int .i64 n, .int .i64 0, .int .i64 0, .bool false], .agg #[.string ⟨#[]⟩, .slice none 0 0, .int .i64 0, .slice A5 (ts.length + 1) c5, .slice none 0 0], .agg #[.slice GA gn gc, .slice FA fs.length fc]] w5 fun e w' =>
              e = .returned (.int .i64 (checkM 33 ty ts.length n 0 0 false (ups ts.length) (ts ++ [ty]) gn fs.length)) ∧ Below w.heap.size w w' ∧ (w'.cell? ⟨w.heap.size, 1, none⟩ = some (.int .i64 ty) ∧ w'.cell? ⟨w.heap.size + 1, 0, none⟩ = some (.slice GA gn gc) ∧ w'.cell? ⟨w.heap.size + 1, 1, none⟩ = some (.slice FA fs.length fc) ∧ w'.cell? ⟨bI, 0, none⟩ = some (.int .i64 33) ∧ w'.cell? ⟨bI, 1, none⟩ = some (.int .i64 ty) ∧ w'.cell? ⟨bI, 2, none⟩ = some (.int .i64 (ts.length : Int)) ∧ w'.cell? ⟨bI, 3, none⟩ = some (.slice Aa ts.length ca) ∧ w'.cell? ⟨bI, 4, none⟩ = some (.int .i64 n) ∧ w'.cell? ⟨bI, 5, none⟩ = some (.int .i64 0) ∧ w'.cell? ⟨bI, 6, none⟩ = some (.int .i64 0) ∧ w'.cell? ⟨bI, 7, none⟩ = some (.bool false)))) := hide (by
        intro v' w5 ho5 hf5
        have f05 : Frm wq w5 (Value.slice Ar ts.length cr).ownBlock.toList := (hfz.mono (fun g hg => by cases hg)).trans hf5
        have nI : bI ∉ (Value.slice Ar ts.length cr).ownBlock.toList := fun h => by have := (hRv.out.size bI (by simpa using h)).1; have := hbb.out; omega
        have nA : w.heap.size ∉ (Value.slice Ar ts.length cr).ownBlock.toList := fun h => by have := (hRv.out.size _ (by simpa using h)).1; have := hbb.out; have := hwI.out; omega
        have nM : w.heap.size + 1 ∉ (Value.slice Ar ts.length cr).ownBlock.toList := fun h => by have := (hRv.out.size _ (by simpa using h)).1; have := hbb.out; have := hwI.out; omega
        have hI5 := hI.out.frm f05 nI
        have hA5 := HA'.out.frm f05 nA
        have hM5 := HM'.out.frm f05 nM
        have hb15 : Below bI w1 w5 := hb.out.trans (f05.toBelow (fun g hg => by have := (hRv.out.size g (by simpa using hg)).1; have := hbb.out; omega) (by have := hb.out.size; have := HBI.out; omega))
        have hbw5 : Below w.heap.size w w5 := HB.out.trans (hb15.mono (by have := HB.out.size; have := HBI.out; omega))
        have hav5 := (hAv.out.frm9 f05 (fun g hg hm => hne.out g hg (by simpa using hm))).rd
        have er9 : ts.map (Value.int .i64) ++ [.int .i64 ty] = (ts ++ [ty]).map (Value.int .i64) := by simp
        rw [er9] at ho5
        have hrv5 : Rd w5 .i64 v' (ts ++ [ty]) := (ho5.toI).rd
        obtain ⟨A5, c5, e5, -⟩ := id hrv5
        have hln : (ts ++ [ty]).length = ts.length + 1 := by simp
        rw [hln] at e5
        subst e5
        refine ⟨A5, c5, rfl, ⟨hA5.cell 1, hM5.cell 0, hM5.cell 1, hI5.cell 0, hI5.cell 1, hI5.cell 2, hI5.cell 3, hI5.cell 4, hI5.cell 5, hI5.cell 6, hI5.cell 7⟩, hide ?_⟩
        have hav6 : Rd w5 .i64 (.slice Aa (ups ts.length).length ca) (ups ts.length) := by rw [ups_len]; exact hav5
        have hrv6 : Rd w5 .i64 (.slice A5 (ts ++ [ty]).length c5) (ts ++ [ty]) := by rw [hln]; exact hrv5
        have hC := check_any 33 ty ts.length n 0 0 Aa A5 GA FA ca c5 gn gc fc fs (ups ts.length) (ts ++ [ty]) (by rw [ups_len]; omega) false (.string ⟨#[]⟩) (.slice none 0 0) (.slice none 0 0) 0 w5 (HT.out.below hbw5) (HO.out.below hbw5) hav6 hrv6 (HF.out.below hbw5)
        rw [ups_len, hln] at hC
        refine hC.mono ?_
        rintro e w' ⟨rfl, hbe⟩
        exact ⟨by unfold checkA; rw [if_neg (by omega)], Below.all hbw5 hbe, cell_below hbe (hA5.cell 1), cell_below hbe (hM5.cell 0), cell_below hbe (hM5.cell 1), cell_below hbe (hI5.cell 0), cell_below hbe (hI5.cell 1), cell_below hbe (hI5.cell 2), cell_below hbe (hI5.cell 3), cell_below hbe (hI5.cell 4), cell_below hbe (hI5.cell 5), cell_below hbe (hI5.cell 6), cell_below hbe (hI5.cell 7)⟩)
      have S0 : Frm wq (wq.alloc (.cells #[.int .i64 ty] 24)).drew [] := hfz
      have q1 : wq.cell? ⟨w.heap.size, 1, none⟩ = some (.int .i64 ty) := HA'.out.cell 1
      have hone : ∀ x ∈ [Value.int .i64 ty], x.oneCell' = true := by intro x hx; rw [List.mem_singleton] at hx; subst hx; rfl
      have hby : ((ts.map (Value.int .i64)).length + [Value.int .i64 ty].length) * 8 ≤ 140737488355328 := by rw [List.length_map, List.length_singleton]; omega
      have hml : (ts.map (Value.int .i64)).length + [Value.int .i64 ty].length ≤ maxLen := by rw [List.length_map, List.length_singleton]; unfold maxLen; omega
      have hB2 : base ≤ (wq.alloc (.cells #[.int .i64 ty] 24)).drew.heap.size := by have := hbs.out; have := S0.size; omega
      have K0 : (wq.cell? ⟨w.heap.size, 1, none⟩ = some (.int .i64 ty) ∧ wq.cell? ⟨w.heap.size + 1, 0, none⟩ = some (.slice GA gn gc) ∧ wq.cell? ⟨w.heap.size + 1, 1, none⟩ = some (.slice FA fs.length fc) ∧
            wq.cell? ⟨bI, 0, none⟩ = some (.int .i64 33) ∧ wq.cell? ⟨bI, 1, none⟩ = some (.int .i64 ty) ∧ wq.cell? ⟨bI, 2, none⟩ = some (.int .i64 (ts.length : Int)) ∧ wq.cell? ⟨bI, 3, none⟩ = some (.slice Aa ts.length ca) ∧ wq.cell? ⟨bI, 4, none⟩ = some (.int .i64 n) ∧ wq.cell? ⟨bI, 5, none⟩ = some (.int .i64 0) ∧ wq.cell? ⟨bI, 6, none⟩ = some (.int .i64 0) ∧ wq.cell? ⟨bI, 7, none⟩ = some (.bool false)) :=
        ⟨HA'.out.cell 1, HM'.out.cell 0, HM'.out.cell 1, hI.out.cell 0, hI.out.cell 1, hI.out.cell 2, hI.out.cell 3, hI.out.cell 4, hI.out.cell 5, hI.out.cell 6, hI.out.cell 7⟩
      have K1 : ((wq.alloc (.cells #[.int .i64 ty] 24)).drew.cell? ⟨w.heap.size, 1, none⟩ = some (.int .i64 ty) ∧ (wq.alloc (.cells #[.int .i64 ty] 24)).drew.cell? ⟨w.heap.size + 1, 0, none⟩ = some (.slice GA gn gc) ∧ (wq.alloc (.cells #[.int .i64 ty] 24)).drew.cell? ⟨w.heap.size + 1, 1, none⟩ = some (.slice FA fs.length fc) ∧
            (wq.alloc (.cells #[.int .i64 ty] 24)).drew.cell? ⟨bI, 0, none⟩ = some (.int .i64 33) ∧ (wq.alloc (.cells #[.int .i64 ty] 24)).drew.cell? ⟨bI, 1, none⟩ = some (.int .i64 ty) ∧ (wq.alloc (.cells #[.int .i64 ty] 24)).drew.cell? ⟨bI, 2, none⟩ = some (.int .i64 (ts.length : Int)) ∧ (wq.alloc (.cells #[.int .i64 ty] 24)).drew.cell? ⟨bI, 3, none⟩ = some (.slice Aa ts.length ca) ∧ (wq.alloc (.cells #[.int .i64 ty] 24)).drew.cell? ⟨bI, 4, none⟩ = some (.int .i64 n) ∧ (wq.alloc (.cells #[.int .i64 ty] 24)).drew.cell? ⟨bI, 5, none⟩ = some (.int .i64 0) ∧ (wq.alloc (.cells #[.int .i64 ty] 24)).drew.cell? ⟨bI, 6, none⟩ = some (.int .i64 0) ∧ (wq.alloc (.cells #[.int .i64 ty] 24)).drew.cell? ⟨bI, 7, none⟩ = some (.bool false)) :=
        ⟨(HA'.out.frm S0 (by simp)).cell 1, (HM'.out.frm S0 (by simp)).cell 0, (HM'.out.frm S0 (by simp)).cell 1, (hI.out.frm S0 (by simp)).cell 0, (hI.out.frm S0 (by simp)).cell 1, (hI.out.frm S0 (by simp)).cell 2, (hI.out.frm S0 (by simp)).cell 3, (hI.out.frm S0 (by simp)).cell 4, (hI.out.frm S0 (by simp)).cell 5, (hI.out.frm S0 (by simp)).cell 6, (hI.out.frm S0 (by simp)).cell 7⟩
      have cc := K0
      clear S0 hfz
      go_region_held3 (fun w' => w'.cell? ⟨w.heap.size, 1, none⟩ = some (.int .i64 ty) ∧ w'.cell? ⟨w.heap.size + 1, 0, none⟩ = some (.slice GA gn gc) ∧ w'.cell? ⟨w.heap.size + 1, 1, none⟩ = some (.slice FA fs.length fc) ∧
            w'.cell? ⟨bI, 0, none⟩ = some (.int .i64 33) ∧ w'.cell? ⟨bI, 1, none⟩ = some (.int .i64 ty) ∧ w'.cell? ⟨bI, 2, none⟩ = some (.int .i64 (ts.length : Int)) ∧ w'.cell? ⟨bI, 3, none⟩ = some (.slice Aa ts.length ca) ∧ w'.cell? ⟨bI, 4, none⟩ = some (.int .i64 n) ∧ w'.cell? ⟨bI, 5, none⟩ = some (.int .i64 0) ∧ w'.cell? ⟨bI, 6, none⟩ = some (.int .i64 0) ∧ w'.cell? ⟨bI, 7, none⟩ = some (.bool false)) (first | exact cc | exact K0 | exact K1) (first
        | (refine step_append_v rfl (.tmp 54) (.tmp 57) 25 rfl base 24 (.int .i64 0) 8 tysV9 (.slice Ar ts.length cr) (ts.map (Value.int .i64)) (by simp [Act.eval]) hO2.out (.slice (some ⟨wq.heap.size, 0, none⟩) 1 1) [.int .i64 ty] (by simp [Act.eval]) (rdv_one9 _ _ _) hone hby hml hB2 ?_; intro v' w5 ho5 hf5 hb5; obtain ⟨A5, c5, rfl, c6, HP⟩ := HAFT.out v' w5 ho5 hf5; replace cc := c6; clear ho5 hf5 hb5 c6)
        | (go_at_call 41; refine HP.out.mono ?_; rintro en w7 ⟨rfl, hb7, hc7⟩; have HZ := hide hb7; replace cc := hc7; clear hb7 hc7 HP))
      all_goals
        clear cc K0 K1 q1
        go_wp2_with fail
        go_ret
        exact ⟨rfl, HZ.out⟩
set_option maxRecDepth 100000 in
set_option maxHeartbeats 8000000 in
theorem ct_op (op ty n : Int) (A : Option Addr) (c : Nat) (ts : List Int) (hk : ts.length ≤ 4) (GA FA : Option Addr) (gn gc fc : Nat) (fs : List FD) (g25 : (op == 25) = false) (g1 : (op == 1) = false) (g33 : (op == 33) = false) (c30 : ¬ op = 30) (w : World) (hT : Tab w) (hO : OpTab w) (hl : Rd w .i64 (.slice A ts.length c) ts) (hF : FnsAt w FA fs) :
    Calls Tryd.prog 26 #[.agg #[.int .i64 op, .int .i64 ty, .int .i64 n], .slice A ts.length c, .agg #[.slice GA gn gc, .slice FA fs.length fc]] w fun e w' => e = .returned (.int .i64 (checkM op ty ts.length 0 0 0 false (ups ts.length) (ts ++ [ty]) gn fs.length)) ∧ Below w.heap.size w w' := by
  have HT := hide hT
  have HO := hide hO
  have HL := hide hl
  have HF := hide hF
  have hc9 : c ≤ 9223372036854775807 := by
    obtain ⟨_, _, e1, _, hm, -⟩ := id hl
    injection e1 with _ _ e1
    unfold maxLen at hm
    omega
  obtain ⟨w1, hw1⟩ : ∃ z, (w.alloc (.cells #[.int .i64 op, .int .i64 ty, .int .i64 n] 40)).alloc (.cells #[.slice GA gn gc, .slice FA fs.length fc] 32) = z := ⟨_, rfl⟩
  have HB : Hid (Below w.heap.size w w1) := hide (by rw [← hw1]; exact ((Below.refl _ _).alloc (Nat.le_refl _) _).alloc (by simp) _)
  have HA : Hid (Whole w1 w.heap.size 40 #[.int .i64 op, .int .i64 ty, .int .i64 n]) := hide (by rw [← hw1]; exact (Whole.new w _ _).alloc _)
  have HM : Hid (Whole w1 (w.heap.size + 1) 32 #[.slice GA gn gc, .slice FA fs.length fc]) := hide (by
    rw [← hw1, show w.heap.size + 1 = (w.alloc (.cells #[.int .i64 op, .int .i64 ty, .int .i64 n] 40)).heap.size by simp]; exact Whole.new _ _ _)
  have p0 : w1.cell? ⟨w.heap.size, 0, none⟩ = some (.int .i64 op) := HA.out.cell 0
  have p1 : w1.cell? ⟨w.heap.size, 1, none⟩ = some (.int .i64 ty) := HA.out.cell 1
  have hi8 : (Tryd.prog.info? 78).map (·.size) = some 8 := by kernel_rfl
  have HI8 := hide hi8
  clear hT hO hl hF hi8
  go_enter Tryd.func26, Tryd.ntmps26
  go_upto_region 1 with fail
  clear hw1
  refine wp_region_lit ?_
  go_step; go_step; go_step
  go_step; go_step; go_step
  go_step; go_step; go_step
  go_step; go_step; go_step
  go_step; go_step; go_step
  go_step; go_step; go_step
  refine wpList_build_g (by rfl) _ _ rfl (instC op ty ts.length 0 0 (.slice none 0 0)).toList (by kernel_rfl) ?_
  go_step; go_step; go_step
  refine wpList_store_new (by rfl) _ _ _ rfl _ _ (instC op ty ts.length 0 0 (.slice none 0 0)).toList (by rfl) (by rfl) (by rfl) HI8.out (instC_all _ _ _ _ _ _ _ _) ?_
  obtain ⟨bI, hbI⟩ : ∃ bI, w1.heap.size = bI := ⟨_, rfl⟩
  rw [hbI]
  obtain ⟨w3, hw3⟩ : ∃ z, w1.alloc (.cells (instC op ty ts.length 0 0 (.slice none 0 0)) 78) = z := ⟨_, rfl⟩
  have HI : Hid (Whole w3 bI 78 (instC op ty ts.length 0 0 (.slice none 0 0))) := hide (by rw [← hw3, ← hbI]; exact Whole.new w1 _ _)
  have HB3 : Hid (Below bI w1 w3) := hide (by rw [← hw3, ← hbI]; exact (Below.refl _ _).alloc (Nat.le_refl _) _)
  have HBI := hide hbI
  have p0' : w3.cell? ⟨w.heap.size, 0, none⟩ = some (.int .i64 op) := (HB3.out.cell (p := ⟨w.heap.size, 0, none⟩) (by show w.heap.size < bI; have := HA.out.lt; omega)).trans p0
  have p2' : w3.cell? ⟨w.heap.size, 2, none⟩ = some (.int .i64 n) := (HB3.out.cell (p := ⟨w.heap.size, 2, none⟩) (by show w.heap.size < bI; have := HA.out.lt; omega)).trans (HA.out.cell 2)
  have i4 : w3.cell? ⟨bI, 4, none⟩ = some (.int .i64 0) := HI.out.cell 4
  have i5 : w3.cell? ⟨bI, 5, none⟩ = some (.int .i64 0) := HI.out.cell 5
  have f4 : w3.frozen? ⟨bI, 4, none⟩ = false := HI.out.free 4
  have f5 : w3.frozen? ⟨bI, 5, none⟩ = false := HI.out.free 5
  rw [show w1.alloc (.cells (instC op ty ts.length 0 0 (.slice none 0 0)).toList.toArray 78) = w3 from hw3]
  clear hw3 hbI p0 p1
  go_upto_region 8 with fail
  obtain ⟨w4, hw4⟩ : ∃ z, w3 = z := ⟨_, rfl⟩
  have HI4 := HI
  have HB4 := HB3
  rw [hw4] at HI4 HB4 ⊢
  clear hw4 HI HB3
  clear p0' p2' i4 i5 f4 f5
  have hmk := fun W => run_make0 (P := Tryd.prog) W 25 24 .i64 8 tysE9 ((ts.length : Int) + 1) (by omega) (by omega) (by omega)
  go_upto_region 9 with fail
  clear hmk
  obtain ⟨w5, hw5⟩ : ∃ z, w4.alloc (.cells (madeCells #[.int .i64 0] (ts.length + 1)) 24) = z := ⟨_, rfl⟩
  obtain ⟨base, hbase⟩ : ∃ b, w4.heap.size = b := ⟨_, rfl⟩
  have HRv : Hid (Own w5 base 24 .i64 (.slice (some ⟨base, 0, none⟩) 0 (ts.length + 1)) (ts.take 0)) := hide (by rw [← hw5, ← hbase]; exact own_made w4 _ _ _ _ (by unfold maxLen; omega) (Nat.le_refl _))
  have b45 : Below w4.heap.size w4 w5 := by rw [← hw5]; exact (Below.refl _ _).alloc (Nat.le_refl _) _
  have HI5 := hide (HI4.out.below' b45)
  have HB5 : Hid (Below bI w1 w5) := hide (HB4.out.trans (b45.mono (by have := HB4.out.size; have := HBI.out; omega)))
  have hbb : Hid (bI < base) := hide (by rw [← hbase]; exact HI4.out.lt)
  rw [hw5, hbase]
  clear hw5 b45 hbase HI4 HB4
  go_wp2_with fail
  go_loopw [8, 37] (fun p z wr => ∃ (j : Nat) (av rv : Value), j ≤ ts.length ∧ p = rv ∧ z = .int .i64 j ∧ Hid (Own wr base 3 .i64 av (ups j)) ∧ Hid (Own wr base 24 .i64 rv (ts.take j)) ∧ Hid (∀ g, av.ownBlock = some g → rv.ownBlock ≠ some g) ∧ Hid (Whole wr bI 78 (instC op ty ts.length 0 0 av)) ∧ Hid (base ≤ wr.heap.size) ∧ Hid (Below bI w1 wr)) (fun _ z _ => ts.length - (intOf z).toNat)
  case atStart => exact ⟨0, .slice none 0 0, _, Nat.zero_le _, rfl, rfl, hide Own.nil, HRv, hide (fun g hg => by simp [Value.ownBlock] at hg), HI5, hide (by have := (HRv.out.size base rfl).2; omega), HB5⟩
  case round =>
    clear HRv HI5 HB5
    obtain ⟨wq, rfl⟩ : ∃ x, x = wr := ⟨_, rfl⟩
    obtain ⟨j, av, rv, hj, rfl, rfl, hAv, hRv, hne, hI, hbs, hb⟩ := hrel
    obtain ⟨Aa, ca, ea, hca, hma, -⟩ := id hAv.out.rd
    obtain ⟨Ar, cr, er, hcr, hmr, -⟩ := id hRv.out.rd
    have hla : (ups j).length = j := ups_len j
    have hlr : (ts.take j).length = j := by rw [List.length_take]; omega
    rw [hla] at ea hca
    rw [hlr] at er hcr
    subst ea
    subst er
    have hca9 : ca ≤ 9223372036854775807 := by unfold maxLen at hma; omega
    have hcr9 : cr ≤ 9223372036854775807 := by unfold maxLen at hmr; omega
    have hbw : Below w.heap.size w wq := HB.out.trans (hb.out.mono (by have := HB.out.size; have := HBI.out; omega))
    have hwI : Hid (w.heap.size + 1 < bI) := hide (by have := HM.out.lt; have := HBI.out; omega)
    clear hma hmr
    by_cases hlt : j < ts.length
    · obtain ⟨t, ht⟩ : ∃ t, ts[j]? = some t := ⟨_, List.getElem?_eq_getElem hlt⟩
      obtain ⟨b8, o8, e8, hb8, hc8⟩ := (HL.out.below' hbw).toV.at j (.int .i64 t) (by rw [List.getElem?_map, ht]; rfl)
      subst e8
      have hnx : ts.take (j + 1) = ts.take j ++ [t] := by rw [List.take_succ_eq_append_getElem hlt, (List.getElem?_eq_some_iff.1 ht).2]
      have HNX := hide hnx
      have c3 : wq.cell? ⟨bI, 3, none⟩ = some (.slice Aa j ca) := hI.out.cell 3
      have HO5 := hide (hAv.out.alloc (.cells #[.int .i64 (j : Int)] 3))
      have hs5 : base ≤ (wq.alloc (.cells #[.int .i64 (j : Int)] 3)).heap.size := by have := hbs.out; simp; omega
      have HLA := hide hla
      have HLR := hide hlr
      clear ht hnx hb8 hbw hla hlr
      go_upto_region 12 with fail
      clear hc8
      go_wp2_with (refine wpList_append_rd _ rfl _ _ 23 rfl base 3 .i64 8 intsE9 _ _ rfl HO5.out _ [(j : Int)] rfl (rd_one _ _ _) ?b0 ?b1 hs5 ?_)
      case b0 => rw [HLA.out]; simp only [List.length_singleton]; omega
      case b1 => rw [HLA.out]; simp only [List.length_singleton]; unfold maxLen; omega
      rintro v' w6 ho hg hbl hw6
      have f16 : Frm wq w6 (Value.slice Aa j ca).ownBlock.toList := ((Frm.refl wq _).alloc _).trans (Frm.grown hg)
      have hnb : bI ∉ (Value.slice Aa j ca).ownBlock.toList := fun h => by have := (hAv.out.size bI (by simpa using h)).1; have := hbb.out; omega
      have HI6 := hide (hI.out.frm f16 hnb)
      have HV6 := hide ho
      have HRv6 := hide (hRv.out.frm9 f16 (fun g hg' hm => hne.out g (by simpa using hm) hg'))
      have HF6 := hide f16
      have HW6 : Hid (∀ g, v'.ownBlock = some g → (Value.slice Aa j ca).ownBlock = some g ∨ wq.heap.size ≤ g) := hide (fun g h => by
        rcases hw6 with h1 | h1
        · exact .inl (by rw [← h1]; exact h)
        · right
          rw [h1] at h
          injection h with h
          rw [← h]
          simp)
      have c3' : w6.cell? ⟨bI, 3, none⟩ = some (.slice Aa j ca) := HI6.out.cell 3
      have f3' : w6.frozen? ⟨bI, 3, none⟩ = false := HI6.out.free 3
      clear ho hg hbl hw6 f16 hnb c3 hs5 HO5
      obtain ⟨A6, c6, e6, -, hm6, -⟩ := id HV6.out.rd
      have hc69 : c6 ≤ 9223372036854775807 := by unfold maxLen at hm6; omega
      have hl6 : (ups j ++ [(j : Int)]).length = j + 1 := by rw [List.length_append, ups_len]; rfl
      rw [hl6] at e6
      subst e6
      clear hm6 hl6
      go_upto_region 13 with fail
      clear c3' f3'
      have HI7 : Hid (Whole (w6.setCell ⟨bI, 3, none⟩ (.slice A6 (j + 1) c6)) bI 78 (instC op ty ts.length 0 0 (.slice A6 (j + 1) c6))) := hide (HI6.out.set 3 _)
      have hset : Frm w6 (w6.setCell ⟨bI, 3, none⟩ (.slice A6 (j + 1) c6)) [bI] := (Frm.refl w6 [bI]).setCell _ _ (.inl (by simp))
      have hnot : ∀ {g : Nat}, base ≤ g → g ∉ [bI] := fun h hm => by have := hbb.out; rw [List.mem_singleton] at hm; omega
      have HV7 := hide (HV6.out.frm9 hset (fun g hg => hnot (HV6.out.size g hg).1))
      have HRv7 := hide (HRv6.out.frm9 hset (fun g hg => hnot (HRv6.out.size g hg).1))
      have HB7 : Hid (Below bI w1 (w6.setCell ⟨bI, 3, none⟩ (.slice A6 (j + 1) c6))) := hide ((hb.out.trans (HF6.out.toBelow (B := bI) (fun g hg => by have := (hAv.out.size g (by simpa using hg)).1; have := hbb.out; omega) (by have := hb.out.size; have := HBI.out; omega))).trans (hset.toBelow (fun g hg => by rw [List.mem_singleton.1 hg]; exact Nat.le_refl _) (by have := hb.out.size; have := HF6.out.size; have := HBI.out; omega)))
      have hs7 : base ≤ (w6.setCell ⟨bI, 3, none⟩ (.slice A6 (j + 1) c6)).heap.size := by have := hset.size; have := HF6.out.size; have := hbs.out; omega
      have HW7 : Hid (wq.heap.size ≤ (w6.setCell ⟨bI, 3, none⟩ (.slice A6 (j + 1) c6)).heap.size) := hide (by have := hset.size; have := HF6.out.size; omega)
      obtain ⟨w7, hw7⟩ : ∃ z, w6.setCell ⟨bI, 3, none⟩ (.slice A6 (j + 1) c6) = z := ⟨_, rfl⟩
      rw [hw7] at HI7 HV7 HRv7 HB7 hs7 HW7 ⊢
      clear hw7 hset hnot HI6 HV6 HRv6 HF6 hAv hI
      have HO8 := hide (HRv7.out.alloc (.cells #[.int .i64 t] 24))
      have hs8 : base ≤ (w7.alloc (.cells #[.int .i64 t] 24)).heap.size := by simp; omega
      go_wp2_with (refine wpList_append_rd _ rfl _ _ 25 rfl base 24 .i64 8 tysE9 _ _ rfl HO8.out _ [t] rfl (rd_one _ _ _) ?b2 ?b3 hs8 ?_)
      case b2 => rw [HLR.out]; simp only [List.length_singleton]; omega
      case b3 => rw [HLR.out]; simp only [List.length_singleton]; unfold maxLen; omega
      rintro v9 w9 ho hg hbl hw9
      have f19 : Frm w7 w9 (Value.slice Ar j cr).ownBlock.toList := ((Frm.refl w7 _).alloc _).trans (Frm.grown hg)
      have hnb : bI ∉ (Value.slice Ar j cr).ownBlock.toList := fun h => by have := (HRv7.out.size bI (by simpa using h)).1; have := hbb.out; omega
      have HI9 := hide (HI7.out.frm f19 hnb)
      have HR9 : Hid (Own w9 base 24 .i64 v9 (ts.take (j + 1))) := hide (by rw [HNX.out]; exact ho)
      have hne7 : ∀ g, (Value.slice A6 (j + 1) c6).ownBlock = some g → (Value.slice Ar j cr).ownBlock ≠ some g := fun g h h2 => by
        rcases HW6.out g h with h1 | h1
        · exact hne.out g h1 h2
        · have := (hRv.out.size g h2).2
          omega
      have HV9 : Hid (Own w9 base 3 .i64 (.slice A6 (j + 1) c6) (ups (j + 1))) := hide (by rw [ups_succ]; exact HV7.out.frm9 f19 (fun g hg' hm => hne7 g hg' (by simpa using hm)))
      have HN9 : Hid (∀ g, (Value.slice A6 (j + 1) c6).ownBlock = some g → v9.ownBlock ≠ some g) := hide (fun g h h2 => by
        rcases hw9 with h1 | h1
        · exact hne7 g h (by rw [← h1]; exact h2)
        · rw [h1] at h2
          have h4 := Option.some.inj h2
          have := (HV7.out.size g h).2
          omega)
      have HB9 : Hid (Below bI w1 w9) := hide (HB7.out.trans (f19.toBelow (fun g hg => by have := (HRv7.out.size g (by simpa using hg)).1; have := hbb.out; omega) (by have := HB7.out.size; have := HBI.out; omega)))
      have HS9 : Hid (base ≤ w9.heap.size) := hide (by have := f19.size; omega)
      clear ho hg hbl hw9 f19 hnb hne7 hs8 HO8 hs7
      go_wp2_with fail
      go_roundw
      case rel => exact ⟨j + 1, _, v9, by omega, rfl, by go_num, HV9, HR9, HN9, HI9, HS9, HB9⟩
      case measure => simp [intOf]; omega
    · have hjl : j = ts.length := by omega
      have htk : ts.take j = ts := List.take_of_length_le (by omega)
      rw [htk] at hRv
      obtain rfl := hjl
      have HA' := hide (HA.out.below hb.out (by have := hwI.out; omega))
      have HM' := hide (HM.out.below hb.out (by have := hwI.out; omega))
      have HBW := hide hbw
      clear htk hbw hla hlr hlt hj
      go_upto_region 15 with fail
      have hfz : Frm wq (wq.alloc (.cells #[.int .i64 ty] 24)).drew [] := ((Frm.refl wq []).alloc _).trans (Frm.drew _ _)
      have hO2 := hide (hRv.out.toV.frm hfz (fun _ _ => by simp))
      have HAFT : Hid (∀ v' w5, OwnV w5 base 24 v' (ts.map (Value.int .i64) ++ [.int .i64 ty]) → Frm (wq.alloc (.cells #[.int .i64 ty] 24)).drew w5 (Value.slice Ar ts.length cr).ownBlock.toList →
          ∃ A5 c5, v' = .slice A5 (ts.length + 1) c5 ∧ (w5.cell? ⟨w.heap.size, 1, none⟩ = some (.int .i64 ty) ∧ w5.cell? ⟨w.heap.size + 1, 0, none⟩ = some (.slice GA gn gc) ∧ w5.cell? ⟨w.heap.size + 1, 1, none⟩ = some (.slice FA fs.length fc) ∧
            w5.cell? ⟨bI, 0, none⟩ = some (.int .i64 op) ∧ w5.cell? ⟨bI, 1, none⟩ = some (.int .i64 ty) ∧ w5.cell? ⟨bI, 2, none⟩ = some (.int .i64 (ts.length : Int)) ∧ w5.cell? ⟨bI, 3, none⟩ = some (.slice Aa ts.length ca) ∧ w5.cell? ⟨bI, 4, none⟩ = some (.int .i64 0) ∧ w5.cell? ⟨bI, 5, none⟩ = some (.int .i64 0) ∧ w5.cell? ⟨bI, 6, none⟩ = some (.int .i64 0) ∧ w5.cell? ⟨bI, 7, none⟩ = some (.bool false)) ∧
            Hid (Calls Tryd.prog 41 #[.agg #[.int .i64 op, .int .i64 ty, .int .i64 (ts.length : Int), .slice Aa ts.length ca, .int .i64 0, .int .i64 0, .int .i64 0, .bool false], .agg #[.string ⟨#[]⟩, .slice none 0 0, .int .i64 0, .slice A5 (ts.length + 1) c5, .slice none 0 0], .agg #[.slice GA gn gc, .slice FA fs.length fc]] w5 fun e w' =>
              e = .returned (.int .i64 (checkM op ty ts.length 0 0 0 false (ups ts.length) (ts ++ [ty]) gn fs.length)) ∧ Below w.heap.size w w' ∧ (w'.cell? ⟨w.heap.size, 1, none⟩ = some (.int .i64 ty) ∧ w'.cell? ⟨w.heap.size + 1, 0, none⟩ = some (.slice GA gn gc) ∧ w'.cell? ⟨w.heap.size + 1, 1, none⟩ = some (.slice FA fs.length fc) ∧ w'.cell? ⟨bI, 0, none⟩ = some (.int .i64 op) ∧ w'.cell? ⟨bI, 1, none⟩ = some (.int .i64 ty) ∧ w'.cell? ⟨bI, 2, none⟩ = some (.int .i64 (ts.length : Int)) ∧ w'.cell? ⟨bI, 3, none⟩ = some (.slice Aa ts.length ca) ∧ w'.cell? ⟨bI, 4, none⟩ = some (.int .i64 0) ∧ w'.cell? ⟨bI, 5, none⟩ = some (.int .i64 0) ∧ w'.cell? ⟨bI, 6, none⟩ = some (.int .i64 0) ∧ w'.cell? ⟨bI, 7, none⟩ = some (.bool false)))) := hide (by
        intro v' w5 ho5 hf5
        have f05 : Frm wq w5 (Value.slice Ar ts.length cr).ownBlock.toList := (hfz.mono (fun g hg => by cases hg)).trans hf5
        have nI : bI ∉ (Value.slice Ar ts.length cr).ownBlock.toList := fun h => by have := (hRv.out.size bI (by simpa using h)).1; have := hbb.out; omega
        have nA : w.heap.size ∉ (Value.slice Ar ts.length cr).ownBlock.toList := fun h => by have := (hRv.out.size _ (by simpa using h)).1; have := hbb.out; have := hwI.out; omega
        have nM : w.heap.size + 1 ∉ (Value.slice Ar ts.length cr).ownBlock.toList := fun h => by have := (hRv.out.size _ (by simpa using h)).1; have := hbb.out; have := hwI.out; omega
        have hI5 := hI.out.frm f05 nI
        have hA5 := HA'.out.frm f05 nA
        have hM5 := HM'.out.frm f05 nM
        have hb15 : Below bI w1 w5 := hb.out.trans (f05.toBelow (fun g hg => by have := (hRv.out.size g (by simpa using hg)).1; have := hbb.out; omega) (by have := hb.out.size; have := HBI.out; omega))
        have hbw5 : Below w.heap.size w w5 := HB.out.trans (hb15.mono (by have := HB.out.size; have := HBI.out; omega))
        have hav5 := (hAv.out.frm9 f05 (fun g hg hm => hne.out g hg (by simpa using hm))).rd
        have er9 : ts.map (Value.int .i64) ++ [.int .i64 ty] = (ts ++ [ty]).map (Value.int .i64) := by simp
        rw [er9] at ho5
        have hrv5 : Rd w5 .i64 v' (ts ++ [ty]) := (ho5.toI).rd
        obtain ⟨A5, c5, e5, -⟩ := id hrv5
        have hln : (ts ++ [ty]).length = ts.length + 1 := by simp
        rw [hln] at e5
        subst e5
        refine ⟨A5, c5, rfl, ⟨hA5.cell 1, hM5.cell 0, hM5.cell 1, hI5.cell 0, hI5.cell 1, hI5.cell 2, hI5.cell 3, hI5.cell 4, hI5.cell 5, hI5.cell 6, hI5.cell 7⟩, hide ?_⟩
        have hav6 : Rd w5 .i64 (.slice Aa (ups ts.length).length ca) (ups ts.length) := by rw [ups_len]; exact hav5
        have hrv6 : Rd w5 .i64 (.slice A5 (ts ++ [ty]).length c5) (ts ++ [ty]) := by rw [hln]; exact hrv5
        have hC := check_any op ty ts.length 0 0 0 Aa A5 GA FA ca c5 gn gc fc fs (ups ts.length) (ts ++ [ty]) (by rw [ups_len]; omega) false (.string ⟨#[]⟩) (.slice none 0 0) (.slice none 0 0) 0 w5 (HT.out.below hbw5) (HO.out.below hbw5) hav6 hrv6 (HF.out.below hbw5)
        rw [ups_len, hln] at hC
        refine hC.mono ?_
        rintro e w' ⟨rfl, hbe⟩
        exact ⟨by unfold checkA; rw [if_neg c30], Below.all hbw5 hbe, cell_below hbe (hA5.cell 1), cell_below hbe (hM5.cell 0), cell_below hbe (hM5.cell 1), cell_below hbe (hI5.cell 0), cell_below hbe (hI5.cell 1), cell_below hbe (hI5.cell 2), cell_below hbe (hI5.cell 3), cell_below hbe (hI5.cell 4), cell_below hbe (hI5.cell 5), cell_below hbe (hI5.cell 6), cell_below hbe (hI5.cell 7)⟩)
      have S0 : Frm wq (wq.alloc (.cells #[.int .i64 ty] 24)).drew [] := hfz
      have q1 : wq.cell? ⟨w.heap.size, 1, none⟩ = some (.int .i64 ty) := HA'.out.cell 1
      have hone : ∀ x ∈ [Value.int .i64 ty], x.oneCell' = true := by intro x hx; rw [List.mem_singleton] at hx; subst hx; rfl
      have hby : ((ts.map (Value.int .i64)).length + [Value.int .i64 ty].length) * 8 ≤ 140737488355328 := by rw [List.length_map, List.length_singleton]; omega
      have hml : (ts.map (Value.int .i64)).length + [Value.int .i64 ty].length ≤ maxLen := by rw [List.length_map, List.length_singleton]; unfold maxLen; omega
      have hB2 : base ≤ (wq.alloc (.cells #[.int .i64 ty] 24)).drew.heap.size := by have := hbs.out; have := S0.size; omega
      have K0 : (wq.cell? ⟨w.heap.size, 1, none⟩ = some (.int .i64 ty) ∧ wq.cell? ⟨w.heap.size + 1, 0, none⟩ = some (.slice GA gn gc) ∧ wq.cell? ⟨w.heap.size + 1, 1, none⟩ = some (.slice FA fs.length fc) ∧
            wq.cell? ⟨bI, 0, none⟩ = some (.int .i64 op) ∧ wq.cell? ⟨bI, 1, none⟩ = some (.int .i64 ty) ∧ wq.cell? ⟨bI, 2, none⟩ = some (.int .i64 (ts.length : Int)) ∧ wq.cell? ⟨bI, 3, none⟩ = some (.slice Aa ts.length ca) ∧ wq.cell? ⟨bI, 4, none⟩ = some (.int .i64 0) ∧ wq.cell? ⟨bI, 5, none⟩ = some (.int .i64 0) ∧ wq.cell? ⟨bI, 6, none⟩ = some (.int .i64 0) ∧ wq.cell? ⟨bI, 7, none⟩ = some (.bool false)) :=
        ⟨HA'.out.cell 1, HM'.out.cell 0, HM'.out.cell 1, hI.out.cell 0, hI.out.cell 1, hI.out.cell 2, hI.out.cell 3, hI.out.cell 4, hI.out.cell 5, hI.out.cell 6, hI.out.cell 7⟩
      have K1 : ((wq.alloc (.cells #[.int .i64 ty] 24)).drew.cell? ⟨w.heap.size, 1, none⟩ = some (.int .i64 ty) ∧ (wq.alloc (.cells #[.int .i64 ty] 24)).drew.cell? ⟨w.heap.size + 1, 0, none⟩ = some (.slice GA gn gc) ∧ (wq.alloc (.cells #[.int .i64 ty] 24)).drew.cell? ⟨w.heap.size + 1, 1, none⟩ = some (.slice FA fs.length fc) ∧
            (wq.alloc (.cells #[.int .i64 ty] 24)).drew.cell? ⟨bI, 0, none⟩ = some (.int .i64 op) ∧ (wq.alloc (.cells #[.int .i64 ty] 24)).drew.cell? ⟨bI, 1, none⟩ = some (.int .i64 ty) ∧ (wq.alloc (.cells #[.int .i64 ty] 24)).drew.cell? ⟨bI, 2, none⟩ = some (.int .i64 (ts.length : Int)) ∧ (wq.alloc (.cells #[.int .i64 ty] 24)).drew.cell? ⟨bI, 3, none⟩ = some (.slice Aa ts.length ca) ∧ (wq.alloc (.cells #[.int .i64 ty] 24)).drew.cell? ⟨bI, 4, none⟩ = some (.int .i64 0) ∧ (wq.alloc (.cells #[.int .i64 ty] 24)).drew.cell? ⟨bI, 5, none⟩ = some (.int .i64 0) ∧ (wq.alloc (.cells #[.int .i64 ty] 24)).drew.cell? ⟨bI, 6, none⟩ = some (.int .i64 0) ∧ (wq.alloc (.cells #[.int .i64 ty] 24)).drew.cell? ⟨bI, 7, none⟩ = some (.bool false)) :=
        ⟨(HA'.out.frm S0 (by simp)).cell 1, (HM'.out.frm S0 (by simp)).cell 0, (HM'.out.frm S0 (by simp)).cell 1, (hI.out.frm S0 (by simp)).cell 0, (hI.out.frm S0 (by simp)).cell 1, (hI.out.frm S0 (by simp)).cell 2, (hI.out.frm S0 (by simp)).cell 3, (hI.out.frm S0 (by simp)).cell 4, (hI.out.frm S0 (by simp)).cell 5, (hI.out.frm S0 (by simp)).cell 6, (hI.out.frm S0 (by simp)).cell 7⟩
      have cc := K0
      clear S0 hfz
      go_region_held3 (fun w' => w'.cell? ⟨w.heap.size, 1, none⟩ = some (.int .i64 ty) ∧ w'.cell? ⟨w.heap.size + 1, 0, none⟩ = some (.slice GA gn gc) ∧ w'.cell? ⟨w.heap.size + 1, 1, none⟩ = some (.slice FA fs.length fc) ∧
            w'.cell? ⟨bI, 0, none⟩ = some (.int .i64 op) ∧ w'.cell? ⟨bI, 1, none⟩ = some (.int .i64 ty) ∧ w'.cell? ⟨bI, 2, none⟩ = some (.int .i64 (ts.length : Int)) ∧ w'.cell? ⟨bI, 3, none⟩ = some (.slice Aa ts.length ca) ∧ w'.cell? ⟨bI, 4, none⟩ = some (.int .i64 0) ∧ w'.cell? ⟨bI, 5, none⟩ = some (.int .i64 0) ∧ w'.cell? ⟨bI, 6, none⟩ = some (.int .i64 0) ∧ w'.cell? ⟨bI, 7, none⟩ = some (.bool false)) (first | exact cc | exact K0 | exact K1) (first
        | (refine step_append_v rfl (.tmp 54) (.tmp 57) 25 rfl base 24 (.int .i64 0) 8 tysV9 (.slice Ar ts.length cr) (ts.map (Value.int .i64)) (by simp [Act.eval]) hO2.out (.slice (some ⟨wq.heap.size, 0, none⟩) 1 1) [.int .i64 ty] (by simp [Act.eval]) (rdv_one9 _ _ _) hone hby hml hB2 ?_; intro v' w5 ho5 hf5 hb5; obtain ⟨A5, c5, rfl, c6, HP⟩ := HAFT.out v' w5 ho5 hf5; replace cc := c6; clear ho5 hf5 hb5 c6)
        | (go_at_call 41; refine HP.out.mono ?_; rintro en w7 ⟨rfl, hb7, hc7⟩; have HZ := hide hb7; replace cc := hc7; clear hb7 hc7 HP))
      all_goals
        clear cc K0 K1 q1
        go_wp2_with fail
        go_ret
        exact ⟨rfl, HZ.out⟩
theorem ctypes_any (x : NdD) (A : Option Addr) (c : Nat) (ts : List Int) (hk : ts.length ≤ 4) (GA FA : Option Addr) (gn gc fc : Nat) (fs : List FD) (c30 : ¬ x.op = 30) (w : World) (hT : Tab w) (hO : OpTab w) (hl : Rd w .i64 (.slice A ts.length c) ts) (hF : FnsAt w FA fs) :
    Calls Tryd.prog 26 #[.agg x.cells.toArray, .slice A ts.length c, .agg #[.slice GA gn gc, .slice FA fs.length fc]] w fun e w' => e = .returned (.int .i64 (tyE x ts gn fs.length)) ∧ Below w.heap.size w w' := by
  obtain ⟨op, ty, n⟩ := x
  rw [← tyE_ups]
  show Calls Tryd.prog 26 #[.agg #[.int .i64 op, .int .i64 ty, .int .i64 n], .slice A ts.length c, .agg #[.slice GA gn gc, .slice FA fs.length fc]] w fun e w' => e = .returned (.int .i64 (checkM op ty ts.length (immE op n) (symE op n) 0 false (ups ts.length) (ts ++ [ty]) gn fs.length)) ∧ Below w.heap.size w w'
  by_cases c25 : op = 25
  · subst c25
    exact ct_25 ty n A c ts hk GA FA gn gc fc fs w hT hO hl hF
  by_cases c1 : op = 1
  · subst c1
    exact ct_1 ty n A c ts hk GA FA gn gc fc fs w hT hO hl hF
  by_cases c33 : op = 33
  · subst c33
    exact ct_33 ty n A c ts hk GA FA gn gc fc fs w hT hO hl hF
  · rw [show immE op n = 0 by simp [immE, c1, c33], show symE op n = 0 by simp [symE, c25]]
    exact ct_op op ty n A c ts hk GA FA gn gc fc fs (by simpa using c25) (by simpa using c1) (by simpa using c33) c30 w hT hO hl hF
end Go.Proofs.YtnhaanjpcnnifaaDoor

/-
  Layer 13 (lexer): FormatInt of the program and of the reference.
-/
import Derived.Test.YtijibieeajakoaaLexT
import Derived.Test.YtijibieeajakoaaAwake
namespace Go.Proofs.Ytijibieeajakoaa
open Go.RowKit

theorem u64_neg (z : Int) (h : z < 0) (h2 : -9223372036854775808 ≤ z) : IntKind.u64.wrap (-(IntKind.u64.wrap z)) = (z.natAbs : Int) := by
  simp [IntKind.wrap, IntKind.bits, IntKind.signed]
  omega
theorem u64_pos (z : Int) (h : 0 ≤ z) (h2 : z ≤ 9223372036854775807) : IntKind.u64.wrap z = (z.natAbs : Int) := by
  simp [IntKind.wrap, IntKind.bits, IntKind.signed]
  omega
/-- A slice at the end of a block of bytes. -/
theorem rd_tail {w : World} {q : Nat} {T : TypeId} {cs : List Int} (h : Whole w q T (cs.map (Value.int .u8)).toArray) (s : Nat) (hs : s ≤ cs.length) (hm : cs.length ≤ 100) : Rd w .u8 (.slice (some ⟨q, s, none⟩) (cs.length - s) (cs.length - s)) (cs.drop s) := by
  have hl : (cs.drop s).length = cs.length - s := List.length_drop
  refine ⟨_, cs.length - s, by rw [hl], by omega, by unfold maxLen; omega, fun _ => ⟨q, s, rfl, h.lt, fun j z hz => ?_⟩⟩
  rw [List.getElem?_drop] at hz
  rw [h.cell]
  simp [hz]
theorem set_drop (cs : List Int) (j : Nat) (z : Int) (h : j < cs.length) : (cs.set j z).drop j = z :: cs.drop (j + 1) := by
  have h2 : j < (cs.set j z).length := by simpa using h
  rw [List.drop_eq_getElem_cons h2]
  simp [List.drop_set]
/-- 'text[s:]' of the array. -/
theorem tail_arr (q s : Nat) (h : s ≤ 19) (W : World) : (Instr.sliceAt 52 (.pointer (some ⟨q, 0, none⟩)) (some (.int .i64 (s : Int))) none none).run Try.prog W = .ok (.slice (some ⟨q, s, none⟩) (20 - s) (20 - s)) W := by
  have e : Try.prog.arrayLen 52 = 20 := by kernel_rfl
  have e2 : (sizeOf (Try.prog.elem 52)).run Try.prog W = .ok 1 W := by kernel_rfl
  rw [run_sliceAt_array_l (P := Try.prog) W 52 ⟨q, 0, none⟩ (by kernel_rfl) .i64 (s : Int) (by omega) (by rw [e]; omega), e2, e]
  have h2 : ¬ 20 = s := by omega
  simp [Result.andThen, slicedAt, h2, Addr.add]
  intro h; exact h.symm

set_option maxRecDepth 100000 in
set_option maxHeartbeats 2000000 in
theorem formatInt_any (z : Int) (hz1 : -9223372036854775808 ≤ z) (hz2 : z ≤ 9223372036854775807) (w : World) : Calls Try.prog 17 #[.int .i64 z] w fun e w' => e = .returned (.string (Bs (fmtZ z))) ∧ Below w.heap.size w w' := by
  obtain ⟨q, hq⟩ : ∃ q, w.heap.size = q := ⟨_, rfl⟩
  rw [hq]
  obtain ⟨u0, hu0⟩ : ∃ u, z.natAbs = u := ⟨_, rfl⟩
  have hub : Hid (u0 ≤ 9223372036854775808) := by show _ ≤ _; omega
  obtain ⟨cs0, hcs0⟩ : ∃ c : List Int, c = List.replicate 20 0 := ⟨_, rfl⟩
  obtain ⟨w1, hw1⟩ : ∃ x, w.alloc (.cells #[.int .u8 0, .int .u8 0, .int .u8 0, .int .u8 0, .int .u8 0, .int .u8 0, .int .u8 0, .int .u8 0, .int .u8 0, .int .u8 0, .int .u8 0, .int .u8 0, .int .u8 0, .int .u8 0, .int .u8 0, .int .u8 0, .int .u8 0, .int .u8 0, .int .u8 0, .int .u8 0] 52) = x := ⟨_, rfl⟩
  have HR0 : Hid (Whole w1 q 52 (cs0.map (Value.int .u8)).toArray) := by show Whole _ _ _ _; rw [hcs0, ← hw1, ← hq]; exact Whole.new w _ _
  have HB0 : Hid (Below q w w1) := by show Below _ _ _; rw [← hw1, ← hq]; exact (Below.refl _ _).alloc (Nat.le_refl _) _
  have hl0 : Hid (cs0.length = 20) := by show _ = _; rw [hcs0]; simp
  clear hcs0
  by_cases hneg : z < 0
  · have hw := u64_neg z hneg hz1
    have hfmt : Hid (fmtZ z = 45 :: digsW u0) := by show _ = _; unfold fmtZ; rw [if_pos hneg, hu0]
    rw [hu0] at hw
    clear hu0
    go_enter Try.func17, Try.ntmps17
    go_wp2_with fail
    go_loopw [4, 5] (fun v4 v5 wr => ∃ (u s : Nat) (D : List UInt8) (cs : List Int), v5 = .int .u64 (u : Int) ∧ v4 = .int .i64 (s : Int) ∧ Gath u0 u D ∧ D.length + s = 20 ∧ (u : Int) ≤ 9223372036854775808 ∧ 1 ≤ s ∧ Whole wr q 52 (cs.map (Value.int .u8)).toArray ∧ cs.length = 20 ∧ cs.drop s = D.map (fun c => (c.toNat : Int)) ∧ Below q w wr) (fun v4 _ _ => (intOf v4).toNat)
    case atStart => exact ⟨u0, 20, [], cs0, rfl, rfl, Gath.start _, rfl, by have := hub.out; omega, by omega, HR0.out, hl0.out, by rw [List.drop_of_length_le (by rw [hl0.out]; exact Nat.le_refl _)]; rfl, HB0.out⟩
    case round =>
      obtain ⟨u, s, D, cs, rfl, rfl, hG, hDs, hub2, hs1, hR, hcl, hdr, hB⟩ := hrel
      have HG := hide hG
      have HR := hide hR
      have HB := hide hB
      have HC := hide hcl
      have HD := hide hdr
      have HS := hide hDs
      clear hG hR hB hcl hdr HR0 HB0 hl0 hw
      by_cases hgo : 0 < u ∨ D = []
      · have hst := HG.out.step hgo
        have hroom := HG.out.room hgo (by have := hub.out; omega)
        obtain ⟨j, rfl⟩ : ∃ j, s = j + 1 := ⟨s - 1, by omega⟩
        have hj : j < 20 := by omega
        have hj1 : 1 ≤ j := by omega
        obtain ⟨cj, hcj⟩ : ∃ c, cs[j]? = some c := ⟨_, List.getElem?_eq_getElem (by rw [HC.out]; exact hj)⟩
        have hc := HR.out.cell j
        have hf := HR.out.free j
        have hcc : ((cs.map (Value.int .u8)).toArray)[j]? = some (.int .u8 cj) := by simp [hcj]
        rw [hcc] at hc
        have hset := (HR.out).set j (.int .u8 (48 + u % 10 : Nat))
        have hset2 : ((cs.map (Value.int .u8)).toArray).setIfInBounds j (.int .u8 ((48 + u % 10 : Nat) : Int)) = ((cs.set j ((48 + u % 10 : Nat) : Int)).map (Value.int .u8)).toArray := by
          apply Array.ext'
          simp [Array.toList_setIfInBounds, List.map_set]
        rw [hset2] at hset
        have hdr2 : (cs.set j ((48 + u % 10 : Nat) : Int)).drop j = (dg (u % 10) :: D).map (fun c => (c.toNat : Int)) := by
          rw [set_drop _ _ _ (by rw [HC.out]; exact hj), HD.out, List.map_cons, dg_nat (by omega)]
        have HST := hide hst
        have HSET := hide hset
        have HDR := hide hdr2
        have hlt : (0 : Int) < (u : Int) ∨ (u : Int) = 0 := by omega
        have hD0 : u = 0 → j = 19 := by
          intro h0
          rcases hgo with h | h
          · omega
          · have := HS.out; rw [h] at this; simp at this; omega
        clear hst hset hset2 hdr2 hcj hcc hgo hDs
        rcases hlt with hlt | hlt
        · clear hD0
          go_wp2_with fail
          go_roundw
          case rel => exact ⟨u / 10, j, dg (u % 10) :: D, _, by go_num, by go_num, HST.out, by have := HS.out; simp only [List.length_cons]; omega, by omega, hj1, HSET.out, by rw [List.length_set]; exact HC.out, HDR.out, HB.out.setCell (p := ⟨q, j, none⟩) (Nat.le_refl _) _⟩
          case measure => (simp [intOf]; try omega)
        · obtain rfl : u = 0 := by omega
          obtain rfl : j = 19 := hD0 rfl
          clear hD0 hlt
          go_wp2_with fail
          go_roundw
          case rel => exact ⟨0, 19, dg 0 :: D, _, by go_num, by go_num, HST.out, by have := HS.out; simp only [List.length_cons]; omega, by omega, by omega, HSET.out, by rw [List.length_set]; exact HC.out, HDR.out, HB.out.setCell (p := ⟨q, 19, none⟩) (Nat.le_refl _) _⟩
          case measure => simp [intOf]
      · obtain rfl : u = 0 := by omega
        have hDne : D ≠ [] := fun h => hgo (.inr h)
        have hdone : Hid (digsW u0 = D) := HG.out.done hDne
        have hs20 : ((s : Int) == 20) = false := by
          have := List.length_pos_iff.2 hDne
          simp; omega
        have hs19 : s ≤ 19 := by have := List.length_pos_iff.2 hDne; omega
        clear HG hgo hDne hDs
        obtain ⟨j, rfl⟩ : ∃ j, s = j + 1 := ⟨s - 1, by omega⟩
        obtain ⟨cj, hcj⟩ : ∃ c, cs[j]? = some c := ⟨_, List.getElem?_eq_getElem (by rw [HC.out]; omega)⟩
        have hc := HR.out.cell j
        have hf := HR.out.free j
        have hcc : ((cs.map (Value.int .u8)).toArray)[j]? = some (.int .u8 cj) := by simp [hcj]
        rw [hcc] at hc
        have hset := (HR.out).set j (.int .u8 45)
        have hset2 : ((cs.map (Value.int .u8)).toArray).setIfInBounds j (.int .u8 45) = ((cs.set j 45).map (Value.int .u8)).toArray := by
          apply Array.ext'
          simp [Array.toList_setIfInBounds, List.map_set]
        rw [hset2] at hset
        obtain ⟨w2, hw2⟩ : ∃ x, wr.setCell ⟨q, j, none⟩ (.int .u8 45) = x := ⟨_, rfl⟩
        rw [hw2] at hset
        have hB2 : Hid (Below q w w2) := by show Below _ _ _; rw [← hw2]; exact HB.out.setCell (p := ⟨q, j, none⟩) (Nat.le_refl _) _
        have hta := tail_arr q j (by omega)
        have hrt := rd_tail hset j (by rw [List.length_set, HC.out]; omega) (by rw [List.length_set, HC.out]; omega)
        rw [set_drop _ _ _ (by rw [HC.out]; omega), HD.out, List.length_set, HC.out] at hrt
        have hcv := run_convert_rd (P := Try.prog) w2 32 9 5 Try.underlying32 Try.underlying5 Try.underlying9 hrt
        have hstr : strOfNums ((45 : Int) :: D.map fun c => (c.toNat : Int)) = Bs (45 :: D) := (strNums (45 :: D)).symm
        rw [hstr] at hcv
        have hsub : ((20 - j : Nat) : Int) = 20 - (j : Int) := by omega
        clear hset hset2 hcj hcc hrt hstr hs20
        go_wp2_with fail
        go_ret
        exact ⟨by rw [hfmt.out, hdone.out]; rfl, hB2.out⟩
  · have hw := u64_pos z (by omega) hz2
    have hfmt : Hid (fmtZ z = digsW u0) := by show _ = _; unfold fmtZ; rw [if_neg hneg, hu0]
    rw [hu0] at hw
    clear hu0
    go_enter Try.func17, Try.ntmps17
    go_wp2_with fail
    go_loopw [4, 5] (fun v4 v5 wr => ∃ (u s : Nat) (D : List UInt8) (cs : List Int), v5 = .int .u64 (u : Int) ∧ v4 = .int .i64 (s : Int) ∧ Gath u0 u D ∧ D.length + s = 20 ∧ (u : Int) ≤ 9223372036854775808 ∧ 1 ≤ s ∧ Whole wr q 52 (cs.map (Value.int .u8)).toArray ∧ cs.length = 20 ∧ cs.drop s = D.map (fun c => (c.toNat : Int)) ∧ Below q w wr) (fun v4 _ _ => (intOf v4).toNat)
    case atStart => exact ⟨u0, 20, [], cs0, rfl, rfl, Gath.start _, rfl, by have := hub.out; omega, by omega, HR0.out, hl0.out, by rw [List.drop_of_length_le (by rw [hl0.out]; exact Nat.le_refl _)]; rfl, HB0.out⟩
    case round =>
      obtain ⟨u, s, D, cs, rfl, rfl, hG, hDs, hub2, hs1, hR, hcl, hdr, hB⟩ := hrel
      have HG := hide hG
      have HR := hide hR
      have HB := hide hB
      have HC := hide hcl
      have HD := hide hdr
      have HS := hide hDs
      clear hG hR hB hcl hdr HR0 HB0 hl0 hw
      by_cases hgo : 0 < u ∨ D = []
      · have hst := HG.out.step hgo
        have hroom := HG.out.room hgo (by have := hub.out; omega)
        obtain ⟨j, rfl⟩ : ∃ j, s = j + 1 := ⟨s - 1, by omega⟩
        have hj : j < 20 := by omega
        have hj1 : 1 ≤ j := by omega
        obtain ⟨cj, hcj⟩ : ∃ c, cs[j]? = some c := ⟨_, List.getElem?_eq_getElem (by rw [HC.out]; exact hj)⟩
        have hc := HR.out.cell j
        have hf := HR.out.free j
        have hcc : ((cs.map (Value.int .u8)).toArray)[j]? = some (.int .u8 cj) := by simp [hcj]
        rw [hcc] at hc
        have hset := (HR.out).set j (.int .u8 (48 + u % 10 : Nat))
        have hset2 : ((cs.map (Value.int .u8)).toArray).setIfInBounds j (.int .u8 ((48 + u % 10 : Nat) : Int)) = ((cs.set j ((48 + u % 10 : Nat) : Int)).map (Value.int .u8)).toArray := by
          apply Array.ext'
          simp [Array.toList_setIfInBounds, List.map_set]
        rw [hset2] at hset
        have hdr2 : (cs.set j ((48 + u % 10 : Nat) : Int)).drop j = (dg (u % 10) :: D).map (fun c => (c.toNat : Int)) := by
          rw [set_drop _ _ _ (by rw [HC.out]; exact hj), HD.out, List.map_cons, dg_nat (by omega)]
        have HST := hide hst
        have HSET := hide hset
        have HDR := hide hdr2
        have hlt : (0 : Int) < (u : Int) ∨ (u : Int) = 0 := by omega
        have hD0 : u = 0 → j = 19 := by
          intro h0
          rcases hgo with h | h
          · omega
          · have := HS.out; rw [h] at this; simp at this; omega
        clear hst hset hset2 hdr2 hcj hcc hgo hDs
        rcases hlt with hlt | hlt
        · clear hD0
          go_wp2_with fail
          go_roundw
          case rel => exact ⟨u / 10, j, dg (u % 10) :: D, _, by go_num, by go_num, HST.out, by have := HS.out; simp only [List.length_cons]; omega, by omega, hj1, HSET.out, by rw [List.length_set]; exact HC.out, HDR.out, HB.out.setCell (p := ⟨q, j, none⟩) (Nat.le_refl _) _⟩
          case measure => (simp [intOf]; try omega)
        · obtain rfl : u = 0 := by omega
          obtain rfl : j = 19 := hD0 rfl
          clear hD0 hlt
          go_wp2_with fail
          go_roundw
          case rel => exact ⟨0, 19, dg 0 :: D, _, by go_num, by go_num, HST.out, by have := HS.out; simp only [List.length_cons]; omega, by omega, by omega, HSET.out, by rw [List.length_set]; exact HC.out, HDR.out, HB.out.setCell (p := ⟨q, 19, none⟩) (Nat.le_refl _) _⟩
          case measure => simp [intOf]
      · obtain rfl : u = 0 := by omega
        have hDne : D ≠ [] := fun h => hgo (.inr h)
        have hdone : Hid (digsW u0 = D) := HG.out.done hDne
        have hs20 : ((s : Int) == 20) = false := by
          have := List.length_pos_iff.2 hDne
          simp; omega
        have hs19 : s ≤ 19 := by have := List.length_pos_iff.2 hDne; omega
        clear HG hgo hDne hDs
        have hta := tail_arr q s hs19
        have hrt := rd_tail HR.out s (by rw [HC.out]; omega) (by rw [HC.out]; omega)
        rw [HD.out, HC.out] at hrt
        have hcv := run_convert_rd (P := Try.prog) wr 32 9 5 Try.underlying32 Try.underlying5 Try.underlying9 hrt
        rw [← strNums] at hcv
        clear hrt
        go_wp2_with fail
        go_ret
        exact ⟨by rw [hfmt.out, hdone.out]; rfl, HB.out⟩
end Go.Proofs.Ytijibieeajakoaa

/-
  Layer 23 (expr): the law ExprRegs.
-/
import Derived.Test.YtnhaanjpcnnifaaDoorExRg
namespace Go.Proofs.YtnhaanjpcnnifaaDoor
open Go.RowKit Go.Deep

set_option maxRecDepth 100000 in
set_option maxHeartbeats 400000 in
theorem equal_is (u v : Value) (l : List Int) (w : World) (hu : Rd w .i64 u l) (hv : Rd w .i64 v l) :
    Calls Tryd.prog 19 #[u, v] w fun e w' => e = .returned (.bool true) ∧ Below w.heap.size w w' := by
  obtain ⟨A, c, e1, hc, hm, -⟩ := id hu
  obtain ⟨A', c', e2, hc', hm', -⟩ := id hv
  subst e1 e2
  have hc9 : c ≤ 9223372036854775807 := by unfold maxLen at hm; omega
  have hc9' : c' ≤ 9223372036854775807 := by unfold maxLen at hm'; omega
  have HU := hide hu
  have HV := hide hv
  clear hu hv hm hm'
  go_enter Tryd.func19, Tryd.ntmps19
  go_wp2_with fail
  go_loopw [13] (fun i wr => ∃ k : Nat, k ≤ l.length ∧ i = .int .i64 k ∧ Hid (Below w.heap.size w wr)) (fun i _ => l.length - (intOf i).toNat)
  case atStart => exact ⟨0, Nat.zero_le _, rfl, hide (Below.refl _ _)⟩
  case round =>
    obtain ⟨wq, rfl⟩ : ∃ x, x = wr := ⟨_, rfl⟩
    obtain ⟨k, hk, rfl, hB⟩ := hrel
    by_cases hlt : k < l.length
    · obtain ⟨x, hx⟩ : ∃ x, l[k]? = some x := ⟨_, List.getElem?_eq_getElem hlt⟩
      obtain ⟨b, o, e3, hb, hr⟩ := (HU.out.below' hB.out).toV.at k (.int .i64 x) (by rw [List.getElem?_map, hx]; rfl)
      obtain ⟨b', o', e4, hb', hr'⟩ := (HV.out.below' hB.out).toV.at k (.int .i64 x) (by rw [List.getElem?_map, hx]; rfl)
      subst e3 e4
      have c0 : wq.cell? ⟨b, o + k, none⟩ = some (.int .i64 x) := hr
      have d0 : wq.cell? ⟨b', o' + k, none⟩ = some (.int .i64 x) := hr'
      have gx : (x != x) = false := by simp
      have HJ := hide hlt
      clear hx hb hr hb' hr'
      go_wp2_with fail
      go_quiet (fail)
      go_wp2_with fail
      go_roundw
      case rel => exact ⟨k + 1, by have := HJ.out; omega, by go_num, hide (Below.drewN' hB.out _)⟩
      case measure => have := HJ.out; simp [intOf]; omega
    · go_wp2_with fail
      go_ret
      exact ⟨rfl, hB.out⟩
theorem insE_app (a b : List NdD) (op ty : Int) (h : ¬ op = 4) : insE (a ++ b ++ [⟨op, ty, 0⟩]) = insE (a ++ b) := by
  unfold insE
  rw [regsE_append (a ++ b)]
  have : regsE [(⟨op, ty, 0⟩ : NdD)] = [] := by simp [regsE, h]
  rw [this, List.append_nil]
set_option maxRecDepth 100000 in
set_option maxHeartbeats 8000000 in
theorem regs_law (op : Int) (a b : List NdD) (AA BA : Option Addr) (ac bc : Nat) (w : World) (hT : Tab w) (hO : OpTab w) (ha : RdN w 3 (.slice AA a.length ac) (a.map NdD.cells)) (hb : RdN w 3 (.slice BA b.length bc) (b.map NdD.cells)) :
    Calls Tryd.prog 5 #[.int .i64 op, .slice AA a.length ac, .slice BA b.length bc] w fun e w' => LawDone w e w' := by
  have HT := hide hT
  have HO := hide hO
  have HA := hide ha
  have HBb := hide hb
  clear hT hO ha hb
  by_cases h1 : 100 < a.length
  · have g1 : decide ((a.length : Int) > 100) = true := by simp; omega
    have g2 : decide ((100 : Int) < (a.length : Int)) = true := by simp; omega
    go_enter Tryd.func5, Tryd.ntmps5
    go_wp2_with (go_at_call 9; refine (works_any _ HT.out HO.out).mono ?_; rintro en w3 ⟨rfl, hb⟩; have HB := hide hb; clear hb)
    go_ret
    exact ⟨rfl, HB.out⟩
  have g1 : decide ((a.length : Int) > 100) = false := by simp; omega
  have g2 : decide ((100 : Int) < (a.length : Int)) = false := by simp; omega
  by_cases h2 : 100 < b.length
  · have g3 : decide ((b.length : Int) > 100) = true := by simp; omega
    have g4 : decide ((100 : Int) < (b.length : Int)) = true := by simp; omega
    clear h1 h2
    go_enter Tryd.func5, Tryd.ntmps5
    go_wp2_with (go_at_call 9; refine (works_any _ HT.out HO.out).mono ?_; rintro en w3 ⟨rfl, hb⟩; have HB := hide hb; clear hb)
    go_ret
    exact ⟨rfl, HB.out⟩
  have g3 : decide ((b.length : Int) > 100) = false := by simp; omega
  have g4 : decide ((100 : Int) < (b.length : Int)) = false := by simp; omega
  by_cases h4 : op = 4
  · subst h4
    clear h1 h2
    go_enter Tryd.func5, Tryd.ntmps5
    go_wp2_with (go_at_call 9; refine (works_any _ HT.out HO.out).mono ?_; rintro en w3 ⟨rfl, hb⟩; have HB := hide hb; clear hb)
    go_ret
    exact ⟨rfl, HB.out⟩
  · have g5 : (op == 4) = false := by simpa using h4
    have HL : Hid (a.length ≤ 100 ∧ b.length ≤ 100) := hide (by omega)
    have H4 := hide h4
    clear h1 h2 h4
    go_enter Tryd.func5, Tryd.ntmps5
    have hs0 : w.heap.size ≤ w.heap.size := Nat.le_refl _
    go_wp2_with (refine wpList_append_n _ rfl _ _ 22 rfl w.heap.size 40 3 _ 24 ndE (.slice none 0 0) [] rfl (OwnN.nil _ _ _ _) (.slice AA a.length ac) (a.map NdD.cells) rfl HA.out (nd_one a) ?b0 ?b1 hs0 ?_)
    case b0 => have := HL.out; rw [List.length_map]; show (0 + a.length) * 24 ≤ _; omega
    case b1 => have := HL.out; rw [List.length_map]; show 0 + a.length ≤ _; unfold maxLen; omega
    rintro v1 w1 ho hf -
    (try rw [List.nil_append] at ho)
    have HO1 := hide ho
    have HB1 : Hid (Below w.heap.size w w1) := hide (hf.toBelow (fun g hg => by simp [Value.ownBlock] at hg) (Nat.le_refl _))
    have HBb1 := hide (HBb.out.below' HB1.out)
    have hs1 : w.heap.size ≤ w1.heap.size := HB1.out.size
    clear ho hf hs0
    go_wp2_with (refine wpList_append_n _ rfl _ _ 22 rfl w.heap.size 40 3 _ 24 ndE v1 (a.map NdD.cells) rfl HO1.out (.slice BA b.length bc) (b.map NdD.cells) rfl HBb1.out (nd_one b) ?b2 ?b3 hs1 ?_)
    case b2 => have := HL.out; rw [List.length_map, List.length_map]; omega
    case b3 => have := HL.out; rw [List.length_map, List.length_map]; unfold maxLen; omega
    rintro v2 w2 ho hf -
    (try rw [← List.map_append] at ho)
    obtain ⟨L2, hL2⟩ : ∃ L2, L2 = a ++ b := ⟨_, rfl⟩
    have HL2 : Hid (L2 = a ++ b ∧ L2.length ≤ 200) := hide ⟨hL2, by have := HL.out; rw [hL2, List.length_append]; omega⟩
    have HO2 : Hid (RdN w2 3 v2 (L2.map NdD.cells)) := hide (by rw [hL2, List.map_append]; have := ho.rd; (try rw [List.map_append] at this); exact this)
    have HB : Hid (Below w.heap.size w w2) := hide (HB1.out.trans (hf.toBelow (fun g hg => (HO1.out.lt g (by simpa using hg)).1) hs1))
    clear ho hf hs1 HO1 HBb1 hL2
    obtain ⟨_, A2, c2, e2, -⟩ := id HO2.out
    rw [List.length_map] at e2
    subst e2
    go_wp2_with fail
    refine (regs2_any a AA ac _ (HA.out.below' HB.out) (by have := HL.out; omega)).mono ?_
    rintro en w3 ⟨r1, rfl, hr, hb⟩
    have R1 := hide hr
    replace HB := hide (Below.all HB.out hb)
    replace HO2 := hide (HO2.out.below' hb)
    clear hr hb
    go_wp2_with fail
    refine (rregs_any a AA ac _ (HA.out.below' HB.out) (by have := HL.out; omega)).mono ?_
    rintro en w4 ⟨r2, rfl, hr, hb⟩
    have R2 := hide hr
    replace R1 := hide (R1.out.below' hb)
    replace HB := hide (Below.all HB.out hb)
    replace HO2 := hide (HO2.out.below' hb)
    clear hr hb
    go_wp2_with fail
    refine (equal_is _ _ _ _ R1.out R2.out).mono ?_
    rintro en w5 ⟨rfl, hb⟩
    clear R1 R2
    replace HB := hide (Below.all HB.out hb)
    replace HO2 := hide (HO2.out.below' hb)
    clear hb
    go_wp2_with fail
    refine (apply2 op 3 a b AA BA ac bc w5 (HA.out.below' HB.out) (HBb.out.below' HB.out) HL.out).mono ?_
    rintro en w6 ⟨v3, rfl, hr, hb⟩
    obtain ⟨L3, hL3⟩ : ∃ L3, L3 = a ++ b ++ [(⟨op, 3, 0⟩ : NdD)] := ⟨_, rfl⟩
    have HL3 : Hid (insE L3 = insE L2 ∧ L3.length ≤ 201) := hide ⟨by rw [hL3, HL2.out.1, insE_app a b op 3 H4.out], by have := HL.out; rw [hL3, List.length_append, List.length_append, List.length_singleton]; omega⟩
    rw [← hL3] at hr
    have R3 := hide hr
    replace HB := hide (Below.all HB.out hb)
    replace HO2 := hide (HO2.out.below' hb)
    clear hr hb hL3
    obtain ⟨_, A3, c3, e3, -⟩ := id R3.out
    rw [List.length_map] at e3
    subst e3
    go_wp2_with fail
    refine (regs2_any L3 A3 c3 _ R3.out (by have := HL3.out.2; omega)).mono ?_
    rintro en w7 ⟨r4, rfl, hr, hb⟩
    rw [HL3.out.1] at hr
    have R4 := hide hr
    replace HB := hide (Below.all HB.out hb)
    replace HO2 := hide (HO2.out.below' hb)
    clear hr hb R3
    go_wp2_with fail
    refine (rregs_any L2 A2 c2 _ HO2.out (by have := HL2.out.2; omega)).mono ?_
    rintro en w8 ⟨r5, rfl, hr, hb⟩
    have R5 := hide hr
    replace R4 := hide (R4.out.below' hb)
    replace HB := hide (Below.all HB.out hb)
    clear hr hb HO2
    go_wp2_with fail
    refine (equal_is _ _ _ _ R4.out R5.out).mono ?_
    rintro en w9 ⟨rfl, hb⟩
    clear R4 R5
    replace HB := hide (Below.all HB.out hb)
    clear hb
    go_wp2_with (go_at_call 9; refine (works_any _ (HT.out.below HB.out) (HO.out.below HB.out)).mono ?_; rintro en we ⟨rfl, hb⟩; replace HB := hide (Below.all HB.out hb); clear hb)
    go_ret
    exact ⟨rfl, HB.out⟩
end Go.Proofs.YtnhaanjpcnnifaaDoor

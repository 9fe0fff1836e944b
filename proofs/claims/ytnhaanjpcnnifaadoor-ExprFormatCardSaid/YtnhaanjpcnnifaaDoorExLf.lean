/-
  Layer 23 (expr): the law ExprFormat.
-/
import Derived.Test.YtnhaanjpcnnifaaDoorExY
import Derived.Test.YtnhaanjpcnnifaaDoorExZ
namespace Go.Proofs.YtnhaanjpcnnifaaDoor
open Go.RowKit Go.Deep

set_option maxRecDepth 100000 in
set_option maxHeartbeats 8000000 in
theorem format_law (a b : List NdD) (AA BA : Option Addr) (ac bc : Nat) (w : World) (hia : ∀ x ∈ a, x.In) (hib : ∀ x ∈ b, x.In) (hT : Tab w) (hO : OpTab w) (hP : Pow w) (ha : RdN w 3 (.slice AA a.length ac) (a.map NdD.cells)) (hb : RdN w 3 (.slice BA b.length bc) (b.map NdD.cells)) :
    Calls Tryd.prog 6 #[.slice AA a.length ac, .slice BA b.length bc] w fun e w' => LawDone w e w' := by
  have HT := hide hT
  have HO := hide hO
  have HP := hide hP
  have HA := hide ha
  have HBb := hide hb
  have HIA := hide hia
  have HIB := hide hib
  clear hT hO hP ha hb hia hib
  by_cases h1 : 100 < a.length
  · have g1 : decide ((a.length : Int) > 100) = true := by simp; omega
    have g2 : decide ((100 : Int) < (a.length : Int)) = true := by simp; omega
    go_enter Tryd.func6, Tryd.ntmps6
    go_wp2_with (go_at_call 9; refine (works_any _ HT.out HO.out).mono ?_; rintro en w3 ⟨rfl, hb⟩; have HB := hide hb; clear hb)
    go_ret
    exact ⟨rfl, HB.out⟩
  by_cases h2 : 100 < b.length
  · have g1 : decide ((a.length : Int) > 100) = false := by simp; omega
    have g2 : decide ((100 : Int) < (a.length : Int)) = false := by simp; omega
    have g3 : decide ((b.length : Int) > 100) = true := by simp; omega
    have g4 : decide ((100 : Int) < (b.length : Int)) = true := by simp; omega
    clear h1 h2
    go_enter Tryd.func6, Tryd.ntmps6
    go_wp2_with (go_at_call 9; refine (works_any _ HT.out HO.out).mono ?_; rintro en w3 ⟨rfl, hb⟩; have HB := hide hb; clear hb)
    go_ret
    exact ⟨rfl, HB.out⟩
  · have g1 : decide ((a.length : Int) > 100) = false := by simp; omega
    have g2 : decide ((100 : Int) < (a.length : Int)) = false := by simp; omega
    have g3 : decide ((b.length : Int) > 100) = false := by simp; omega
    have g4 : decide ((100 : Int) < (b.length : Int)) = false := by simp; omega
    have HL : Hid (a.length ≤ 1000 ∧ b.length ≤ 1000) := hide (by omega)
    obtain ⟨SA, hSA⟩ : ∃ s, bsE (txtE fmtN a) = s := ⟨_, rfl⟩
    obtain ⟨SB, hSB⟩ : ∃ s, bsE (txtE fmtN b) = s := ⟨_, rfl⟩
    obtain ⟨R, hR⟩ : ∃ r, eqL a b = r := ⟨_, rfl⟩
    have g5 : (SA.toList == SA.toList) = true := by simp
    have g6 : (SA.toList == SB.toList) = R := by
      rw [← hSA, ← hSB, ← hR, bsE_list, bsE_list, Bool.eq_iff_iff, beq_iff_eq, eqL_iff]
      exact ⟨txtE_inj, fun h => by rw [h]⟩
    have g7 : (R == R) = true := by simp
    have HSA := hide hSA
    have HSB := hide hSB
    have HR := hide hR
    clear h1 h2 hSA hSB hR
    go_enter Tryd.func6, Tryd.ntmps6
    go_upto_region 3 with fail
    have HB : Hid (Below w.heap.size w w) := hide (Below.refl _ _)
    go_wp2_with fail
    refine (format_any a HIA.out AA ac _ (HO.out.below HB.out) (HP.out.below HB.out) (HA.out.below' HB.out) HL.out.1).mono ?_
    rintro en wa ⟨rfl, hb⟩
    rw [HSA.out]
    replace HB := hide (Below.all HB.out hb)
    clear hb
    go_wp2_with fail
    refine (format_any b HIB.out BA bc _ (HO.out.below HB.out) (HP.out.below HB.out) (HBb.out.below' HB.out) HL.out.2).mono ?_
    rintro en wb ⟨rfl, hb⟩
    rw [HSB.out]
    replace HB := hide (Below.all HB.out hb)
    clear hb
    go_wp2_with (first
      | (go_at_call 23; refine (rformat_any a HIA.out AA ac _ (HA.out.below' HB.out) HL.out.1).mono ?_; rintro en wc ⟨rfl, hb⟩; rw [HSA.out]; replace HB := hide (Below.all HB.out hb); clear hb)
      | (go_at_call 12; refine (equal2_nd _ _ a b _ (HA.out.below' HB.out) (HBb.out.below' HB.out)).mono ?_; rintro en wd ⟨rfl, hb⟩; rw [HR.out]; replace HB := hide (Below.all HB.out hb); clear hb)
      | (go_at_call 9; refine (works_any _ (HT.out.below HB.out) (HO.out.below HB.out)).mono ?_; rintro en we ⟨rfl, hb⟩; replace HB := hide (Below.all HB.out hb); clear hb))
    go_ret
    exact ⟨rfl, HB.out⟩
end Go.Proofs.YtnhaanjpcnnifaaDoor

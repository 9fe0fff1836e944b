/-
  Layer 23 (expr): the law ExprBuilds.
-/
import Derived.Test.YtnhaanjpcnnifaaDoorExL
namespace Go.Proofs.YtnhaanjpcnnifaaDoor
open Go.RowKit Go.Deep

theorem reg2_any (r : Int) (w : World) : Calls Tryd.prog 13 #[.int .i64 r] w fun e w' => ∃ A c, e = .returned (.slice A 1 c) ∧ RdN w' 3 (.slice A 1 c) ([(⟨4, 0, r⟩ : NdD)].map NdD.cells) ∧ Below w.heap.size w w' :=
  (reg_any r w).mono fun e w' ⟨h1, h2⟩ => ⟨_, _, h1, by rw [h2]; exact rdn_nd _ _ _, by rw [h2]; exact (Below.refl _ _).alloc (Nat.le_refl _) _⟩
theorem rreg2_any (r : Int) (w : World) : Calls Tryd.prog 14 #[.int .i64 r] w fun e w' => ∃ A c, e = .returned (.slice A 1 c) ∧ RdN w' 3 (.slice A 1 c) ([(⟨4, 0, r⟩ : NdD)].map NdD.cells) ∧ Below w.heap.size w w' :=
  (rreg_any r w).mono fun e w' ⟨h1, h2⟩ => ⟨_, _, h1, by rw [h2]; exact rdn_nd _ _ _, by rw [h2]; exact (Below.refl _ _).alloc (Nat.le_refl _) _⟩
theorem const2_any (t n : Int) (w : World) : Calls Tryd.prog 15 #[.int .i64 t, .int .i64 n] w fun e w' => ∃ A c, e = .returned (.slice A 1 c) ∧ RdN w' 3 (.slice A 1 c) ([(⟨1, t, n⟩ : NdD)].map NdD.cells) ∧ Below w.heap.size w w' :=
  (const_any t n w).mono fun e w' ⟨h1, h2⟩ => ⟨_, _, h1, by rw [h2]; exact rdn_nd _ _ _, by rw [h2]; exact (Below.refl _ _).alloc (Nat.le_refl _) _⟩
theorem rconst2_any (t n : Int) (w : World) : Calls Tryd.prog 16 #[.int .i64 t, .int .i64 n] w fun e w' => ∃ A c, e = .returned (.slice A 1 c) ∧ RdN w' 3 (.slice A 1 c) ([(⟨1, t, n⟩ : NdD)].map NdD.cells) ∧ Below w.heap.size w w' :=
  (rconst_any t n w).mono fun e w' ⟨h1, h2⟩ => ⟨_, _, h1, by rw [h2]; exact rdn_nd _ _ _, by rw [h2]; exact (Below.refl _ _).alloc (Nat.le_refl _) _⟩
theorem rdes_two {w : World} {t : TypeId} {A B : Option Addr} {ca cb : Nat} {a b : List NdD} (ha : RdN w 3 (.slice A a.length ca) (a.map NdD.cells)) (hb : RdN w 3 (.slice B b.length cb) (b.map NdD.cells)) :
    RdEs (w.alloc (.cells #[.slice A a.length ca, .slice B b.length cb] t)) (some ⟨w.heap.size, 0, none⟩) 2 [a, b] := by
  have b3 : Below w.heap.size w (w.alloc (.cells #[.slice A a.length ca, .slice B b.length cb] t)) := (Below.refl _ _).alloc (Nat.le_refl _) _
  have H3 := Whole.new w t #[.slice A a.length ca, .slice B b.length cb]
  refine ⟨[.slice A a.length ca, .slice B b.length cb], rfl, ⟨_, _, rfl, Nat.le_refl _, by unfold maxLen; omega, fun _ => ⟨w.heap.size, 0, rfl, H3.lt, fun j v hv => by rw [Nat.zero_add, H3.cell j]; simpa using hv⟩⟩, fun i l hi => ?_⟩
  match i, hi with
  | 0, hi =>
    obtain rfl : a = l := by simpa using hi
    exact ⟨A, ca, rfl, ha.below' b3⟩
  | 1, hi =>
    obtain rfl : b = l := by simpa using hi
    exact ⟨B, cb, rfl, hb.below' b3⟩
  | n + 2, hi => simp at hi
theorem rdes_nil {w : World} : RdEs w none 0 [] := ⟨[], rfl, ⟨none, 0, rfl, Nat.le_refl _, Nat.zero_le _, fun h => absurd h (by simp)⟩, fun i l h => by simp at h⟩
/-- Apply at two expressions. -/
theorem apply2 (op ty : Int) (a b : List NdD) (A B : Option Addr) (ca cb : Nat) (w : World) (ha : RdN w 3 (.slice A a.length ca) (a.map NdD.cells)) (hb : RdN w 3 (.slice B b.length cb) (b.map NdD.cells)) (hl : a.length ≤ 100 ∧ b.length ≤ 100) :
    Calls Tryd.prog 17 #[.int .i64 op, .int .i64 ty, .slice (some ⟨w.heap.size, 0, none⟩) 2 2] (w.alloc (.cells #[.slice A a.length ca, .slice B b.length cb] 22)) fun e w' => ∃ v, e = .returned v ∧ RdN w' 3 v ((a ++ b ++ [(⟨op, ty, 0⟩ : NdD)]).map NdD.cells) ∧ Below w.heap.size w w' :=
  (apply_any op ty [a, b] (some ⟨w.heap.size, 0, none⟩) 2 _ (rdes_two ha hb) (by simp; omega) (by simp)).mono fun e w' ⟨v, h1, h2, h3⟩ => ⟨v, h1, by simpa using h2, Below.all ((Below.refl _ _).alloc (Nat.le_refl _) _) h3⟩
theorem rapply2 (op ty : Int) (a b : List NdD) (A B : Option Addr) (ca cb : Nat) (w : World) (ha : RdN w 3 (.slice A a.length ca) (a.map NdD.cells)) (hb : RdN w 3 (.slice B b.length cb) (b.map NdD.cells)) (hl : a.length ≤ 100 ∧ b.length ≤ 100) :
    Calls Tryd.prog 18 #[.int .i64 op, .int .i64 ty, .slice (some ⟨w.heap.size, 0, none⟩) 2 2] (w.alloc (.cells #[.slice A a.length ca, .slice B b.length cb] 22)) fun e w' => ∃ v, e = .returned v ∧ RdN w' 3 v ((a ++ b ++ [(⟨op, ty, 0⟩ : NdD)]).map NdD.cells) ∧ Below w.heap.size w w' :=
  (rapply_any op ty [a, b] (some ⟨w.heap.size, 0, none⟩) 2 _ (rdes_two ha hb) (by simp; omega) (by simp)).mono fun e w' ⟨v, h1, h2, h3⟩ => ⟨v, h1, by simpa using h2, Below.all ((Below.refl _ _).alloc (Nat.le_refl _) _) h3⟩
theorem apply0 (op ty : Int) (w : World) :
    Calls Tryd.prog 17 #[.int .i64 op, .int .i64 ty, .slice none 0 0] w fun e w' => ∃ v, e = .returned v ∧ RdN w' 3 v ([(⟨op, ty, 0⟩ : NdD)].map NdD.cells) ∧ Below w.heap.size w w' :=
  (apply_any op ty [] none 0 w rdes_nil (by simp) (by simp)).mono fun e w' ⟨v, h1, h2, h3⟩ => ⟨v, h1, by simpa using h2, h3⟩
set_option maxRecDepth 100000 in
set_option maxHeartbeats 8000000 in
theorem builds_law (op ty n : Int) (a b : List NdD) (AA BA : Option Addr) (ac bc : Nat) (w : World) (hT : Tab w) (hO : OpTab w) (ha : RdN w 3 (.slice AA a.length ac) (a.map NdD.cells)) (hb : RdN w 3 (.slice BA b.length bc) (b.map NdD.cells)) :
    Calls Tryd.prog 4 #[.int .i64 op, .int .i64 ty, .int .i64 n, .slice AA a.length ac, .slice BA b.length bc] w fun e w' => LawDone w e w' := by
  have HT := hide hT
  have HO := hide hO
  have HA := hide ha
  have HBb := hide hb
  clear hT hO ha hb
  by_cases h1 : 100 < a.length
  · have g1 : decide ((a.length : Int) > 100) = true := by simp; omega
    have g2 : decide ((100 : Int) < (a.length : Int)) = true := by simp; omega
    go_enter Tryd.func4, Tryd.ntmps4
    go_wp2_with (go_at_call 9; refine (works_any _ HT.out HO.out).mono ?_; rintro en w3 ⟨rfl, hb⟩; have HB := hide hb; clear hb)
    go_ret
    exact ⟨rfl, HB.out⟩
  by_cases h2 : 100 < b.length
  · have g1 : decide ((a.length : Int) > 100) = false := by simp; omega
    have g2 : decide ((100 : Int) < (a.length : Int)) = false := by simp; omega
    have g3 : decide ((b.length : Int) > 100) = true := by simp; omega
    have g4 : decide ((100 : Int) < (b.length : Int)) = true := by simp; omega
    clear h1 h2
    go_enter Tryd.func4, Tryd.ntmps4
    go_wp2_with (go_at_call 9; refine (works_any _ HT.out HO.out).mono ?_; rintro en w3 ⟨rfl, hb⟩; have HB := hide hb; clear hb)
    go_ret
    exact ⟨rfl, HB.out⟩
  · have g1 : decide ((a.length : Int) > 100) = false := by simp; omega
    have g2 : decide ((100 : Int) < (a.length : Int)) = false := by simp; omega
    have g3 : decide ((b.length : Int) > 100) = false := by simp; omega
    have g4 : decide ((100 : Int) < (b.length : Int)) = false := by simp; omega
    have HL : Hid (a.length ≤ 100 ∧ b.length ≤ 100) := hide (by omega)
    clear h1 h2
    go_enter Tryd.func4, Tryd.ntmps4
    go_upto_region 4 with fail
    have HB : Hid (Below w.heap.size w w) := hide (Below.refl _ _)
    go_wp2_with (first
      | (go_at_call 13; refine (reg2_any _ _).mono ?_; rintro en wa ⟨A1, c1, rfl, hr, hb⟩; have R1 := hide hr; replace HB := hide (Below.all HB.out hb); clear hr hb)
      | (go_at_call 14; refine (rreg2_any _ _).mono ?_; rintro en wb ⟨A2, c2, rfl, hr, hb⟩; have S1 := hide hr; replace R1 := hide (R1.out.below' hb); replace HB := hide (Below.all HB.out hb); clear hr hb)
      | (go_at_call 12; refine (equal_nd _ _ _ _ R1.out S1.out).mono ?_; rintro en wc ⟨rfl, hb⟩; clear R1 S1; replace HB := hide (Below.all HB.out hb); clear hb)
      | (go_at_call 15; refine (const2_any _ _ _).mono ?_; rintro en wd ⟨A3, c3, rfl, hr, hb⟩; have R2 := hide hr; replace HB := hide (Below.all HB.out hb); clear hr hb)
      | (go_at_call 16; refine (rconst2_any _ _ _).mono ?_; rintro en we ⟨A4, c4, rfl, hr, hb⟩; have S2 := hide hr; replace R2 := hide (R2.out.below' hb); replace HB := hide (Below.all HB.out hb); clear hr hb)
      | (go_at_call 12; refine (equal_nd _ _ _ _ R2.out S2.out).mono ?_; rintro en wf ⟨rfl, hb⟩; clear R2 S2; replace HB := hide (Below.all HB.out hb); clear hb)
      | (go_at_call 17; refine (apply2 op ty a b AA BA ac bc wf (HA.out.below' HB.out) (HBb.out.below' HB.out) HL.out).mono ?_; rintro en wg ⟨v3, rfl, hr, hb⟩; have R3 := hide hr; replace HB := hide (Below.all HB.out hb); clear hr hb)
      | (go_at_call 18; refine (rapply2 op ty a b AA BA ac bc wg (HA.out.below' HB.out) (HBb.out.below' HB.out) HL.out).mono ?_; rintro en wh ⟨v4, rfl, hr, hb⟩; have S3 := hide hr; replace R3 := hide (R3.out.below' hb); replace HB := hide (Below.all HB.out hb); clear hr hb)
      | (go_at_call 12; refine (equal_nd _ _ _ _ R3.out S3.out).mono ?_; rintro en wi ⟨rfl, hb⟩; clear R3 S3; replace HB := hide (Below.all HB.out hb); clear hb)
      | (go_at_call 17; refine (apply0 op ty _).mono ?_; rintro en wj ⟨v5, rfl, hr, hb⟩; have R4 := hide hr; replace HB := hide (Below.all HB.out hb); clear hr hb)
      | (go_at_call 12; refine (equal_nd _ _ [⟨op, ty, 0⟩] _ (R4.out.below' ((Below.refl _ _).alloc (Nat.le_refl _) _)) (rdn_nd wj _ ⟨op, ty, 0⟩)).mono ?_; rintro en wk ⟨rfl, hb⟩; clear R4; replace HB := hide (Below.all (HB.out.alloc HB.out.size _) hb); clear hb)
      | (go_at_call 9; refine (works_any _ (HT.out.below HB.out) (HO.out.below HB.out)).mono ?_; rintro en wl ⟨rfl, hb⟩; replace HB := hide (Below.all HB.out hb); clear hb))
    go_ret
    exact ⟨rfl, HB.out⟩
end Go.Proofs.YtnhaanjpcnnifaaDoor

/-
  Layer 12 (opcode): accepts, and the number of operands.
-/
import Derived.Test.YtnhaanjpcnnifaaDoorOpE
namespace Go.Proofs.YtnhaanjpcnnifaaDoor
open Go.RowKit

theorem opsB_true : ∀ (os : List Nat) (l : List Int), l.length ≤ os.length → (∀ (j s : Nat) (z : Int), os[j]? = some s → l[j]? = some z → hasB s z = true) → opsB os l = true
  | [], [], _, _ => rfl
  | _ :: _, [], _, _ => rfl
  | [], _ :: _, h, _ => by simp at h
  | s :: os, z :: l, h, hp => by
    simp only [opsB, Bool.and_eq_true]
    exact ⟨hp 0 s z rfl rfl, opsB_true os l (by simpa using h) (fun j s' z' h1 h2 => hp (j + 1) s' z' (by simpa using h1) (by simpa using h2))⟩
theorem opsB_false : ∀ (os : List Nat) (l : List Int) (j : Nat) (s : Nat) (z : Int), os[j]? = some s → l[j]? = some z → hasB s z = false → opsB os l = false
  | [], _, j, s, z, h, _, _ => by simp at h
  | _ :: _, [], j, s, z, _, h, _ => by simp at h
  | s0 :: os, z0 :: l, 0, s, z, h1, h2, h => by
    simp at h1 h2
    subst h1 h2
    simp [opsB, h]
  | s0 :: os, z0 :: l, j + 1, s, z, h1, h2, h => by
    simp only [opsB, Bool.and_eq_false_iff]
    exact .inr (opsB_false os l j s z (by simpa using h1) (by simpa using h2) h)
set_option maxRecDepth 100000 in
set_option maxHeartbeats 4000000 in
theorem accepts_any (s0 a b cc d r : Nat) (hs : s0 < 256 ∧ a < 256 ∧ b < 256 ∧ cc < 256 ∧ d < 256) (hr : r ≤ 6) (t : Int) (A : Option Addr) (c : Nat) (l : List Int) (hm : l.length ≤ 4) (hne : relWants r = true → l ≠ []) (w : World) (hT : Tab w) (hl : Rd w .i64 (.slice A l.length c) l) :
    Calls Tryd.prog 88 #[.agg #[.int .u8 (s0 : Int), .int .u8 (a : Int), .int .u8 (b : Int), .int .u8 (cc : Int), .int .u8 (d : Int), .int .i64 (r : Int)], .int .i64 t, .slice A l.length c] w fun e w' => e = .returned (.bool (opsB [a, b, cc, d] l && hasB s0 t && relB r t l)) ∧ Below w.heap.size w w' := by
  obtain ⟨q, hq⟩ : ∃ q, w.heap.size = q := ⟨_, rfl⟩
  obtain ⟨w1, hw1⟩ : ∃ z, w.alloc (.cells #[.int .u8 (s0 : Int), .int .u8 (a : Int), .int .u8 (b : Int), .int .u8 (cc : Int), .int .u8 (d : Int), .int .i64 (r : Int)] 120) = z := ⟨_, rfl⟩
  have HW : Hid (Whole w1 q 120 #[.int .u8 (s0 : Int), .int .u8 (a : Int), .int .u8 (b : Int), .int .u8 (cc : Int), .int .u8 (d : Int), .int .i64 (r : Int)]) := by show Whole _ _ _ _; rw [← hw1, ← hq]; exact Whole.new w _ _
  have hb : Below w.heap.size w w1 := by rw [← hw1]; exact (Below.refl _ _).alloc (Nat.le_refl _) _
  have HL := hide (hl.below' hb)
  have HT := hide (hT.below hb)
  have HB := hide hb
  obtain ⟨R, hR⟩ : ∃ R, opsB [a, b, cc, d] l = R := ⟨_, rfl⟩
  rw [hR]
  have HR := hide hR
  clear hR hl hT
  go_enter Tryd.func88, Tryd.ntmps88
  go_upto_region 1 with fail
  clear hb hw1
  go_wp2_with fail
  go_loop [11] (fun v => ∃ k : Nat, v = .int .i64 (k : Int) ∧ k ≤ l.length ∧ ∀ j s z, j < k → [a, b, cc, d][j]? = some s → l[j]? = some z → hasB s z = true) (fun v => l.length - (intOf v).toNat)
  case atStart => exact ⟨0, rfl, by omega, fun j s z h => absurd h (by omega)⟩
  case round =>
    obtain ⟨k, rfl, hk, hI⟩ := hrel
    rcases Nat.lt_or_ge k l.length with hlt | hge
    · obtain ⟨z, hz⟩ : ∃ z, l[k]? = some z := ⟨_, List.getElem?_eq_getElem hlt⟩
      obtain ⟨s, hs2⟩ : ∃ s, [a, b, cc, d][k]? = some s := ⟨_, List.getElem?_eq_getElem (by simp; omega)⟩
      have hs256 : s < 256 := by
        have := List.mem_of_getElem? hs2
        simp at this
        rcases this with rfl | rfl | rfl | rfl <;> omega
      have hsc : w1.cell? ⟨q, 1 + k, none⟩ = some (.int .u8 (s : Int)) := by
        rw [HW.out.cell (1 + k)]
        rcases (show k = 0 ∨ k = 1 ∨ k = 2 ∨ k = 3 by omega) with rfl | rfl | rfl | rfl <;> (simp at hs2; subst hs2; rfl)
      have hk4 : k < 4 := by omega
      obtain ⟨bb, off, rfl, hc⟩ := HL.out.at (by omega)
      have hcell := hc k z hz
      clear hc HL
      cases hh : hasB s z with
      | true =>
        have hnext : ∀ j s z, j < k + 1 → [a, b, cc, d][j]? = some s → l[j]? = some z → hasB s z = true := fun j s' z' hj h1 h2 => by
          rcases Nat.lt_or_ge j k with h | h
          · exact hI j s' z' h h1 h2
          · obtain rfl : j = k := by omega
            rw [hs2] at h1; rw [hz] at h2
            injection h1 with h1; injection h2 with h2
            subst h1 h2; exact hh
        clear hI hz hs2
        go_wp2_with fail
        refine (has_any s hs256 z _).mono ?_
        rintro en wn ⟨rfl, rfl⟩
        rw [hh]
        go_wp2_with fail
        all_goals first | rfl | exact ⟨⟨k + 1, by go_num, by omega, hnext⟩, by simp [intOf]; omega⟩
      | false =>
        obtain rfl := (opsB_false _ _ k s z hs2 hz hh).symm.trans HR.out
        clear hI hz hs2
        go_wp2_with fail
        refine (has_any s hs256 z _).mono ?_
        rintro en wn ⟨rfl, rfl⟩
        rw [hh]
        go_wp2_with fail
        go_ret
        exact ⟨rfl, HB.out⟩
    · obtain rfl := (opsB_true [a, b, cc, d] l (by simpa using hm) (fun j s z h1 h2 => hI j s z (by have := (List.getElem?_eq_some_iff.1 h2).1; omega) h1 h2)).symm.trans HR.out
      clear hI
      have c0 : w1.cell? ⟨q, 0, none⟩ = some (.int .u8 (s0 : Int)) := HW.out.cell 0
      have c5 : w1.cell? ⟨q, 5, none⟩ = some (.int .i64 (r : Int)) := HW.out.cell 5
      have HC := hide (related_any r hr t A c l (by omega) hne w1 HT.out HL.out)
      clear HL hne
      cases hh : hasB s0 t with
      | true =>
        go_wp2_with fail
        refine (has_any s0 hs.1 t _).mono ?_
        rintro en wn ⟨rfl, rfl⟩
        rw [hh]
        go_wp2_with fail
        refine HC.out.mono ?_
        rintro en wn ⟨rfl, rfl⟩
        go_wp2_with fail
        go_ret
        exact ⟨by simp [hh], HB.out⟩
      | false =>
        go_wp2_with fail
        refine (has_any s0 hs.1 t _).mono ?_
        rintro en wn ⟨rfl, rfl⟩
        rw [hh]
        go_wp2_with fail
        go_ret
        exact ⟨by simp [hh], HB.out⟩

/-- How many of the operands' sets are not empty. -/
def nzU (l : List Nat) : Nat := (l.filter (· != 0)).length
theorem nzU_one (s : Nat) (l : List Nat) : nzU (l ++ [s]) = nzU l + (if s = 0 then 0 else 1) := by
  unfold nzU
  rw [List.filter_append, List.length_append]
  by_cases h : s = 0 <;> simp [h]
set_option maxRecDepth 100000 in
set_option maxHeartbeats 4000000 in
theorem count_row (k : Nat) (hk : k < 34) (h30 : k ≠ 30) (h32 : k ≠ 32) (ty dst imm sym el : Int) (A GA FA : Option Addr) (n c gn gc fn fc : Nat) (hn : n ≤ 1000000) (nw : Bool) (w : World) (hO : OpTab w) : Calls Tryd.prog 60 #[.agg #[.int .i64 (k : Int), .int .i64 ty, .int .i64 dst, .slice A n c, .int .i64 imm, .int .i64 sym, .int .i64 el, .bool nw], .agg #[.slice GA gn gc, .slice FA fn fc]] w fun e w' => e = .returned (.bool (decide (n = cntOf k))) ∧ Below w.heap.size w w' := by
  have e30 : ((k : Int) == 30) = false := by simp; omega
  have e32 : ((k : Int) == 32) = false := by simp; omega
  obtain ⟨ra, hra⟩ : ∃ x, (ruleM k).2.1.1 = x := ⟨_, rfl⟩
  obtain ⟨rb, hrb⟩ : ∃ x, (ruleM k).2.1.2.1 = x := ⟨_, rfl⟩
  obtain ⟨rc, hrc⟩ : ∃ x, (ruleM k).2.1.2.2.1 = x := ⟨_, rfl⟩
  obtain ⟨rd, hrd⟩ : ∃ x, (ruleM k).2.1.2.2.2 = x := ⟨_, rfl⟩
  have hcnt : cntOf k = nzU [ra, rb, rc, rd] := by unfold cntOf rowOps nzU; rw [hra, hrb, hrc, hrd]
  obtain ⟨w1, hw1⟩ : ∃ z, (w.alloc (.cells #[.int .i64 (k : Int), .int .i64 ty, .int .i64 dst, .slice A n c, .int .i64 imm, .int .i64 sym, .int .i64 el, .bool nw] 78)).alloc (.cells #[.slice GA gn gc, .slice FA fn fc] 32) = z := ⟨_, rfl⟩
  have hb : Below w.heap.size w w1 := by rw [← hw1]; exact ((Below.refl _ _).alloc (Nat.le_refl _) _).alloc (by simp [go_sem]) _
  have hO1 := hO.below hb
  have k0 := hO1.op0 k hk
  have k1 := hO1.op1 k hk
  have k2 := hO1.op2 k hk
  have k3 := hO1.op3 k hk
  rw [hra] at k0; rw [hrb] at k1; rw [hrc] at k2; rw [hrd] at k3
  have HI : Hid (Whole w1 w.heap.size 78 #[.int .i64 (k : Int), .int .i64 ty, .int .i64 dst, .slice A n c, .int .i64 imm, .int .i64 sym, .int .i64 el, .bool nw]) := by show Whole _ _ _ _; rw [← hw1]; exact (Whole.new w _ _).alloc _
  have i0 := HI.out.cell 0
  have i3 := HI.out.cell 3
  have HB := hide hb
  have HCN := hide hcnt
  clear hcnt
  clear hra hrb hrc hrd hO hO1
  go_enter Tryd.func60, Tryd.ntmps60
  go_upto_region 1 with fail
  clear hb hw1
  go_wp2_with fail
  go_loop [5, 38] (fun u v => ∃ i : Nat, v = .int .i64 (i : Int) ∧ i ≤ 4 ∧ u = .int .i64 ((n : Int) - (nzU ([ra, rb, rc, rd].take i) : Int))) (fun _ v => 4 - (intOf v).toNat)
  case atStart => exact ⟨0, rfl, by omega, by simp [nzU]⟩
  case round =>
    obtain ⟨i, rfl, hi, rfl⟩ := hrel
    rcases Nat.lt_or_ge i 4 with hlt | hge
    · obtain ⟨s, hs⟩ : ∃ s, [ra, rb, rc, rd][i]? = some s := ⟨_, List.getElem?_eq_getElem (by simp; omega)⟩
      have hix : ∀ W, Sem.run Tryd.prog (Instr.index 118 (.agg #[.int .u8 (ra : Int), .int .u8 (rb : Int), .int .u8 (rc : Int), .int .u8 (rd : Int)]) (.int .i64 (i : Int))) W = .ok (.int .u8 (s : Int)) W := fun W => by
        rcases (show i = 0 ∨ i = 1 ∨ i = 2 ∨ i = 3 by omega) with rfl | rfl | rfl | rfl <;> (simp at hs; subst hs; kernel_rfl)
      have hnext : nzU ([ra, rb, rc, rd].take (i + 1)) = nzU ([ra, rb, rc, rd].take i) + (if s = 0 then 0 else 1) := by
        rw [List.take_add_one, hs]; exact nzU_one s _
      have hz4 : nzU ([ra, rb, rc, rd].take i) ≤ 4 := by
        unfold nzU
        exact Nat.le_trans (List.length_filter_le _ _) (by rw [List.length_take]; simp; omega)
      obtain ⟨N, hN⟩ : ∃ N, nzU ([ra, rb, rc, rd].take i) = N := ⟨_, rfl⟩
      rw [hN] at hnext hz4 ⊢
      clear hN hs k0 k1 k2 k3
      by_cases h0 : s = 0
      · have hg : ((s : Int) != 0) = false := by simp [h0]
        have HN := hide hnext
        rw [if_pos h0] at HN
        clear h0 hnext
        go_wp2_with fail
        all_goals first | rfl | exact ⟨⟨i + 1, by go_num, by omega, by rw [HN.out]; rfl⟩, by simp [intOf]; omega⟩
      · have hg : ((s : Int) != 0) = true := by simp; omega
        have HN := hide hnext
        rw [if_neg h0] at HN
        clear h0 hnext
        go_wp2_with fail
        all_goals first | rfl | exact ⟨⟨i + 1, by go_num, by omega, by rw [HN.out]; congr 1; go_num⟩, by simp [intOf]; omega⟩
    · obtain rfl : i = 4 := by omega
      clear k0 k1 k2 k3
      rw [show [ra, rb, rc, rd].take 4 = [ra, rb, rc, rd] from rfl]
      obtain ⟨N, hN⟩ : ∃ N, nzU [ra, rb, rc, rd] = N := ⟨_, rfl⟩
      have HN : Hid (cntOf k = N) := hide (HCN.out.trans hN)
      rw [hN]
      clear hN
      go_wp2_with fail
      go_ret
      have hfin : ((n : Int) - (N : Int) == 0) = decide (n = N) := by rw [Bool.eq_iff_iff]; simp; omega
      exact ⟨by rw [HN.out, ← hfin]; rfl, HB.out⟩
end Go.Proofs.YtnhaanjpcnnifaaDoor

/-
  Layer 7 (scc), the reference: OnCycle, and the component of a node.
-/
import Derived.Test.YtakojoedifhcnaaTPaths
import Derived.Test.YtakojoedifhcnaaTRefMath
namespace Go.Proofs.Ytakojoedifhcnaa
open Go.RowKit

theorem bl_succ (n : Nat) (f : Nat → Bool) : bl (n + 1) f = bl n f ++ [.bool (f n)] := by unfold bl; rw [List.range_succ, List.map_append]; rfl

set_option maxRecDepth 100000 in
set_option maxHeartbeats 4000000 in
theorem ron_any (A : Option Addr) (c : Nat) (g : List (List Int)) (w : World) (hg : RdL w A c g) (hN : g.length ≤ 65536) :
    Calls Try.prog 16 #[.agg #[.slice A g.length c]] w fun en w' => (∃ sv, en = .returned sv ∧ OwnV w' w.heap.size 4 sv (bl g.length (fun x => path1B (stray g) x x))) ∧ Below w.heap.size w w' := by
  obtain ⟨w1, hw1⟩ : ∃ x, w.alloc (.cells #[.slice A g.length c] 24) = x := ⟨_, rfl⟩
  have hx1 : w1.cell? ⟨w.heap.size, 0, none⟩ = some (.slice A g.length c) := by rw [← hw1]; simp [go_sem]
  have hB1 : Below w.heap.size w w1 := by rw [← hw1]; exact (Below.refl _ _).alloc (Nat.le_refl _) _
  have HB1 := hide hB1
  have HK := hide (paths_any A c g w1 (hg.below' hB1) hN)
  have h0 : ¬ (65536 : Int) < g.length := by omega
  have h0b : decide ((65536 : Int) < g.length) = false := decide_eq_false h0
  have hc := hg.cap
  have hc9 : c ≤ 9223372036854775807 := by unfold maxLen at hc; omega
  clear hg hB1 hc
  go_enter Try.func16, Try.ntmps16
  go_wp2_with fail
  refine HK.out.mono ?_
  rintro en w2 ⟨⟨sv, rs, rfl, hrs, hM⟩, hb2⟩
  obtain ⟨As, cs, e0, hcs, hcm, -⟩ := hM.own.rd
  rw [rowsV_len, hrs] at hcs e0
  subst e0
  have hcs9 : cs ≤ 9223372036854775807 := by unfold maxLen at hcm; omega
  have HM := hide hM
  have HRS := hide hrs
  have HB2 : Hid (Below w.heap.size w w2) := hide (HB1.out.trans (hb2.mono HB1.out.size))
  obtain ⟨P, hP⟩ : ∃ P, path1B (stray g) = P := ⟨_, rfl⟩
  rw [hP] at HM
  clear hM hb2 hrs hcm hw1 hx1 HK
  go_wp2_with fail
  go_loopw [4, 5] (fun sv z wr => ∃ a : Nat, a ≤ g.length ∧ z = .int .i64 (a : Nat) ∧ Hid (OwnV wr w2.heap.size 4 sv (bl a (fun x => P x x))) ∧ Hid (Below w2.heap.size w2 wr)) (fun _ z _ => g.length - (intOf z).toNat)
  case atStart => exact ⟨0, Nat.zero_le _, rfl, hide OwnV.nil, hide (Below.refl _ _)⟩
  case round =>
    obtain ⟨wq, rfl⟩ : ∃ x, x = wr := ⟨_, rfl⟩
    obtain ⟨a, ha, rfl, HO, HB⟩ := hrel
    obtain ⟨Ao, co, e0, hco, hcom, -⟩ := HO.out.rd
    rw [bl_len] at hco e0
    subst e0
    have hco9 : co ≤ 9223372036854775807 := by unfold maxLen at hcom; omega
    clear hcom
    by_cases hlt : a < g.length
    · have hlt' : (a : Int) < g.length := by omega
      obtain ⟨r, hr⟩ : ∃ r, rs[a]? = some r := ⟨_, List.getElem?_eq_getElem (by rw [HRS.out]; exact hlt)⟩
      have hMq := HM.out.still HB.out
      obtain ⟨D, rfl, c1⟩ := hMq.head hr
      have c2 := hMq.bit hr hlt
      clear hMq hr
      go_wp2_with (first | (refine wpList_append_v _ rfl _ _ 32 rfl w2.heap.size 4 (.bool false) 1 boolV _ (bl a (fun x => P x x)) rfl (HO.out.alloc _) _ [.bool (P a a)] rfl (rdv_one wq 4 _) ?b0 ?b1 ?b2 ?b3 ?_))
      case b0 => intro y hy; rw [List.mem_singleton.1 hy]; rfl
      case b1 => rw [bl_len, List.length_singleton]; omega
      case b2 => rw [bl_len, List.length_singleton]; unfold maxLen; omega
      case b3 => have := HB.out.size; rw [World.size_alloc]; omega
      intro v' w5 ho5 hf5 hb5
      rw [← bl_succ a (fun x => P x x)] at ho5
      have HZ := hide (And.intro ho5 ((HB.out.alloc HB.out.size _).trans (hf5.toBelow (fun g' hg' => (HO.out.size g' (by simpa using hg')).1) (by have := HB.out.size; rw [World.size_alloc]; omega))))
      clear ho5 hf5 hb5
      go_wp2_with fail
      go_roundw
      case rel => exact ⟨a + 1, by omega, by go_num, hide HZ.out.1, hide HZ.out.2⟩
      case measure => simp [intOf]; omega
    · obtain rfl : a = g.length := by omega
      have HZ := hide (And.intro (HO.out.low HB2.out.size) (HB2.out.trans (HB.out.mono HB2.out.size)))
      clear HO HB
      go_wp2_with fail
      go_ret
      exact ⟨⟨_, rfl, hP ▸ HZ.out.1⟩, HZ.out.2⟩

def compTo (M : Nat → Nat → Bool) (i k : Nat) : List Int := ((List.range k).filter fun x => x == i || (M i x && M x i)).map fun (x : Nat) => (x : Int)
theorem compTo_succ (M : Nat → Nat → Bool) (i k : Nat) : compTo M i (k + 1) = compTo M i k ++ (if (k == i || (M i k && M k i)) = true then [(k : Int)] else []) := by
  unfold compTo
  rw [List.range_succ, List.filter_append, List.map_append]
  cases e : (k == i || (M i k && M k i)) <;> simp [e]
theorem compTo_le (M : Nat → Nat → Bool) (i k : Nat) : (compTo M i k).length ≤ k := by unfold compTo; rw [List.length_map]; exact Nat.le_trans (List.length_filter_le _ _) (by simp)

set_option maxRecDepth 100000 in
set_option maxHeartbeats 4000000 in
theorem rcomp_any (A : Option Addr) (n cs base i : Nat) (rs : List Nat) (M : Nat → Nat → Bool) (w : World) (hM : BMat w base (.slice A n cs) n rs M) (hrs : rs.length = n) (hi : i < n) (hN : n ≤ 65536) :
    Calls Try.prog 19 #[.slice A n cs, .int .i64 (i : Nat)] w fun en w' => (∃ sv, en = .returned sv ∧ Own w' w.heap.size 3 .i64 sv (compTo M i n)) ∧ Below w.heap.size w w' := by
  have HM := hide hM
  have HRS := hide hrs
  have hcs9 : cs ≤ 9223372036854775807 := by obtain ⟨_, _, e, _, h, -⟩ := hM.own.rd; injection e with e1 e2 e3; subst e3; unfold maxLen at h; omega
  have hi' : (i : Int) < n := by omega
  obtain ⟨ri, hri⟩ : ∃ r, rs[i]? = some r := ⟨_, List.getElem?_eq_getElem (by rw [hrs]; exact hi)⟩
  have HRI := hide hri
  clear hM hrs hri
  go_enter Try.func19, Try.ntmps19
  go_wp2_with fail
  go_loopw [5, 6] (fun sv z wr => ∃ a : Nat, a ≤ n ∧ z = .int .i64 (a : Nat) ∧ Hid (Own wr w.heap.size 3 .i64 sv (compTo M i a)) ∧ Hid (Below w.heap.size w wr)) (fun _ z _ => n - (intOf z).toNat)
  case atStart => exact ⟨0, Nat.zero_le _, rfl, hide Own.nil, hide (Below.refl _ _)⟩
  case round =>
    obtain ⟨wq, rfl⟩ : ∃ x, x = wr := ⟨_, rfl⟩
    obtain ⟨a, ha, rfl, HO, HB⟩ := hrel
    by_cases hlt : a < n
    · have hlt' : (a : Int) < n := by omega
      obtain ⟨ra, hra⟩ : ∃ r, rs[a]? = some r := ⟨_, List.getElem?_eq_getElem (by rw [HRS.out]; exact hlt)⟩
      have hMq := HM.out.still HB.out
      obtain ⟨D, rfl, c1⟩ := hMq.head HRI.out
      obtain ⟨_, e1, c2⟩ := hMq.head hra
      injection e1 with e1
      injection e1 with e1
      subst e1
      have c3 := hMq.bit HRI.out hlt
      have c4 := hMq.bit hra hi
      have HCS := hide (compTo_succ M i a)
      obtain ⟨L, hL⟩ : ∃ L, compTo M i a = L := ⟨_, rfl⟩
      have HLL : Hid (L.length ≤ 65536) := hide (by rw [← hL]; have := compTo_le M i a; omega)
      rw [hL] at HO HCS
      obtain ⟨Ao, co, rfl, hco, hcom, -⟩ := HO.out.rd
      have hco9 : co ≤ 9223372036854775807 := by unfold maxLen at hcom; omega
      clear hMq hra hcom hL
      by_cases e : a = i
      · have e1 : ((a : Int) == (i : Int)) = true := by rw [beq_iff_eq]; omega
        have e2 : (a == i) = true := by rw [beq_iff_eq]; omega
        have HC2 : Hid (compTo M i (a + 1) = L ++ [(a : Int)]) := hide (by rw [HCS.out, e2, Bool.true_or, if_pos rfl])
        clear e e2
        go_wp2_with (first | (refine wpList_append_v _ rfl _ _ 29 rfl w.heap.size 3 (.int .i64 0) 8 intV _ (L.map (Value.int .i64)) rfl (HO.out.alloc _).toV _ [.int .i64 (a : Nat)] rfl (rdv_one wq 3 _) ?b0 ?b1 ?b2 ?b3 ?_))
        case b0 => first | rfl | (intro y hy; rw [List.mem_singleton.1 hy]; rfl)
        case b1 => have := HLL.out; (try simp only [List.length_map, List.length_singleton]); omega
        case b2 => have := HLL.out; unfold maxLen; (try simp only [List.length_map, List.length_singleton]); omega
        case b3 => have := HB.out.size; (try rw [World.size_alloc]); omega
        intro v' w5 ho5 hf5 hb5
        have ho6 : Own w5 w.heap.size 3 .i64 v' (compTo M i (a + 1)) := OwnV.toI (by rw [HC2.out, List.map_append]; exact ho5)
        have HZ := hide (And.intro ho6 ((HB.out.alloc HB.out.size _).trans (hf5.toBelow (fun g' hg' => (HO.out.size g' (by simpa using hg')).1) (by have := HB.out.size; rw [World.size_alloc]; omega))))
        clear ho6 ho5 hf5 hb5
        go_wp2_with fail
        go_roundw
        case rel => exact ⟨a + 1, by omega, by go_num, hide HZ.out.1, hide HZ.out.2⟩
        case measure => simp [intOf]; omega
      · have e1 : ((a : Int) == (i : Int)) = false := by rw [beq_eq_false_iff_ne]; omega
        have e2 : (a == i) = false := by rw [beq_eq_false_iff_ne]; exact e
        have e3 : ¬ (a : Int) = (i : Int) := by omega
        cases h1 : M i a with
        | false =>
          rw [h1] at c3
          have HO2 : Hid (Own wq w.heap.size 3 .i64 (.slice Ao L.length co) (compTo M i (a + 1))) := hide (by rw [HCS.out, e2, h1]; simpa using HO.out)
          clear h1 e e2
          go_wp2_with fail
          go_roundw
          case rel => exact ⟨a + 1, by omega, by go_num, HO2, HB⟩
          case measure => simp [intOf]; omega
        | true =>
          rw [h1] at c3
          cases h2 : M a i with
          | false =>
            rw [h2] at c4
            have HO2 : Hid (Own wq w.heap.size 3 .i64 (.slice Ao L.length co) (compTo M i (a + 1))) := hide (by rw [HCS.out, e2, h1, h2]; simpa using HO.out)
            clear h1 h2 e e2
            go_wp2_with fail
            go_roundw
            case rel => exact ⟨a + 1, by omega, by go_num, HO2, HB⟩
            case measure => simp [intOf]; omega
          | true =>
            rw [h2] at c4
            have HC2 : Hid (compTo M i (a + 1) = L ++ [(a : Int)]) := hide (by rw [HCS.out, h1, h2]; simp)
            clear h1 h2 e e2
            go_wp2_with (first | (refine wpList_append_v _ rfl _ _ 29 rfl w.heap.size 3 (.int .i64 0) 8 intV _ (L.map (Value.int .i64)) rfl (HO.out.alloc _).toV _ [.int .i64 (a : Nat)] rfl (rdv_one wq 3 _) ?b0 ?b1 ?b2 ?b3 ?_))
            case b0 => first | rfl | (intro y hy; rw [List.mem_singleton.1 hy]; rfl)
            case b1 => have := HLL.out; (try simp only [List.length_map, List.length_singleton]); omega
            case b2 => have := HLL.out; unfold maxLen; (try simp only [List.length_map, List.length_singleton]); omega
            case b3 => have := HB.out.size; (try rw [World.size_alloc]); omega
            intro v' w5 ho5 hf5 hb5
            have ho6 : Own w5 w.heap.size 3 .i64 v' (compTo M i (a + 1)) := OwnV.toI (by rw [HC2.out, List.map_append]; exact ho5)
            have HZ := hide (And.intro ho6 ((HB.out.alloc HB.out.size _).trans (hf5.toBelow (fun g' hg' => (HO.out.size g' (by simpa using hg')).1) (by have := HB.out.size; rw [World.size_alloc]; omega))))
            clear ho6 ho5 hf5 hb5
            go_wp2_with fail
            go_roundw
            case rel => exact ⟨a + 1, by omega, by go_num, hide HZ.out.1, hide HZ.out.2⟩
            case measure => simp [intOf]; omega
    · obtain rfl : a = n := by omega
      have HZ := hide (And.intro HO.out HB.out)
      clear HO HB
      go_wp2_with fail
      go_ret
      exact ⟨⟨_, rfl, HZ.out.1⟩, HZ.out.2⟩
end Go.Proofs.Ytakojoedifhcnaa

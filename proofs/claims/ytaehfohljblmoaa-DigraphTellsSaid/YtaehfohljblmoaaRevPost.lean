/-
  Layer 6 (digraph): slices.Reverse on a row of the call's own; ReversePostorder.
-/
import Derived.Test.YtaehfohljblmoaaPostorder
import Derived.BigRegion
namespace Go.Proofs.Ytaehfohljblmoaa
open Go.RowKit

/-- The first k and the last k exchanged, end for end. -/
def swp (l : List Int) (k : Nat) : List Int := (List.range l.length).map fun t => if t < k ∨ l.length - k ≤ t then l.getD (l.length - 1 - t) 0 else l.getD t 0
theorem swp_len (l : List Int) (k : Nat) : (swp l k).length = l.length := by simp [swp]
theorem swp_get (l : List Int) (k : Nat) {t : Nat} (h : t < l.length) : (swp l k)[t]? = some (if t < k ∨ l.length - k ≤ t then l.getD (l.length - 1 - t) 0 else l.getD t 0) := by simp [swp, h]
theorem swp_zero (l : List Int) : swp l 0 = l := by
  apply List.ext_getElem?
  intro t
  by_cases h : t < l.length
  · rw [swp_get l 0 h, if_neg (by omega), List.getD_eq_getElem?_getD, List.getElem?_eq_getElem h]; rfl
  · rw [List.getElem?_eq_none (by rw [swp_len]; omega), List.getElem?_eq_none (by omega)]
theorem swp_end (l : List Int) (k : Nat) (hk : l.length ≤ 2 * k + 1) : swp l k = l.reverse := by
  apply List.ext_getElem?
  intro t
  by_cases h : t < l.length
  · rw [swp_get l k h, List.getElem?_reverse h]
    by_cases h1 : t < k ∨ l.length - k ≤ t
    · rw [if_pos h1, List.getD_eq_getElem?_getD, List.getElem?_eq_getElem (show l.length - 1 - t < l.length by omega)]; rfl
    · rw [if_neg h1, List.getD_eq_getElem?_getD, List.getElem?_eq_getElem h, show l.length - 1 - t = t by omega, List.getElem?_eq_getElem h]; rfl
  · rw [List.getElem?_eq_none (by rw [swp_len]; omega), List.getElem?_eq_none (by rw [List.length_reverse]; omega)]
theorem swp_step (l : List Int) (k j : Nat) (hj : j + k + 1 = l.length) (hkj : k < j) : ((swp l k).set k (l.getD j 0)).set j (l.getD k 0) = swp l (k + 1) := by
  apply List.ext_getElem?
  intro t
  by_cases h : t < l.length
  · rw [swp_get l (k + 1) h]
    by_cases e1 : j = t
    · subst e1
      rw [List.getElem?_set_self (by rw [List.length_set, swp_len]; exact h), if_pos (by omega), show l.length - 1 - j = k by omega]
    · rw [List.getElem?_set_ne e1]
      by_cases e2 : k = t
      · subst e2
        rw [List.getElem?_set_self (by rw [swp_len]; exact h), if_pos (by omega), show l.length - 1 - k = j by omega]
      · rw [List.getElem?_set_ne e2, swp_get l k h]
        by_cases h1 : t < k ∨ l.length - k ≤ t
        · rw [if_pos h1, if_pos (by omega)]
        · rw [if_neg h1, if_neg (by omega)]
  · rw [List.getElem?_eq_none (by rw [List.length_set, List.length_set, swp_len]; omega), List.getElem?_eq_none (by rw [swp_len]; omega)]

set_option maxRecDepth 100000 in
set_option maxHeartbeats 2000000 in
theorem reverse_own (w : World) (base : Nat) (v : Value) (l : List Int) (h : Own w base 3 .i64 v l) :
    Calls Try.prog 35 #[v] w fun en w' => en = .returned (.tuple #[]) ∧ Own w' base 3 .i64 v l.reverse ∧ Frm w w' v.ownBlock.toList := by
  obtain ⟨A, c, rfl, hc, hm, -⟩ := h.rd
  have hc9 : c ≤ 9223372036854775807 := by unfold maxLen at hm; omega
  have HO := hide h
  clear h hm
  go_enter Try.func35, Try.ntmps35
  go_wp2_with fail
  go_loopw [2, 3] (fun z2 z3 wr => ∃ (k : Nat) (jz : Int), z2 = .int .i64 k ∧ z3 = .int .i64 jz ∧ jz = (l.length : Int) - 1 - k ∧ k ≤ l.length ∧ Own wr base 3 .i64 (.slice A l.length c) (swp l k) ∧ Frm w wr (Value.slice A l.length c).ownBlock.toList) (fun z2 _ _ => l.length - (intOf z2).toNat)
  case atStart => exact ⟨0, _, rfl, rfl, by omega, Nat.zero_le _, by rw [swp_zero]; exact HO.out, Frm.refl _ _⟩
  case round =>
    clear HO
    obtain ⟨wq, rfl⟩ : ∃ x, x = wr := ⟨_, rfl⟩
    obtain ⟨k, jz, rfl, rfl, hj, hk, hO, hf⟩ := hrel
    by_cases hlt : (k : Int) < jz
    · obtain ⟨j, rfl⟩ : ∃ j : Nat, jz = j := ⟨jz.toNat, by omega⟩
      have hjk : j + k + 1 = l.length := by omega
      have hkj : k < j := by omega
      obtain ⟨g', c', e1, -, -, -, -⟩ := hO.form (by rw [swp_len]; omega)
      injection e1 with e1 e2 e3
      subst e1
      have ck : wq.cell? ⟨g', k, none⟩ = some (.int .i64 (l.getD k 0)) := hO.cellAt (by rw [swp_get l k (by omega), if_neg (by omega)])
      have cj : wq.cell? ⟨g', j, none⟩ = some (.int .i64 (l.getD j 0)) := hO.cellAt (by rw [swp_get l k (by omega), if_neg (by omega)])
      have fk : wq.frozen? ⟨g', k, none⟩ = false := hO.freeAt k
      have fj : wq.frozen? ⟨g', j, none⟩ = false := hO.freeAt j
      have bk : (k : Int) < l.length := by omega
      have bj : (j : Int) < l.length := by omega
      have hjk' : ¬ j = k := by omega
      have hkj' : ¬ k = j := by omega
      have hj9 : (j : Int) ≤ 9223372036854775807 := by omega
      have HS := hide (And.intro hO (And.intro hf hjk))
      clear hO hf hj hjk e2 e3
      go_wp2_with fail
      go_region
      go_wp2_with fail
      go_roundw
      case rel =>
        have h9 := ((HS.out.1.drewN 1).set k (l.getD j 0)).set j (l.getD k 0)
        rw [swp_step l k j HS.out.2.2 hkj] at h9
        have hg : g' ∈ (Value.slice (some ⟨g', 0, none⟩) l.length c).ownBlock.toList := by simp [Value.ownBlock]
        exact ⟨k + 1, _, by go_num, rfl, by have := HS.out.2.2; omega, by omega, h9, ((HS.out.2.1.drewN 1).setCell _ _ (.inl hg)).setCell _ _ (.inl hg)⟩
      case measure => simp [intOf]; omega
    · have HZ := hide (And.intro hO hf)
      have hend : l.length ≤ 2 * k + 1 := by omega
      clear hO hf hj
      go_wp2_with fail
      go_end0
      refine ⟨rfl, ?_, HZ.out.2⟩
      have := HZ.out.1
      rw [swp_end l k hend] at this
      exact this

set_option maxRecDepth 100000 in
set_option maxHeartbeats 2000000 in
theorem revpost_any (A : Option Addr) (c : Nat) (g : List (List Int)) (v : Nat) (w : World) (hg : RdL w A c g) (hok : codeG g = 0) (hv : v < g.length) :
    Calls Try.prog 22 #[.agg #[.slice A g.length c], .int .i64 (v : Nat)] w fun en w' => (∃ ov, en = .returned ov ∧ Own w' w.heap.size 3 .i64 ov (ints (post g v).reverse)) ∧ Below w.heap.size w w' := by
  have HA : Hid (Below w.heap.size w (w.alloc (.cells #[.slice A g.length c] 24))) := hide ((Below.refl _ _).alloc (Nat.le_refl _) _)
  have HG : Hid (RdL (w.alloc (.cells #[.slice A g.length c] 24)) A c g) := hide (hg.below' HA.out)
  have HK := hide hok
  clear hg hok
  go_enter Try.func22, Try.ntmps22
  go_wp2_with fail
  refine (posto_any A c g v _ HG.out HK.out hv).mono ?_
  rintro en w2 ⟨⟨ov, rfl, ho⟩, hb⟩
  have HO := hide ho
  have HB : Hid (Below w.heap.size w w2) := hide (HA.out.trans (hb.mono HA.out.size))
  clear ho hb
  go_wp2_with fail
  refine (reverse_own w2 _ ov _ HO.out).mono ?_
  rintro en w3 ⟨rfl, ho, hf⟩
  have e : (ints (post g v)).reverse = ints (post g v).reverse := by simp [ints]
  rw [e] at ho
  have hs : w.heap.size ≤ (w.alloc (.cells #[.slice A g.length c] 24)).heap.size := HA.out.size
  have HZ : Hid (Own w3 w.heap.size 3 .i64 ov (ints (post g v).reverse) ∧ Below w.heap.size w w3) := hide ⟨ho.low hs, HB.out.trans (hf.toBelow (fun x hx => by have := (HO.out.size x (by simpa using hx)).1; omega) HB.out.size)⟩
  clear ho hf HO e hs HA HG
  go_wp2_with fail
  go_ret
  exact ⟨⟨ov, rfl, HZ.out.1⟩, HZ.out.2⟩

set_option maxRecDepth 100000 in
set_option maxHeartbeats 2000000 in
theorem revpost_bad (A : Option Addr) (c : Nat) (g : List (List Int)) (v : Int) (w : World) (hg : RdL w A c g) (hbad : codeG g ≠ 0 ∨ ¬ (0 ≤ v ∧ v < g.length)) :
    Calls Try.prog 22 #[.agg #[.slice A g.length c], .int .i64 v] w fun en w' => en = .returned (.slice none 0 0) ∧ Below w.heap.size w w' := by
  have HA : Hid (Below w.heap.size w (w.alloc (.cells #[.slice A g.length c] 24))) := hide ((Below.refl _ _).alloc (Nat.le_refl _) _)
  have HG : Hid (RdL (w.alloc (.cells #[.slice A g.length c] 24)) A c g) := hide (hg.below' HA.out)
  have HK := hide hbad
  clear hg hbad
  go_enter Try.func22, Try.ntmps22
  go_wp2_with fail
  refine (posto_bad A c g v _ HG.out HK.out).mono ?_
  rintro en w2 ⟨rfl, hb⟩
  have HB : Hid (Below w.heap.size w w2) := hide (HA.out.trans (hb.mono HA.out.size))
  clear hb
  go_wp2_with fail
  refine (reverse_own w2 0 (.slice none 0 0) [] Own.nil).mono ?_
  rintro en w3 ⟨rfl, -, hf⟩
  have HZ : Hid (Below w.heap.size w w3) := hide (HB.out.trans (hf.toBelow (by simp [Value.ownBlock]) HB.out.size))
  clear hf HB HA HG
  go_wp2_with fail
  go_ret
  exact ⟨rfl, HZ.out⟩
end Go.Proofs.Ytaehfohljblmoaa

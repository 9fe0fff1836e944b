/-
  Layer 8 (domtree): inTree and isLinked.
-/
import Derived.Test.YtlgnmlhgghabkaaTreeM
import Derived.Test.YtlgnmlhgghabkaaSmall
import Derived.Deep.RegionHeld3
namespace Go.Proofs.Ytlgnmlhgghabkaa
open Go.RowKit

/-- Is i an index in the tree? -/
def inT (n : Nat) (f : Nat → Int) (i : Int) : Bool := decide (0 ≤ i ∧ i < n ∧ f i.toNat ≠ -1)

set_option maxRecDepth 100000 in
set_option maxHeartbeats 2000000 in
theorem inTree_any (A : Option Addr) (c n : Nat) (f : Nat → Int) (i : Int) (w : World) (hI : Rd w .i64 (.slice A n c) (fz n f)) :
    Calls Try.prog 38 #[.slice A n c, .int .i64 i] w fun en w' => en = .returned (.bool (inT n f i)) ∧ w' = w := by
  by_cases h0 : 0 ≤ i
  · obtain ⟨k, rfl⟩ := Int.eq_ofNat_of_zero_le h0
    have t1 : decide ((k : Int) ≥ 0) = true := decide_eq_true h0
    have t1' : decide (0 ≤ (k : Int)) = true := decide_eq_true h0
    by_cases h1 : k < n
    · have h1' : (k : Int) < n := by omega
      have t2 : decide ((k : Int) < (n : Int)) = true := decide_eq_true h1'
      obtain ⟨b, o, rfl, -, c1⟩ := rd_at hI (fz_get f h1)
      by_cases h2 : f k = -1
      · rw [h2] at c1
        have e : inT n f (k : Int) = false := decide_eq_false (fun h => h.2.2 h2)
        rw [e]
        clear hI h2 e
        go_enter Try.func38, Try.ntmps38
        go_wp2_with fail
        go_ret
        exact ⟨rfl, rfl⟩
      · have e : inT n f (k : Int) = true := decide_eq_true ⟨h0, h1', h2⟩
        obtain ⟨z, hz⟩ : ∃ z, f k = z := ⟨_, rfl⟩
        rw [hz] at c1 h2
        have t3 : (z != (-1 : Int)) = true := by simpa using h2
        rw [e]
        clear hI h2 e hz
        go_enter Try.func38, Try.ntmps38
        go_wp2_with fail
        go_ret
        exact ⟨rfl, rfl⟩
    · have e : inT n f (k : Int) = false := decide_eq_false (fun h => by have := h.2.1; omega)
      have t2 : decide ((k : Int) < (n : Int)) = false := decide_eq_false (by omega)
      have t2' : ¬ (k : Int) < (n : Int) := by omega
      rw [e]
      clear hI e
      go_enter Try.func38, Try.ntmps38
      go_wp2_with fail
      go_ret
      exact ⟨rfl, rfl⟩
  · have e : inT n f i = false := decide_eq_false (fun h => h0 h.1)
    have t1 : decide (i ≥ 0) = false := decide_eq_false h0
    have t1' : decide (0 ≤ i) = false := decide_eq_false h0
    rw [e]
    clear hI e
    go_enter Try.func38, Try.ntmps38
    go_wp2_with fail
    go_ret
    exact ⟨rfl, rfl⟩
theorem inT_yes {n : Nat} {f : Nat → Int} {k : Nat} (h : k < n) (hf : f k ≠ -1) : inT n f (k : Int) = true := decide_eq_true ⟨by omega, by omega, hf⟩

set_option maxRecDepth 100000 in
set_option maxHeartbeats 4000000 in
theorem linked_tree {n r : Nat} {f : Nat → Int} {dp : Nat → Nat} (T : Tr n f r dp) (A : Option Addr) (c : Nat) (w : World) (hI : Rd w .i64 (.slice A n c) (fz n f)) :
    Calls Try.prog 43 #[.slice A n c] w fun en w' => en = .returned (.bool true) ∧ w' = w := by
  have HT := hide T
  have HI := hide hI
  have hn9 : n ≤ 9223372036854775807 := by have := hI.len; rw [fz_len] at this; unfold maxLen at this; omega
  clear T hI
  go_enter Try.func43, Try.ntmps43
  go_wp2_with fail
  go_loopw [3, 8] (fun k z wr => ∃ i : Nat, i ≤ n ∧ z = .int .i64 (i : Nat) ∧ k = .int .i64 ((if r < i then 1 else 0 : Nat) : Nat) ∧ wr = w) (fun _ z _ => n - (intOf z).toNat)
  case atStart => exact ⟨0, Nat.zero_le _, rfl, rfl, rfl⟩
  case round =>
    obtain ⟨i, hi, rfl, rfl, rfl⟩ := hrel
    by_cases hlt : i < n
    · have hlt' : (i : Int) < n := by omega
      obtain ⟨b, o, rfl, -, c1⟩ := rd_at HI.out (fz_get f hlt)
      by_cases h2 : f i = -1
      · rw [h2] at c1
        have hri : i ≠ r := fun e => by subst e; exact HT.out.rin h2
        have e : (if r < i + 1 then 1 else 0 : Nat) = (if r < i then 1 else 0 : Nat) := by
          by_cases c : r < i
          · rw [if_pos c, if_pos (by omega)]
          · rw [if_neg c, if_neg (by omega)]
        have HE := hide e
        have t3 : ((-1 : Int) == (i : Int)) = false := by simp
        obtain ⟨q, hq⟩ : ∃ q, (if r < i then 1 else 0 : Nat) = q := ⟨_, rfl⟩
        rw [hq] at HE ⊢
        clear h2 e hri hq
        go_wp2_with fail
        go_roundw
        case rel => exact ⟨i + 1, by omega, by go_num, by rw [HE.out], by first | rfl | trivial⟩
        case measure => simp [intOf]; omega
      · obtain ⟨u, h3, h4, h5⟩ := HT.out.val hlt h2
        have HU := hide (inTree_any (some ⟨b, o, none⟩) c n f (u : Int) _ HI.out)
        have HU2 := hide (inT_yes h4 h5)
        rw [h3] at c1
        have t1 : ((u : Int) != (-1 : Int)) = true := by simp
        rw [HU2.out] at HU
        by_cases hur : u = i
        · have hir : i = r := HT.out.self hlt (by rw [h3, hur])
          have t3 : ((u : Int) == (i : Int)) = true := by simp [hur]
          have t4 : (u == i) = true := by simp [hur]
          have HE : Hid ((if r < i + 1 then 1 else 0 : Nat) = 1) := hide (by rw [if_pos (by omega)])
          have e0 : (if r < i then 1 else 0 : Nat) = 0 := by rw [if_neg (by omega)]
          rw [e0]
          clear h2 h3 h5 e0 hir
          subst hur
          go_wp2_with fail
          refine HU.out.mono ?_
          rintro en w2 ⟨rfl, rfl⟩
          go_wp2_with fail
          go_roundw
          case rel => exact ⟨u + 1, by omega, by go_num, by rw [HE.out]; rfl, by first | rfl | trivial⟩
          case measure => simp [intOf]; omega
        · have hir : i ≠ r := fun e => by
            subst e
            rw [HT.out.root] at h3
            omega
          have t3 : ((u : Int) == (i : Int)) = false := by simp; omega
          have t4 : (u == i) = false := by simp; omega
          have HE : Hid ((if r < i + 1 then 1 else 0 : Nat) = (if r < i then 1 else 0 : Nat)) := hide (by
            by_cases c : r < i
            · rw [if_pos c, if_pos (by omega)]
            · rw [if_neg c, if_neg (by omega)])
          obtain ⟨q, hq⟩ : ∃ q, (if r < i then 1 else 0 : Nat) = q := ⟨_, rfl⟩
          rw [hq] at HE ⊢
          clear h2 h3 h5 hir hur hq
          go_wp2_with fail
          refine HU.out.mono ?_
          rintro en w2 ⟨rfl, rfl⟩
          go_wp2_with fail
          go_roundw
          case rel => exact ⟨i + 1, by omega, by go_num, by rw [HE.out], by first | rfl | trivial⟩
          case measure => simp [intOf]; omega
    · obtain rfl : i = n := by omega
      have e0 : (if r < i then 1 else 0 : Nat) = 1 := by rw [if_pos HT.out.rlt]
      rw [e0]
      clear e0
      go_wp2_with fail
      go_ret
      exact ⟨rfl, rfl⟩
end Go.Proofs.Ytlgnmlhgghabkaa

/-
  The chapter's examples, layer 5 (worklist).
-/
import Derived.Test.YthdjgbkooeabfaaShop
namespace Go.Proofs.Ythdjgbkooeabfaa
open Go.RowKit

/-- Two queues side by side: a ring, and a heap of the ranks 5, 1, 5. -/
structure Duo (w W : World) (B D : Nat) (q p : List Nat) : Prop where
  r : QRing W B 3 q
  h : QHeap W D 3 [5, 1, 5] p
  below : Below w.heap.size w W
  low : w.heap.size ≤ B
  far : B + 3 < D
section
variable {w W W' : World} {B D : Nat} {q p : List Nat}
theorem Duo.pushR (d : Duo w W B D q p) (z : Int) (x : Nat) (hz : z = x) (hx : x < 3) (hq : x ∉ q) :
    Calls Try.prog 14 #[.pointer (some ⟨B + 3, 0, none⟩), .int .i64 z] W fun en W' => en = .returned (.bool true) ∧ Duo w W' B D (q ++ [x]) p := by
  subst hz
  refine ((ringShop 3).push x d.r hx hq).mono fun _ _ ⟨a, b, c⟩ => ⟨a, b, d.h.frm c (fun g hg => ?_), d.below.trans (c.toBelow (fun g hg => ?_) d.below.size), d.low, d.far⟩
  · have h1 := (mem_blocks.1 hg).2; have := d.far; have h2 : (ringShop 3).W = 3 := rfl; omega
  · have h1 := (mem_blocks.1 hg).1; have := d.low; omega
theorem Duo.pushNo (d : Duo w W B D q p) (z : Int) (x : Nat) (hz : z = x) (hq : x ∈ q) :
    Calls Try.prog 14 #[.pointer (some ⟨B + 3, 0, none⟩), .int .i64 z] W fun en W' => en = .returned (.bool false) ∧ Duo w W' B D q p := by
  subst hz
  exact ((ringShop 3).pushNo (x : Int) d.r (fun h => h.2.2 (by simpa using hq))).mono fun _ _ ⟨a, b⟩ => ⟨a, b ▸ d⟩
theorem Duo.popR (x : Nat) (d : Duo w W B D (x :: q) p) :
    Calls Try.prog 15 #[.pointer (some ⟨B + 3, 0, none⟩)] W fun en W' => en = .returned (.tuple #[.int .i64 x, .bool true]) ∧ Duo w W' B D q p := by
  obtain ⟨k, y, hk, hp, hc⟩ := (ringShop 3).pop d.r (by simp)
  obtain rfl : k = 0 := hp
  obtain rfl : x = y := by simpa using hk
  refine hc.mono fun _ _ ⟨a, b, c⟩ => ⟨a, b, d.h.frm c (fun g hg => ?_), d.below.trans (c.toBelow (fun g hg => ?_) d.below.size), d.low, d.far⟩
  · have h1 := (mem_blocks.1 hg).2; have := d.far; have h2 : (ringShop 3).W = 3 := rfl; omega
  · have h1 := (mem_blocks.1 hg).1; have := d.low; omega
theorem Duo.lenR (d : Duo w W B D q p) : Calls Try.prog 16 #[.pointer (some ⟨B + 3, 0, none⟩)] W fun en W' => en = .returned (.int .i64 (q.length : Nat)) ∧ W = W' := (ringShop 3).len d.r
theorem Duo.hasR (d : Duo w W B D q p) (z : Int) {b : Bool} (e : decide (0 ≤ z ∧ z.toNat ∈ q) = b) : Calls Try.prog 17 #[.pointer (some ⟨B + 3, 0, none⟩), .int .i64 z] W fun en W' => en = .returned (.bool b) ∧ W = W' := e ▸ (ringShop 3).has z d.r
theorem Duo.pushH (d : Duo w W B D q p) (x : Nat) (hx : x < 3) (hq : x ∉ p) :
    Calls Try.prog 14 #[.pointer (some ⟨D + 4, 0, none⟩), .int .i64 x] W fun en W' => en = .returned (.bool true) ∧ Duo w W' B D q (p ++ [x]) := by
  refine ((heapShop [5, 1, 5]).push x d.h hx hq).mono fun _ _ ⟨a, b, c⟩ => ⟨a, d.r.frm c (fun g hg => ?_), b, d.below.trans (c.toBelow (fun g hg => ?_) d.below.size), d.low, d.far⟩
  · have h1 := (mem_blocks.1 hg).1; have := d.far; omega
  · have h1 := (mem_blocks.1 hg).1; have := d.low; have := d.far; omega
theorem Duo.popH (d : Duo w W B D q [0, 1, 2]) :
    Calls Try.prog 15 #[.pointer (some ⟨D + 4, 0, none⟩)] W fun en W' => en = .returned (.tuple #[.int .i64 1, .bool true]) ∧ Duo w W' B D q [0, 2] := by
  obtain ⟨k, y, hk, hp, hc⟩ := (heapShop [5, 1, 5]).pop d.h (by simp)
  have hp : Least [5, 1, 5] [0, 1, 2] y := hp
  have hy : y = 1 := by
    have hm := List.mem_of_getElem? hk
    have h1 := hp 1 (by simp)
    simp only [List.mem_cons, List.not_mem_nil, or_false] at hm
    rcases hm with rfl | rfl | rfl
    · exact absurd h1 (by decide)
    · rfl
    · exact absurd h1 (by decide)
  subst hy
  have hk1 : k = 1 := by
    rcases k with _ | _ | _ | k
    · simp at hk
    · rfl
    · simp at hk
    · simp at hk
  subst hk1
  refine hc.mono fun _ _ ⟨a, b, c⟩ => ⟨a, d.r.frm c (fun g hg => ?_), b, d.below.trans (c.toBelow (fun g hg => ?_) d.below.size), d.low, d.far⟩
  · have h1 := (mem_blocks.1 hg).1; have := d.far; omega
  · have h1 := (mem_blocks.1 hg).1; have := d.low; have := d.far; omega
end

theorem range_snoc (k : Nat) : List.range k ++ [k] = List.range (k + 1) := List.range_succ.symm

set_option maxHeartbeats 2000000 in
theorem works_any (w : World) : Calls Try.prog 8 #[] w fun en w' => en = .returned (.bool true) ∧ Below w.heap.size w w' := by
  go_enter Try.func8, Try.ntmps8
  go_wp2_with fail
  refine (new_ring 3 w).mono ?_
  rintro en w1 ⟨rfl, hr1, hf1⟩
  have hrm : room 3 = 3 := rfl
  rw [hrm] at hr1
  have H1 := hide (And.intro hr1 hf1)
  have hs1 : w.heap.size + 3 < w1.heap.size := hr1.lt
  have hrd : Rd (w1.alloc (.cells #[.int .i64 5, .int .i64 1, .int .i64 5] 3)) .i64 (.slice (some ⟨w1.heap.size, 0, none⟩) 3 3) [5, 1, 5] := rd_block w1 3 [5, 1, 5] (by unfold maxLen; decide)
  have HB := hide (byrank_any _ _ [5, 1, 5] hrd (by decide))
  have hfa := hide ((Frm.refl w1 []).alloc (.cells #[.int .i64 5, .int .i64 1, .int .i64 5] 3))
  clear hr1 hf1 hrd hrm
  go_wp2_with fail
  refine HB.out.mono ?_
  rintro en w2 ⟨rfl, hh2, hf2⟩
  rw [World.size_alloc] at *
  have hD : Duo w w2 w.heap.size (w1.heap.size + 1) [] [] := ⟨(H1.out.1.frm hfa.out (by simp)).frm hf2 (by simp), hh2, (((H1.out.2.toBelow (by simp) (Nat.le_refl _)).trans (hfa.out.toBelow (by simp) H1.out.2.size))).trans (hf2.toBelow (by simp) (by rw [World.size_alloc]; omega)), Nat.le_refl _, by omega⟩
  have HD := hide hD
  clear hD hh2 hf2 hfa H1 HB
  go_wp2_with fail
  refine (HD.out.pushR 2 2 rfl (by decide) (by simp)).mono ?_
  rintro en w3 ⟨rfl, hD⟩
  clear HD
  have HD := hide hD
  clear hD
  go_wp2_with fail
  refine (HD.out.pushR 0 0 rfl (by decide) (by simp)).mono ?_
  rintro en w4 ⟨rfl, hD⟩
  clear HD
  have HD := hide hD
  clear hD
  go_wp2_with fail
  refine (HD.out.pushNo 2 2 rfl (by simp)).mono ?_
  rintro en w5 ⟨rfl, hD⟩
  clear HD
  have HD : Hid (Duo w w5 w.heap.size (w1.heap.size + 1) [2, 0] []) := hide hD
  clear hD
  go_wp2_with fail
  refine (HD.out.popR 2).mono ?_
  rintro en w6 ⟨rfl, hD⟩
  clear HD
  have HD := hide hD
  clear hD
  go_wp2_with fail
  go_loopw [31] (fun z wr => ∃ k : Nat, k ≤ 3 ∧ z = .int .i64 k ∧ Duo w wr w.heap.size (w1.heap.size + 1) [0] (List.range k)) (fun z _ => 3 - (intOf z).toNat)
  case atStart => exact ⟨0, by omega, rfl, HD.out⟩
  case round =>
    clear HD
    obtain ⟨wq, rfl⟩ : ∃ x, x = wr := ⟨_, rfl⟩
    obtain ⟨k, hk, rfl, hD⟩ := hrel
    have HD := hide hD
    clear hD
    by_cases hlt : k < 3
    · have hlt' : (k : Int) < 3 := by omega
      go_wp2_with fail
      refine (HD.out.pushH k hlt (by simp)).mono ?_
      rintro en w7 ⟨rfl, hD⟩
      rw [range_snoc] at hD
      clear HD
      have HD := hide hD
      clear hD
      go_wp2_with fail
      go_roundw
      case rel => exact ⟨k + 1, by omega, by go_num, HD.out⟩
      case measure => simp [intOf]; omega
    · obtain rfl : k = 3 := by omega
      go_wp2_with fail
      refine (Duo.popH HD.out).mono ?_
      rintro en w7 ⟨rfl, hD⟩
      clear HD
      have HD := hide hD
      clear hD
      go_wp2_with (first | (go_at_call 16; refine HD.out.lenR.mono ?_; rintro en w' ⟨rfl, rfl⟩))
      refine (HD.out.hasR 0 (b := true) (by decide)).mono ?_
      rintro en w' ⟨rfl, rfl⟩
      go_wp2_with fail
      refine (HD.out.hasR 2 (b := false) (by decide)).mono ?_
      rintro en w' ⟨rfl, rfl⟩
      go_wp2_with fail
      go_ret
      exact ⟨by simp, HD.out.below⟩
end Go.Proofs.Ythdjgbkooeabfaa

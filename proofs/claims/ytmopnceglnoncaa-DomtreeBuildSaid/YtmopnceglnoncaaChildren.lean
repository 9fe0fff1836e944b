/-
  Layer 8 (domtree): Children of a tree.
-/
import Derived.Test.YtmopnceglnoncaaDepths
import Derived.Test.YtmopnceglnoncaaImm
namespace Go.Proofs.Ytmopnceglnoncaa
open Go.RowKit Go.Shelf

attribute [local go_sem] Oper.semAt_some

theorem isTree_tree {n r : Nat} {f : Nat → Int} {dp : Nat → Nat} (T : Tr n f r dp) (hn : n ≤ 65536) (A : Option Addr) (c : Nat) (w : World) (hI : Rd w .i64 (.slice A n c) (fz n f)) :
    Calls Try.prog 37 #[.slice A n c] w fun en w' => en = .returned (.bool true) ∧ Below w.heap.size w w' := by
  have HK := hide (callsIn_wide.1 (depths_in T hn 3 (Nat.le_refl _) A c w hI))
  have h0 : (0 : Int) < n := by have := T.rlt; omega
  have t1 : decide ((0 : Int) < (n : Int)) = true := decide_eq_true h0
  have t2 : decide ((n : Int) > 0) = true := decide_eq_true h0
  have t3 : decide (0 < n) = true := decide_eq_true (by omega)
  clear T hI
  go_enter Try.func37, Try.ntmps37
  go_wp2_with fail
  refine HK.out.mono ?_
  rintro en w2 ⟨D, rfl, -, hb⟩
  have HB := hide hb
  clear hb HK
  go_wp2_with fail
  go_ret
  exact ⟨rfl, HB.out⟩
end Go.Proofs.Ytmopnceglnoncaa

namespace Go.Proofs.Ytmopnceglnoncaa
open Go.RowKit

/-- Those of the first k indices whose element is i, other than i. -/
def kidsTo (f : Nat → Int) (k i : Nat) : List Nat := (List.range k).filter fun x => decide (f x = (i : Int) ∧ x ≠ i)
theorem kidsTo_succ (f : Nat → Int) (k i : Nat) : kidsTo f (k + 1) i = kidsTo f k i ++ (if f k = (i : Int) ∧ k ≠ i then [k] else []) := by
  unfold kidsTo
  rw [List.range_succ, List.filter_append]
  congr 1
  by_cases h : f k = (i : Int) ∧ k ≠ i
  · rw [if_pos h]; simp [h]
  · rw [if_neg h]; simp [h]
theorem kidsTo_len (f : Nat → Int) (k i : Nat) : (kidsTo f k i).length ≤ k := by
  unfold kidsTo
  have := List.length_filter_le (fun x => decide (f x = (i : Int) ∧ x ≠ i)) (List.range k)
  rwa [List.length_range] at this

set_option maxRecDepth 100000 in
set_option maxHeartbeats 8000000 in
theorem children_tree {n r : Nat} {f : Nat → Int} {dp : Nat → Nat} (T : Tr n f r dp) (hn : n ≤ 65536) (A : Option Addr) (c : Nat) (w : World) (hI : Rd w .i64 (.slice A n c) (fz n f)) :
    Calls Try.prog 23 #[.slice A n c] w fun en w' => ∃ D R, en = .returned (.slice (some ⟨D, 0, none⟩) n n) ∧ OwnL w' w.heap.size D R (wl n (kidsTo f n)) ∧ Below w.heap.size w w' := by
  have HTR := hide (isTree_tree T hn A c w hI)
  have hmk := fun W => run_made W 22 28 (.slice none 0 0) 24 Try.underlying22 infoInts rfl (by omega) n (by omega)
  have HT := hide T
  have HI := hide hI
  clear T hI
  go_enter Try.func23, Try.ntmps23
  go_wp2_with fail
  refine HTR.out.mono ?_
  rintro en w1 ⟨rfl, hb1⟩
  obtain ⟨D, hD⟩ : ∃ D, w1.heap.size = D := ⟨_, rfl⟩
  obtain ⟨w2, hw2⟩ : ∃ x, w1.alloc (.cells (madeCells #[.slice none 0 0] n) 28) = x := ⟨_, rfl⟩
  have hL2 := OwnL.made w1 w1.heap.size n (by unfold maxLen; omega) (Nat.le_refl _)
  rw [hw2, hD, ← wl_nil] at hL2
  have HL2 : Hid (OwnL w2 D D (List.replicate n (.slice none 0 0)) (wl n (kidsTo f 0))) := hide hL2
  have HB2 : Hid (Below w.heap.size w w2) := hide (by rw [← hw2]; exact hb1.trans ((Below.refl _ _).alloc (Nat.le_refl _) _ |>.mono hb1.size))
  have HWD : Hid (w.heap.size ≤ D) := hide (by rw [← hD]; exact hb1.size)
  clear hL2 hb1
  go_wp2_with fail
  clear hw2 hD hmk
  go_loopw [14] (fun z wr => ∃ (i : Nat) (R : List Value), i ≤ n ∧ z = .int .i64 (i : Nat) ∧ Hid (OwnL wr D D R (wl n (kidsTo f i))) ∧ Hid (Below w.heap.size w wr)) (fun z _ => n - (intOf z).toNat)
  case atStart => exact ⟨0, _, Nat.zero_le _, rfl, HL2, HB2⟩
  case round =>
    clear HL2 HB2
    obtain ⟨wq, rfl⟩ : ∃ x, x = wr := ⟨_, rfl⟩
    obtain ⟨i, R, hi, rfl, HL, HB⟩ := hrel
    by_cases hlt : i < n
    · have hlt' : (i : Int) < n := by omega
      obtain ⟨b, o, rfl, -, c1⟩ := rd_at (HI.out.below' HB.out) (fz_get f hlt)
      by_cases h2 : f i = -1
      · rw [h2] at c1
        have e : wl n (kidsTo f (i + 1)) = wl n (kidsTo f i) := by
          unfold wl
          exact List.map_congr_left fun j _ => by rw [kidsTo_succ, if_neg (by rw [h2]; omega), List.append_nil]
        have HE : Hid (OwnL wq D D R (wl n (kidsTo f (i + 1)))) := hide (by rw [e]; exact HL.out)
        have t1 : ((-1 : Int) != (-1 : Int)) = false := by decide
        clear h2 e
        go_wp2_with fail
        go_roundw
        case rel => exact ⟨i + 1, R, by omega, by go_num, HE, HB⟩
        case measure => simp [intOf]; omega
      · obtain ⟨u, h3, h4, h5⟩ := HT.out.val hlt h2
        rw [h3] at c1
        have t1 : ((u : Int) != (-1 : Int)) = true := by simp
        by_cases hur : u = i
        · have t3 : ((u : Int) != (i : Int)) = false := by simp [hur]
          have t4 : (u != i) = false := by simp [hur]
          have e : wl n (kidsTo f (i + 1)) = wl n (kidsTo f i) := by
            unfold wl
            exact List.map_congr_left fun j _ => by rw [kidsTo_succ, if_neg (by rw [h3, hur]; omega), List.append_nil]
          have HE : Hid (OwnL wq D D R (wl n (kidsTo f (i + 1)))) := hide (by rw [e]; exact HL.out)
          clear h2 h3 h5 e
          go_wp2_with fail
          go_roundw
          case rel => exact ⟨i + 1, R, by omega, by go_num, HE, HB⟩
          case measure => simp [intOf]; omega
        · have t3 : ((u : Int) != (i : Int)) = true := by simp; omega
          have t4 : (u != i) = true := by simp; omega
          have hu' : (u : Int) < n := by omega
          have hRl : R.length = n := by rw [HL.out.len, wl_len]
          obtain ⟨v, hv⟩ : ∃ v, R[u]? = some v := ⟨_, List.getElem?_eq_getElem (by omega)⟩
          have hrow := HL.out.row u v _ hv (wl_get (kidsTo f i) h4)
          have k1 := HL.out.own.cellAt hv
          obtain ⟨Av, cv, rfl, hcv, hcm, -⟩ := hrow.rd
          rw [ints_len] at hcv k1
          have hcv9 : cv ≤ 9223372036854775807 := by unfold maxLen at hcm; omega
          have hkl := kidsTo_len f i u
          have HRW := hide hrow
          have HV := hide hv
          have HWL : Hid ((wl n (kidsTo f i)).set u (ints (kidsTo f i u) ++ [(i : Int)]) = wl n (kidsTo f (i + 1))) := hide (wl_set (by rw [kidsTo_succ, if_pos ⟨h3, by omega⟩, ints_snoc]) (fun j hj => by rw [kidsTo_succ, if_neg (fun d => hj (by have := d.1; rw [h3] at this; omega)), List.append_nil]))
          have hDs : D ≤ wq.heap.size := by have := HL.out.lt; omega
          clear hrow hv hcm h2 h3 h5
          go_wp2_with (first | (refine wpList_append_rd _ rfl _ _ 28 rfl D 3 .i64 8 intE _ (ints (kidsTo f i u)) (by rw [ints_len]; rfl) (HRW.out.alloc _) _ [(i : Int)] rfl (rd_one wq 3 (i : Int)) ?b1 ?b2 ?b3 ?_))
          case b1 => rw [ints_len, List.length_singleton]; omega
          case b2 => unfold maxLen; rw [ints_len, List.length_singleton]; omega
          case b3 => rw [World.size_alloc]; omega
          intro v' w5 ho5 hg5 _ hb5
          have hf5 := Frm.grown hg5
          have hP := (HL.out.frm ((Frm.refl wq []).alloc (.cells #[.int .i64 (i : Int)] 3))).push HV.out (wl_get (kidsTo f i) h4) hf5 ho5 (hb5.imp id (fun h g' hg' => by rw [h] at hg'; injection hg' with e; (try rw [World.size_alloc]); omega))
          rw [HWL.out] at hP
          have hnD : D ∉ (Value.slice Av (ints (kidsTo f i u)).length cv).ownBlock.toList := fun hm => HL.out.apart u _ HV.out (by simpa using hm)
          have k2 : w5.cell? ⟨D, u, none⟩ = some (.slice Av (kidsTo f i u).length cv) := (hf5.cell (p := ⟨D, u, none⟩) (by have := HL.out.lt; rw [World.size_alloc]; show D < _; omega) hnD).trans (((Below.refl wq.heap.size wq).alloc (Nat.le_refl _) _).cell (p := ⟨D, u, none⟩) HL.out.lt.2 |>.trans k1)
          have k2f : w5.frozen? ⟨D, u, none⟩ = false := (HL.out.own.frm (((Frm.refl wq _).alloc (.cells #[.int .i64 (i : Int)] 3)).trans hf5) (fun g' hg' => by
            have e : g' = D := by simpa [Value.ownBlock] using hg'.symm
            rw [e]; exact hnD)).freeAt u
          have HBN : Hid (Below w.heap.size w (w5.setCell ⟨D, u, none⟩ v')) := hide ((HB.out.trans ((((Frm.refl wq (Value.slice Av (ints (kidsTo f i u)).length cv).ownBlock.toList).alloc _).trans hf5).toBelow (fun g hg => by have := (HRW.out.size g (by simpa using hg)).1; have := HWD.out; omega) HB.out.size)).setCell (p := ⟨D, u, none⟩) HWD.out _)
          have HPN := hide hP
          obtain ⟨A5, c5, e9, -, -, -⟩ := ho5.rd
          rw [List.length_append, List.length_singleton, ints_len] at e9
          subst e9
          clear hP hf5 ho5 hg5 hb5 hnD k1
          go_wp2_with fail
          go_roundw
          case rel => exact ⟨i + 1, _, by omega, by go_num, HPN, HBN⟩
          case measure => simp [intOf]; omega
    · obtain rfl : i = n := by omega
      have hRl : R.length = i := by rw [HL.out.len, wl_len]
      have HZ := hide (And.intro (HL.out.low HWD.out) HB.out)
      clear HL HB hRl
      go_wp2_with fail
      go_ret
      exact ⟨D, R, rfl, HZ.out.1, HZ.out.2⟩
end Go.Proofs.Ytmopnceglnoncaa

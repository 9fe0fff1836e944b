/-
  The reference's set of layer 3 (bitset): fits, All, Count.
-/
import Derived.Test.YtbnikoomgeaboaaDoorRef2
import Derived.Deep.QuietTactic
import Derived.BigQuiet
namespace Go.Proofs.YtbnikoomgeaboaaDoor
open Go.RowKit

/-- What is read of a set. -/
structure RRd (w : World) (R n c : Nat) (A : Option Addr) : Prop where
  c0 : w.cell? ⟨R, 0, none⟩ = some (.bool true)
  c1 : w.cell? ⟨R, 1, none⟩ = some (.slice A n c)
  big : n ≤ 65536 ∧ n ≤ c ∧ c ≤ 9223372036854775807
theorem RAt.rrd {w : World} {L R n : Nat} {f : Nat → Bool} {F : List Nat} (h : RAt w L R n f F) : ∃ A c, RRd w R n c A ∧ ∀ i, i < n → ∃ b off, A = some ⟨b, off, none⟩ ∧ w.cell? ⟨b, off + i, none⟩ = some (.bool (f i)) := by
  obtain ⟨hv, h1, h2, -, -, -, h65⟩ := h
  obtain ⟨A, c, rfl, hc, hm, hr⟩ := h2.rd
  rw [bl_len] at h1 hc hr
  refine ⟨A, c, ⟨h1.cell 0, h1.cell 1, h65, hc, by unfold maxLen at hm; omega⟩, fun i hi => ?_⟩
  obtain ⟨b, off, e, _, hcell⟩ := hr (by omega)
  exact ⟨b, off, e, hcell i _ (bl_get f hi)⟩
theorem RRd.drewN {w : World} {R n c : Nat} {A : Option Addr} (h : RRd w R n c A) (m : Nat) : RRd (w.drewN m) R n c A := ⟨h.c0, h.c1, h.big⟩

theorem rok_is (w : World) (R n c : Nat) (A : Option Addr) (h : RRd w R n c A) : Calls Tryd.prog 35 #[.pointer (some ⟨R, 0, none⟩)] w fun en w' => en = .returned (.bool true) ∧ w = w' := by
  have c0 := h.c0
  clear h
  go_enter Tryd.func35, Tryd.ntmps35
  go_wp2_with fail
  go_ret
  exact ⟨rfl, rfl⟩

/-- fits: both made. -/
theorem rfits_set (w : World) (R n c R' n' c' : Nat) (A A' : Option Addr) (h : RRd w R n c A) (k : RRd w R' n' c' A') :
    Calls Tryd.prog 38 #[.pointer (some ⟨R, 0, none⟩), .pointer (some ⟨R', 0, none⟩)] w fun en w' => en = .returned (.bool (decide (n = n'))) ∧ ∃ m, w' = w.drewN m := by
  obtain ⟨v, hv⟩ : ∃ v : Bool, v = decide (n = n') := ⟨_, rfl⟩
  rw [← hv]
  have hn := h.big
  have hn' := k.big
  have t : ((n : Int) == (n' : Int)) = v := by
    rw [hv]
    by_cases e : n = n'
    · simp [e]
    · rw [decide_eq_false e, beq_eq_false_iff_ne]; omega
  have t' : (n == n') = v := by
    rw [hv]
    by_cases e : n = n'
    · simp [e]
    · rw [decide_eq_false e, beq_eq_false_iff_ne]; exact e
  have c1 := h.c1
  have d1 := k.c1
  have HV : Hid (∀ (m : Nat) (p : Value), p = .pointer (some ⟨R, 0, none⟩) ∨ p = .pointer (some ⟨R', 0, none⟩) → Calls Tryd.prog 35 #[p] (w.drewN m) fun en w' => en = .returned (.bool true) ∧ w.drewN m = w') := hide (fun m p e => by
    rcases e with rfl | rfl
    · exact rok_is _ _ _ _ _ (h.drewN m)
    · exact rok_is _ _ _ _ _ (k.drewN m))
  clear h k hv
  go_enter Tryd.func38, Tryd.ntmps38
  go_wp2_with fail
  go_quiet (first | (go_at_call 35; exact Calls.quiet_of_same ((HV.out _ _ (by first | exact .inl rfl | exact .inr rfl)).mono fun _ _ ⟨a, b⟩ => ⟨a, b.symm⟩)))
  go_wp2_with fail
  go_ret
  exact ⟨by simp, _, rfl⟩
theorem rfits_nil (w : World) (v : Value) :
    Calls Tryd.prog 38 #[.pointer none, v] w fun en w' => en = .returned (.bool false) ∧ ∃ m, w' = w.drewN m := by
  go_enter Tryd.func38, Tryd.ntmps38
  go_wp2_with fail
  go_quiet (first | (go_at_call 35; exact Calls.quiet_of_same ((rok_nil _).mono fun _ _ ⟨a, b⟩ => ⟨a, b.symm⟩)))
  go_wp2_with fail
  go_ret
  exact ⟨rfl, _, rfl⟩
/-- The elements below k. -/
def upto (f : Nat → Bool) (k : Nat) : List Nat := (List.range k).filter f
theorem upto_len (f : Nat → Bool) (k : Nat) : (upto f k).length ≤ k := by
  have := List.length_filter_le f (List.range k)
  rw [List.length_range] at this
  exact this
theorem upto_succ (f : Nat → Bool) (k : Nat) : upto f (k + 1) = if f k then upto f k ++ [k] else upto f k := by
  unfold upto
  rw [List.range_succ, List.filter_append]
  cases h : f k <;> simp [h]

theorem rall_nil (w : World) : Calls Tryd.prog 44 #[.pointer none] w fun en w' => en = .returned (.slice none 0 0) ∧ w = w' := by
  go_enter Tryd.func44, Tryd.ntmps44
  go_wp2_with fail
  go_loop [4, 3] (fun i v => i = .int .i64 0 ∧ v = .slice none 0 0) (fun _ _ => 0)
  case atStart => exact ⟨rfl, rfl⟩
  case round =>
    obtain ⟨rfl, rfl⟩ := hrel
    go_wp2_with (go_at_call 42; refine (rcap_nil _).mono ?_; rintro en w' ⟨rfl, rfl⟩)
    go_ret
    exact ⟨rfl, rfl⟩

set_option maxRecDepth 100000 in
theorem rall_set (w : World) (L R n : Nat) (f : Nat → Bool) (F : List Nat) (h : RAt w L R n f F) :
    Calls Tryd.prog 44 #[.pointer (some ⟨R, 0, none⟩)] w fun en w' => ∃ v, en = .returned v ∧ OwnV w' w.heap.size 3 v (nums (upto f n)) ∧ Below w.heap.size w w' := by
  have H := hide h
  obtain ⟨hv, -, -, -, -, -, h65⟩ := h
  go_enter Tryd.func44, Tryd.ntmps44
  go_wp2_with fail
  go_loopw [4, 3] (fun i v wr => ∃ (k : Nat) (A : Option Addr) (c : Nat), k ≤ n ∧ i = .int .i64 k ∧ v = .slice A (upto f k).length c ∧ OwnV wr w.heap.size 3 (.slice A (upto f k).length c) (nums (upto f k)) ∧ Below w.heap.size w wr) (fun i _ _ => n - (intOf i).toNat)
  case atStart => exact ⟨0, none, 0, Nat.zero_le _, rfl, rfl, OwnV.nil, Below.refl _ _⟩
  case round =>
    obtain ⟨wq, rfl⟩ : ∃ x, x = wr := ⟨_, rfl⟩
    obtain ⟨k, A, c, hk, rfl, rfl, ho, hb⟩ := hrel
    have hS : RAt wq L R n f F := H.out.frm (S := []) (Frm.below hb) (by simp)
    have HC := hide (rcap_set wq L R n f F hS)
    obtain ⟨Ah, ch, hrd, hcell⟩ := hS.rrd
    have HO := hide (And.intro ho hb)
    have hnl := nums_len (upto f k)
    have hul := upto_len f k
    have hbs := hb.size
    clear ho hb hS
    by_cases hlt : k < n
    · have hlt' : (k : Int) < n := by omega
      obtain ⟨b, off, rfl, ck⟩ := hcell k hlt
      have c1 := hrd.c1
      have hc9 := hrd.big.2.2
      have hus := upto_succ f k
      clear hcell hrd
      cases hfk : f k
      · rw [hfk] at ck hus
        have HU := hide (show upto f (k + 1) = upto f k from hus)
        clear hus hfk
        go_wp2_with (go_at_call 42; refine HC.out.mono ?_; rintro en w' ⟨rfl, rfl⟩)
        go_roundw
        case rel => exact ⟨k + 1, A, c, by omega, by go_num, by rw [HU.out], by rw [HU.out]; exact HO.out.1, HO.out.2⟩
        case measure => simp [intOf]; omega
      · rw [hfk] at ck hus
        have HU := hide (show upto f (k + 1) = upto f k ++ [k] from hus)
        clear hus hfk
        go_wp2_with (first | (go_at_call 42; refine HC.out.mono ?_; rintro en w' ⟨rfl, rfl⟩) | (refine wpList_append_v _ rfl _ _ 28 rfl w.heap.size 3 (.int .i64 0) 8 intV _ (nums (upto f k)) rfl (HO.out.1.alloc _) _ [.int .i64 (k : Int)] rfl (rd_one wq 3 (k : Int)).toV ?b0 ?b1 ?b2 ?b3 ?_))
        case b0 =>
          intro x hx
          obtain rfl : x = .int .i64 (k : Int) := by simpa using hx
          rfl
        case b1 => simp only [List.length_singleton, hnl]; omega
        case b2 => simp only [List.length_singleton, hnl]; unfold maxLen; omega
        case b3 => rw [World.size_alloc]; omega
        intro v' w2 ho hf hblk
        have ho : OwnV w2 w.heap.size 3 v' (nums (upto f (k + 1))) := by rw [HU.out, nums_snoc]; exact ho
        obtain ⟨A2, c2, rfl, -, -, -⟩ := ho.rd
        rw [nums_len] at ho ⊢
        have hb2 : Below w.heap.size w w2 := HO.out.2.trans ((((Frm.refl wq _).alloc _).trans hf).toBelow (fun g hg => (HO.out.1.size g (by simpa using hg)).1) HO.out.2.size)
        have HZ := hide (And.intro ho hb2)
        clear ho hf hblk hb2 HO HC
        go_wp2_with fail
        go_roundw
        case rel => exact ⟨k + 1, A2, c2, by omega, by go_num, rfl, HZ.out.1, HZ.out.2⟩
        case measure => simp [intOf]; omega
    · obtain rfl : k = n := by omega
      clear hcell hrd
      go_wp2_with (go_at_call 42; refine HC.out.mono ?_; rintro en w' ⟨rfl, rfl⟩)
      go_ret
      exact ⟨_, rfl, HO.out⟩

theorem rcount_nil (w : World) : Calls Tryd.prog 43 #[.pointer none] w fun en w' => en = .returned (.int .i64 0) ∧ w = w' := by
  go_enter Tryd.func43, Tryd.ntmps43
  go_wp2_with (go_at_call 44; refine (rall_nil _).mono ?_; rintro en w' ⟨rfl, rfl⟩)
  go_ret
  exact ⟨rfl, rfl⟩
theorem rcount_set (w : World) (L R n : Nat) (f : Nat → Bool) (F : List Nat) (h : RAt w L R n f F) :
    Calls Tryd.prog 43 #[.pointer (some ⟨R, 0, none⟩)] w fun en w' => en = .returned (.int .i64 (upto f n).length) ∧ Below w.heap.size w w' := by
  have HA := hide (rall_set w L R n f F h)
  clear h
  go_enter Tryd.func43, Tryd.ntmps43
  go_wp2_with fail
  refine HA.out.mono ?_
  rintro en w1 ⟨v, rfl, ho, hb⟩
  obtain ⟨A, c, rfl, -, -, -⟩ := ho.rd
  have hnl := nums_len (upto f n)
  have HB := hide hb
  rw [hnl]
  clear ho hb HA
  go_wp2_with fail
  go_ret
  exact ⟨rfl, HB.out⟩
end Go.Proofs.YtbnikoomgeaboaaDoor

/-
  The examples of the chapter hold, layer 4 (intern).
-/
import Derived.Test.YtcenbpjkndhlgaaTable2
import Derived.Test.YtcenbpjkndhlgaaHash
import Derived.Lib.SlBytesConst
namespace Go.Proofs.Ytcenbpjkndhlgaa
open Go.RowKit Go.Maps

theorem byt1 {x : Int} (h : 0 ≤ x ∧ x ≤ 255) : Byt [x] := by
  intro z hz
  rw [List.mem_singleton] at hz
  subst hz; exact h

theorem awake_any (w : World) : Calls Try.prog 6 #[] w fun en w' => en = .returned (.bool true) ∧ Below w.heap.size w w' := by
  go_enter Try.func6, Try.ntmps6
  go_wp2_with fail
  refine (new_any 2 w).mono ?_
  rintro en w0 ⟨rfl, ht0, hf0⟩
  have e0 : clamp 2 = 2 := rfl
  rw [e0] at ht0
  have hs0 := hf0.size
  obtain ⟨F0, hF0⟩ : ∃ F0, F0 = [w.heap.size, w.heap.size + 1] := ⟨_, rfl⟩
  rw [← hF0] at ht0
  have HT0 := hide (And.intro ht0 (And.intro (show ∀ g ∈ F0, w.heap.size ≤ g from fun g hg => (ht0.lt g hg).1) (show Below w.heap.size w w0 from hf0.toBelow (fun _ h => by cases h) (Nat.le_refl _))))
  clear e0 ht0 hf0 hF0
  have hcv0 := Lib.run_convert_bytes_const (P := Try.prog) w0 29 5 #[.int .u8 97] 1 1 Try.underlying29 Try.underlying5
  go_wp2_with fail
  refine (add_any _ w.heap.size F0 2 [] (HT0.out.1.frm ((Frm.refl w0 []).alloc _) (by simp)) Keys.nil _ [97] (rd_marked w0 5 97 _) (byt1 (by omega)) (by omega)).mono ?_
  rintro en w1 ⟨rfl, F1, ht, hf, hsub⟩
  have e : addOut 2 [] [97] = ((0, true, 0), [[97]]) := by decide
  have HK1 := hide (addOut_keys (n := 2) Keys.nil (byt1 (x := 97) (by omega)) (by omega))
  rw [e] at HK1
  simp only [e] at ht ⊢
  have hs1 : w.heap.size ≤ w1.heap.size := Nat.le_trans (Nat.le_trans hs0 (by rw [World.size_alloc]; exact Nat.le_succ _)) hf.size
  have HT1 := hide (And.intro ht (And.intro (fun g hg => (hsub g hg).elim (fun h => HT0.out.2.1 g h) (fun h => Nat.le_trans (Nat.le_trans hs0 (by rw [World.size_alloc]; exact Nat.le_succ _)) h)) (show Below w.heap.size w w1 from HT0.out.2.2.trans (((Below.refl w.heap.size w0).alloc hs0 _).trans (hf.toBelow HT0.out.2.1 (by rw [World.size_alloc]; omega))))))
  clear e ht hf hsub hcv0 HT0
  have hcv1 := Lib.run_convert_bytes_const (P := Try.prog) w1 29 5 #[.int .u8 98] 1 1 Try.underlying29 Try.underlying5
  go_wp2_with fail
  refine (add_any _ w.heap.size F1 2 [[97]] (HT1.out.1.frm ((Frm.refl w1 []).alloc _) (by simp)) HK1.out _ [98] (rd_marked w1 5 98 _) (byt1 (by omega)) (by omega)).mono ?_
  rintro en w2 ⟨rfl, F2, ht, hf, hsub⟩
  have e : addOut 2 [[97]] [98] = ((1, true, 0), [[97], [98]]) := by decide
  have HK2 := hide (addOut_keys (n := 2) HK1.out (byt1 (x := 98) (by omega)) (by omega))
  rw [e] at HK2
  simp only [e] at ht ⊢
  have hs2 : w.heap.size ≤ w2.heap.size := Nat.le_trans (Nat.le_trans hs1 (by rw [World.size_alloc]; exact Nat.le_succ _)) hf.size
  have HT2 := hide (And.intro ht (And.intro (fun g hg => (hsub g hg).elim (fun h => HT1.out.2.1 g h) (fun h => Nat.le_trans (Nat.le_trans hs1 (by rw [World.size_alloc]; exact Nat.le_succ _)) h)) (show Below w.heap.size w w2 from HT1.out.2.2.trans (((Below.refl w.heap.size w1).alloc hs1 _).trans (hf.toBelow HT1.out.2.1 (by rw [World.size_alloc]; omega))))))
  clear e ht hf hsub hcv1 HT1
  have hcv2 := Lib.run_convert_bytes_const (P := Try.prog) w2 29 5 #[.int .u8 97] 1 1 Try.underlying29 Try.underlying5
  go_wp2_with fail
  refine (add_any _ w.heap.size F2 2 [[97], [98]] (HT2.out.1.frm ((Frm.refl w2 []).alloc _) (by simp)) HK2.out _ [97] (rd_marked w2 5 97 _) (byt1 (by omega)) (by omega)).mono ?_
  rintro en w3 ⟨rfl, F3, ht, hf, hsub⟩
  have e : addOut 2 [[97], [98]] [97] = ((0, false, 0), [[97], [98]]) := by decide
  have HK3 := hide (addOut_keys (n := 2) HK2.out (byt1 (x := 97) (by omega)) (by omega))
  rw [e] at HK3
  simp only [e] at ht ⊢
  have hs3 : w.heap.size ≤ w3.heap.size := Nat.le_trans (Nat.le_trans hs2 (by rw [World.size_alloc]; exact Nat.le_succ _)) hf.size
  have HT3 := hide (And.intro ht (And.intro (fun g hg => (hsub g hg).elim (fun h => HT2.out.2.1 g h) (fun h => Nat.le_trans (Nat.le_trans hs2 (by rw [World.size_alloc]; exact Nat.le_succ _)) h)) (show Below w.heap.size w w3 from HT2.out.2.2.trans (((Below.refl w.heap.size w2).alloc hs2 _).trans (hf.toBelow HT2.out.2.1 (by rw [World.size_alloc]; omega))))))
  clear e ht hf hsub hcv2 HT2
  have hcv3 := Lib.run_convert_bytes_const (P := Try.prog) w3 29 5 #[.int .u8 99] 1 1 Try.underlying29 Try.underlying5
  go_wp2_with fail
  refine (add_any _ w.heap.size F3 2 [[97], [98]] (HT3.out.1.frm ((Frm.refl w3 []).alloc _) (by simp)) HK3.out _ [99] (rd_marked w3 5 99 _) (byt1 (by omega)) (by omega)).mono ?_
  rintro en w4 ⟨rfl, F4, ht, hf, hsub⟩
  have e : addOut 2 [[97], [98]] [99] = ((0, false, 13), [[97], [98]]) := by decide
  have HK4 := hide (addOut_keys (n := 2) HK3.out (byt1 (x := 99) (by omega)) (by omega))
  rw [e] at HK4
  simp only [e] at ht ⊢
  have hs4 : w.heap.size ≤ w4.heap.size := Nat.le_trans (Nat.le_trans hs3 (by rw [World.size_alloc]; exact Nat.le_succ _)) hf.size
  have HT4 := hide (And.intro ht (And.intro (fun g hg => (hsub g hg).elim (fun h => HT3.out.2.1 g h) (fun h => Nat.le_trans (Nat.le_trans hs3 (by rw [World.size_alloc]; exact Nat.le_succ _)) h)) (show Below w.heap.size w w4 from HT3.out.2.2.trans (((Below.refl w.heap.size w3).alloc hs3 _).trans (hf.toBelow HT3.out.2.1 (by rw [World.size_alloc]; omega))))))
  clear e ht hf hsub hcv3 HT3
  have HL := hide (len_tbl w4 _ _ _ _ HT4.out.1)
  have hcv := Lib.run_convert_bytes_const (P := Try.prog) w4 29 5 #[.int .u8 97] 1 1 Try.underlying29 Try.underlying5
  have HH := hide (hash_any _ [97] _ (rd_marked w4 5 97 (1, 2)) (byt1 (by omega)))
  rw [fnv_a] at HH
  go_wp2_with fail
  refine HL.out.mono ?_
  rintro en w5 ⟨rfl, rfl⟩
  go_wp2_with fail
  refine HH.out.mono ?_
  rintro en w5 ⟨rfl, rfl⟩
  go_wp2_with fail
  go_ret
  exact ⟨rfl, HT4.out.2.2.trans ((Below.refl w.heap.size w4).alloc hs4 _)⟩
end Go.Proofs.Ytcenbpjkndhlgaa

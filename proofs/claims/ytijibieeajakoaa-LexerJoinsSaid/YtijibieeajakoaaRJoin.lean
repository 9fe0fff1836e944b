/-
  Layer 13 (lexer): Join of the reference.
-/
import Derived.Test.YtijibieeajakoaaJoin
import Derived.Test.YtijibieeajakoaaLexX
namespace Go.Proofs.Ytijibieeajakoaa
open Go.RowKit

theorem tok_kept {wr wA : World} {q : Nat} {e T : TypeId} {v : Value} {l : List Int} {cs : Array Value} {o : Obj} (hO : Own wr q e .u8 v l) (h : ((wr.alloc (.cells cs T)).alloc o).grownBy wA v.ownBlock) : Whole wA wr.heap.size T cs :=
  ((Whole.new wr T cs).alloc o).grown h (fun hc => by have := (hO.size _ hc.symm).2; omega)

theorem rjlenT (n c : Nat) (A : Option Addr) (h : n ≤ 20000) (W : World) (ty : TypeId) : (Builtin.len_ #[27] ty #[.slice A n c]).run Try.prog W = .ok (.int .i64 (n : Int)) W := by
  simp [Builtin.len_, run_underlying Try.underlying27]
  rfl
set_option maxRecDepth 100000 in
set_option maxHeartbeats 4000000 in
theorem rjoin_fold (ts : List Tok) (hn : ts.length ≤ 20000) (hk : ∀ t ∈ ts, KindOk t) (v : Value) (w : World) (hv : RdJ w v ts) : Calls Try.prog 12 #[v] w fun e w' => e = .returned (.string (Bs (foldJ ts).1)) ∧ Below w.heap.size w w' := by
  obtain ⟨A, ca, rfl, hca⟩ := hv
  have hla := rjlenT ts.length ca A hn
  have HA := hide hca
  have HK := hide hk
  obtain ⟨n, hnn⟩ : ∃ n, ts.length = n := ⟨_, rfl⟩
  have HN := hide hnn
  rw [hnn] at hla hn ⊢
  obtain ⟨q, hq⟩ : ∃ q, w.heap.size = q := ⟨_, rfl⟩
  have HQ := hide hq
  rw [hq]
  clear hca hk hnn hq
  go_enter Try.func12, Try.ntmps12
  go_wp2_with fail
  go_loopw [3, 4, 9] (fun v3 v4 vk wr => ∃ k : Nat, vk = .int .i64 (k : Int) ∧ k ≤ n ∧ Own wr q 5 .u8 v3 (nums (foldJ (ts.take k)).1) ∧ (∃ c : Nat, v4 = .int .i64 (c : Int) ∧ c ≤ k ∧ (foldJ (ts.take k)).2 = decide (0 < c)) ∧ Below q w wr ∧ q ≤ wr.heap.size) (fun _ _ vk _ => n - (intOf vk).toNat)
  case atStart => exact ⟨0, rfl, Nat.zero_le _, Own.nil, ⟨0, rfl, Nat.le_refl _, rfl⟩, Below.refl _ _, by rw [HQ.out]; exact Nat.le_refl _⟩
  case round =>
    obtain ⟨k, rfl, hk, hO, hsep, hB, hS⟩ := hrel
    have HO := hide hO
    have HB := hide hB
    have HS := hide hS
    clear hO hB hS
    rcases Nat.lt_or_ge k n with hlt | hge
    · obtain ⟨t, ht⟩ : ∃ t, ts[k]? = some t := ⟨_, List.getElem?_eq_getElem (by rw [HN.out]; exact hlt)⟩
      have hko := HK.out t (List.mem_of_getElem? ht)
      have hsn := foldJ_snoc ht
      have hfl : (foldJ (ts.take k)).1.length ≤ 2000200000 := by
        have := foldJ_len (ts.take k) ([], false) (fun u hu => HK.out u (List.mem_of_mem_take hu))
        have h2 : (ts.take k).length ≤ 20000 := by rw [List.length_take, HN.out]; omega
        unfold foldJ; simp only [List.length_nil] at this; omega
      obtain ⟨b, off, rfl, hbl, hc⟩ := HA.out (by rw [HN.out]; omega)
      obtain ⟨o, a0, a1, a2, a3⟩ := hc k t ht
      have hbl' : b < q := HQ.out ▸ hbl
      have c0 := (HB.out.cell (p := ⟨b, off + k * 4, none⟩) hbl').trans a0
      have c1 := (HB.out.cell (p := ⟨b, off + k * 4 + 1, none⟩) hbl').trans a1
      have c2 := (HB.out.cell (p := ⟨b, off + k * 4 + 2, none⟩) hbl').trans a2
      have c3 := (HB.out.cell (p := ⟨b, off + k * 4 + 3, none⟩) hbl').trans a3
      obtain ⟨kd, oo, nn, tx⟩ := t
      obtain ⟨X, hX⟩ : ∃ X, foldJ (ts.take k) = X := ⟨_, rfl⟩
      rw [hX] at HO hsn hfl hsep
      obtain ⟨acc, fl⟩ := X
      dsimp only at c0 c1 c2 c3 HO hfl hsep
      have hlo := hko.lo
      have hhi := hko.hi
      have htx := hko.tx
      dsimp only at hlo hhi htx
      have HF := hide (fmt_len hlo hhi)
      have HSN := hide hsn
      have h1 := hide hlo
      have h2 := hide hhi
      have h3 := hide htx
      have h4 := hide hfl
      have HT := hide ht
      clear hX hsn hlo hhi htx hfl ht hc a0 a1 a2 a3 hko hbl hbl'
      obtain ⟨c, rfl, hck, hfl2⟩ := hsep
      subst hfl2
      have hcn : (c : Int) ≤ 20000 := by omega
      by_cases hk2 : kd = 2
      · subst hk2
        rcases Nat.eq_zero_or_pos c with hc0 | hc0
        · have hcz : ¬ (0 : Int) < (c : Int) := by omega
          go_wp2_with (first | (go_at_call 18; refine (rformat_any nn h1.out h2.out _).mono ?_; rintro en w5 ⟨rfl, hbf⟩) | (at_builtin; refine wpList_append_own_str _ rfl (.tmp 36) (.tmp 39) 32 9 rfl q 5 bytesE Try.underlying9 _ _ rfl ((HO.out.alloc _).below' hbf) (Bs (fmtZ nn)) rfl (by rw [Bs_size]; rw [nums_len]; have := h4.out; have := h3.out; have := HF.out; omega) (by have s2 := hbf.size; simp only [World.size_alloc] at s2; have := HS.out; omega) ?_; intro v7 w7 ho7 hb7))
          have hfin : Hid (Own w7 q 5 .u8 v7 (nums (foldJ (ts.take (k + 1))).1) ∧ (foldJ (ts.take (k + 1))).2 = true) := by
            show _ ∧ _
            rw [HSN.out]
            have e : stepJ (acc, decide (0 < c)) ⟨2, oo, nn, tx⟩ = (acc ++ (fmtZ nn), true) := by simp [stepJ, isKind, piece, hc0]
            rw [e]
            refine ⟨?_, rfl⟩
            rw [strInts_Bs, nums_append] at ho7
            exact ho7
          have hBB : Hid (Below q w w7 ∧ q ≤ w7.heap.size) := by
            have s0 := HS.out
            have b1 := HB.out.alloc (o := .cells #[.int .i64 2, .int .i64 o, .int .i64 nn, .string (Bs tx)] 36) s0
            have hh := ((b1.trans (hbf.mono (by simp only [World.size_alloc]; have := HS.out; omega))).trans hb7)
            exact ⟨hh, by have := hh.size; have := HQ.out; omega⟩
          clear ho7 hb7  hbf HO HB HS
          go_wp2_with fail
          go_roundw
          case rel => exact ⟨k + 1, by go_num, hlt, hfin.out.1, ⟨c + 1, by go_num, by omega, by rw [hfin.out.2]; simp⟩, hBB.out.1, hBB.out.2⟩
          case measure => (simp [intOf]; try omega)
        · have hcz : (0 : Int) < (c : Int) := by omega
          go_wp2_with (first | (at_builtin; refine wpList_append_rd _ rfl (.tmp 28) (.tmp 29) 32 rfl q 5 .u8 1 bytesE _ _ rfl ((HO.out.alloc _).alloc _) _ [32] rfl (rd_one_at _ _ (World.size_alloc _ _) _ _) (by rw [nums_len]; have := h4.out; simp; omega) (by rw [nums_len]; have := h4.out; unfold maxLen; simp; omega) (by simp only [World.size_alloc]; have := HS.out; omega) ?_; intro vA wA hoA hgA hbA _; obtain ⟨d0, d1, d2, d3, -, -, -, -⟩ := cells4 (tok_kept HO.out hgA); clear hgA) | (go_at_call 18; refine (rformat_any nn h1.out h2.out _).mono ?_; rintro en w5 ⟨rfl, hbf⟩) | (at_builtin; refine wpList_append_own_str _ rfl (.tmp 36) (.tmp 39) 32 9 rfl q 5 bytesE Try.underlying9 _ _ rfl (hoA.below' hbf) (Bs (fmtZ nn)) rfl (by rw [Bs_size]; rw [List.length_append, nums_len]; have := h4.out; have := h3.out; have := HF.out; simp; omega) (by have s1 := hbA.size; simp only [World.size_alloc] at s1; have s2 := hbf.size; have := HS.out; omega) ?_; intro v7 w7 ho7 hb7))
          have hfin : Hid (Own w7 q 5 .u8 v7 (nums (foldJ (ts.take (k + 1))).1) ∧ (foldJ (ts.take (k + 1))).2 = true) := by
            show _ ∧ _
            rw [HSN.out]
            have e : stepJ (acc, decide (0 < c)) ⟨2, oo, nn, tx⟩ = (acc ++ ([32] ++ fmtZ nn), true) := by simp [stepJ, isKind, piece, hc0]
            rw [e]
            refine ⟨?_, rfl⟩
            rw [strInts_Bs, show ([32] : List Int) = nums [32] from rfl, List.append_assoc, nums_append, nums_append] at ho7
            exact ho7
          have hBB : Hid (Below q w w7 ∧ q ≤ w7.heap.size) := by
            have s0 := HS.out
            have b1 := HB.out.alloc (o := .cells #[.int .i64 2, .int .i64 o, .int .i64 nn, .string (Bs tx)] 36) s0
            have hh := ((((b1.alloc (o := .cells #[.int .u8 32] 5) (by simp only [World.size_alloc]; have := HS.out; omega)).trans hbA).trans (hbf.mono (by have s1 := hbA.size; simp only [World.size_alloc] at s1; have := HS.out; omega))).trans hb7)
            exact ⟨hh, by have := hh.size; have := HQ.out; omega⟩
          clear ho7 hb7 hoA hbA hbf HO HB HS
          go_wp2_with fail
          go_roundw
          case rel => exact ⟨k + 1, by go_num, hlt, hfin.out.1, ⟨c + 1, by go_num, by omega, by rw [hfin.out.2]; simp⟩, hBB.out.1, hBB.out.2⟩
          case measure => (simp [intOf]; try omega)
      have hk2' : (kd != 2) = true := by simpa using hk2
      by_cases hk1 : kd = 1
      · subst hk1
        clear hk2' hk2
        rcases Nat.eq_zero_or_pos c with hc0 | hc0
        · have hcz : ¬ (0 : Int) < (c : Int) := by omega
          go_wp2_with (first | (at_builtin; refine wpList_append_own_str _ rfl (.tmp 41) (.tmp 43) 32 9 rfl q 5 bytesE Try.underlying9 _ _ rfl (HO.out.alloc _) (Bs tx) rfl (by rw [Bs_size]; rw [nums_len]; have := h4.out; have := h3.out; have := HF.out; omega) (by simp only [World.size_alloc]; have := HS.out; omega) ?_; intro v7 w7 ho7 hb7))
          have hfin : Hid (Own w7 q 5 .u8 v7 (nums (foldJ (ts.take (k + 1))).1) ∧ (foldJ (ts.take (k + 1))).2 = true) := by
            show _ ∧ _
            rw [HSN.out]
            have e : stepJ (acc, decide (0 < c)) ⟨1, oo, nn, tx⟩ = (acc ++ (tx), true) := by simp [stepJ, isKind, piece, hc0]
            rw [e]
            refine ⟨?_, rfl⟩
            rw [strInts_Bs, nums_append] at ho7
            exact ho7
          have hBB : Hid (Below q w w7 ∧ q ≤ w7.heap.size) := by
            have s0 := HS.out
            have b1 := HB.out.alloc (o := .cells #[.int .i64 1, .int .i64 o, .int .i64 nn, .string (Bs tx)] 36) s0
            have hh := (b1.trans hb7)
            exact ⟨hh, by have := hh.size; have := HQ.out; omega⟩
          clear ho7 hb7   HO HB HS
          go_wp2_with fail
          go_roundw
          case rel => exact ⟨k + 1, by go_num, hlt, hfin.out.1, ⟨c + 1, by go_num, by omega, by rw [hfin.out.2]; simp⟩, hBB.out.1, hBB.out.2⟩
          case measure => (simp [intOf]; try omega)
        · have hcz : (0 : Int) < (c : Int) := by omega
          go_wp2_with (first | (at_builtin; refine wpList_append_rd _ rfl (.tmp 28) (.tmp 29) 32 rfl q 5 .u8 1 bytesE _ _ rfl ((HO.out.alloc _).alloc _) _ [32] rfl (rd_one_at _ _ (World.size_alloc _ _) _ _) (by rw [nums_len]; have := h4.out; simp; omega) (by rw [nums_len]; have := h4.out; unfold maxLen; simp; omega) (by simp only [World.size_alloc]; have := HS.out; omega) ?_; intro vA wA hoA hgA hbA _; obtain ⟨d0, d1, d2, d3, -, -, -, -⟩ := cells4 (tok_kept HO.out hgA); clear hgA) | (at_builtin; refine wpList_append_own_str _ rfl (.tmp 41) (.tmp 43) 32 9 rfl q 5 bytesE Try.underlying9 _ _ rfl hoA (Bs tx) rfl (by rw [Bs_size]; rw [List.length_append, nums_len]; have := h4.out; have := h3.out; have := HF.out; simp; omega) (by have s1 := hbA.size; simp only [World.size_alloc] at s1; have := HS.out; omega) ?_; intro v7 w7 ho7 hb7))
          have hfin : Hid (Own w7 q 5 .u8 v7 (nums (foldJ (ts.take (k + 1))).1) ∧ (foldJ (ts.take (k + 1))).2 = true) := by
            show _ ∧ _
            rw [HSN.out]
            have e : stepJ (acc, decide (0 < c)) ⟨1, oo, nn, tx⟩ = (acc ++ ([32] ++ tx), true) := by simp [stepJ, isKind, piece, hc0]
            rw [e]
            refine ⟨?_, rfl⟩
            rw [strInts_Bs, show ([32] : List Int) = nums [32] from rfl, List.append_assoc, nums_append, nums_append] at ho7
            exact ho7
          have hBB : Hid (Below q w w7 ∧ q ≤ w7.heap.size) := by
            have s0 := HS.out
            have b1 := HB.out.alloc (o := .cells #[.int .i64 1, .int .i64 o, .int .i64 nn, .string (Bs tx)] 36) s0
            have hh := (((b1.alloc (o := .cells #[.int .u8 32] 5) (by simp only [World.size_alloc]; have := HS.out; omega)).trans hbA).trans hb7)
            exact ⟨hh, by have := hh.size; have := HQ.out; omega⟩
          clear ho7 hb7 hoA hbA  HO HB HS
          go_wp2_with fail
          go_roundw
          case rel => exact ⟨k + 1, by go_num, hlt, hfin.out.1, ⟨c + 1, by go_num, by omega, by rw [hfin.out.2]; simp⟩, hBB.out.1, hBB.out.2⟩
          case measure => (simp [intOf]; try omega)
      have hk1' : (kd != 1) = true := by simpa using hk1
      by_cases hk3 : kd = 3
      · subst hk3
        clear hk1' hk2' hk1 hk2
        rcases Nat.eq_zero_or_pos c with hc0 | hc0
        · have hcz : ¬ (0 : Int) < (c : Int) := by omega
          go_wp2_with (first | (at_builtin; refine wpList_append_own_str _ rfl (.tmp 41) (.tmp 43) 32 9 rfl q 5 bytesE Try.underlying9 _ _ rfl (HO.out.alloc _) (Bs tx) rfl (by rw [Bs_size]; rw [nums_len]; have := h4.out; have := h3.out; have := HF.out; omega) (by simp only [World.size_alloc]; have := HS.out; omega) ?_; intro v7 w7 ho7 hb7))
          have hfin : Hid (Own w7 q 5 .u8 v7 (nums (foldJ (ts.take (k + 1))).1) ∧ (foldJ (ts.take (k + 1))).2 = true) := by
            show _ ∧ _
            rw [HSN.out]
            have e : stepJ (acc, decide (0 < c)) ⟨3, oo, nn, tx⟩ = (acc ++ (tx), true) := by simp [stepJ, isKind, piece, hc0]
            rw [e]
            refine ⟨?_, rfl⟩
            rw [strInts_Bs, nums_append] at ho7
            exact ho7
          have hBB : Hid (Below q w w7 ∧ q ≤ w7.heap.size) := by
            have s0 := HS.out
            have b1 := HB.out.alloc (o := .cells #[.int .i64 3, .int .i64 o, .int .i64 nn, .string (Bs tx)] 36) s0
            have hh := (b1.trans hb7)
            exact ⟨hh, by have := hh.size; have := HQ.out; omega⟩
          clear ho7 hb7   HO HB HS
          go_wp2_with fail
          go_roundw
          case rel => exact ⟨k + 1, by go_num, hlt, hfin.out.1, ⟨c + 1, by go_num, by omega, by rw [hfin.out.2]; simp⟩, hBB.out.1, hBB.out.2⟩
          case measure => (simp [intOf]; try omega)
        · have hcz : (0 : Int) < (c : Int) := by omega
          go_wp2_with (first | (at_builtin; refine wpList_append_rd _ rfl (.tmp 28) (.tmp 29) 32 rfl q 5 .u8 1 bytesE _ _ rfl ((HO.out.alloc _).alloc _) _ [32] rfl (rd_one_at _ _ (World.size_alloc _ _) _ _) (by rw [nums_len]; have := h4.out; simp; omega) (by rw [nums_len]; have := h4.out; unfold maxLen; simp; omega) (by simp only [World.size_alloc]; have := HS.out; omega) ?_; intro vA wA hoA hgA hbA _; obtain ⟨d0, d1, d2, d3, -, -, -, -⟩ := cells4 (tok_kept HO.out hgA); clear hgA) | (at_builtin; refine wpList_append_own_str _ rfl (.tmp 41) (.tmp 43) 32 9 rfl q 5 bytesE Try.underlying9 _ _ rfl hoA (Bs tx) rfl (by rw [Bs_size]; rw [List.length_append, nums_len]; have := h4.out; have := h3.out; have := HF.out; simp; omega) (by have s1 := hbA.size; simp only [World.size_alloc] at s1; have := HS.out; omega) ?_; intro v7 w7 ho7 hb7))
          have hfin : Hid (Own w7 q 5 .u8 v7 (nums (foldJ (ts.take (k + 1))).1) ∧ (foldJ (ts.take (k + 1))).2 = true) := by
            show _ ∧ _
            rw [HSN.out]
            have e : stepJ (acc, decide (0 < c)) ⟨3, oo, nn, tx⟩ = (acc ++ ([32] ++ tx), true) := by simp [stepJ, isKind, piece, hc0]
            rw [e]
            refine ⟨?_, rfl⟩
            rw [strInts_Bs, show ([32] : List Int) = nums [32] from rfl, List.append_assoc, nums_append, nums_append] at ho7
            exact ho7
          have hBB : Hid (Below q w w7 ∧ q ≤ w7.heap.size) := by
            have s0 := HS.out
            have b1 := HB.out.alloc (o := .cells #[.int .i64 3, .int .i64 o, .int .i64 nn, .string (Bs tx)] 36) s0
            have hh := (((b1.alloc (o := .cells #[.int .u8 32] 5) (by simp only [World.size_alloc]; have := HS.out; omega)).trans hbA).trans hb7)
            exact ⟨hh, by have := hh.size; have := HQ.out; omega⟩
          clear ho7 hb7 hoA hbA  HO HB HS
          go_wp2_with fail
          go_roundw
          case rel => exact ⟨k + 1, by go_num, hlt, hfin.out.1, ⟨c + 1, by go_num, by omega, by rw [hfin.out.2]; simp⟩, hBB.out.1, hBB.out.2⟩
          case measure => (simp [intOf]; try omega)
      have hk3' : (kd != 3) = true := by simpa using hk3
      have hsk : Hid (foldJ (ts.take (k + 1)) = (acc, decide (0 < c))) := by
        show _ = _
        rw [HSN.out]; simp [stepJ, isKind, hk1, hk2, hk3]
      clear hk1 hk2 hk3
      go_wp2_with fail
      go_roundw
      case rel => exact ⟨k + 1, by go_num, hlt, by rw [hsk.out]; exact HO.out.alloc _, ⟨c, rfl, by omega, by rw [hsk.out]⟩, HB.out.alloc HS.out _, by simp only [World.size_alloc]; have := HS.out; omega⟩
      case measure => (simp [intOf]; try omega)
    · obtain rfl : k = n := by omega
      have hall : ts.take k = ts := List.take_of_length_le (by rw [HN.out]; exact Nat.le_refl _)
      rw [hall] at HO
      have hcv := conv_row HO.out
      clear hall HA HK HN
      go_wp2_with fail
      go_ret
      exact ⟨rfl, HB.out⟩
end Go.Proofs.Ytijibieeajakoaa

/-
  LexerLimits, layer 13 (lexer).
-/
import Derived.Test.YtijibieeajakoaaLawScans
import Derived.Test.YtijibieeajakoaaJoin
import Derived.Test.YtijibieeajakoaaLexL
namespace Go.Proofs.Ytijibieeajakoaa
open Go.RowKit

theorem lenB (n c : Nat) (A : Option Addr) (W : World) (ty : TypeId) : (Builtin.len_ #[32] ty #[.slice A n c]).run Try.prog W = .ok (.int .i64 (n : Int)) W := by
  simp [Builtin.len_, run_underlying Try.underlying32]
  rfl
theorem Own.slice {w : World} {base : Nat} {e : TypeId} {k : IntKind} {v : Value} {l : List Int} (h : Own w base e k v l) : ∃ A c, v = .slice A l.length c := by
  obtain ⟨A, c, e, _⟩ := h.rd
  exact ⟨A, c, e⟩
theorem scan_small' {m : List UInt8} (h : m.length ≤ 60000) : Scan m = scan m.length m 0 0 := by
  unfold Scan; rw [if_neg (by omega)]

set_option maxRecDepth 100000 in
set_option maxHeartbeats 1000000 in
theorem limits_out (P : List UInt8) (n : Int) (w : World) (hs : P.length ≤ maxLen) (h : (40 : Int) < (P.length : Int) ∨ (¬ (40 : Int) < (P.length : Int) ∧ n < 0) ∨ (¬ (40 : Int) < (P.length : Int) ∧ ¬ n < 0 ∧ 20002 < n)) : Calls Try.prog 4 #[.string (Bs P), .int .i64 n] w (LawDone w) := by
  have hlen := lenS P hs
  rcases h with h | ⟨h1, h⟩ | ⟨h1, h2, h⟩
  all_goals
    go_enter Try.func4, Try.ntmps4
    go_wp2_with fail
    refine (awake_any _).mono ?_
    rintro en w1 ⟨rfl, hb1⟩
    go_wp2_with fail
    go_ret
    exact ⟨rfl, hb1⟩

set_option maxRecDepth 100000 in
set_option maxHeartbeats 1000000 in
theorem limits_no (P : List UInt8) (N : Nat) (w : World) (hs : P.length ≤ 40) (hN : N ≤ 20002) (h : (Scan P).2.2 ≠ 0 ∨ (Scan P).1.length ≠ 1) : Calls Try.prog 4 #[.string (Bs P), .int .i64 (N : Int)] w (LawDone w) := by
  have hlen := lenS P (by unfold maxLen; omega)
  have h1 : ¬ (40 : Int) < (P.length : Int) := by omega
  have h2 : ¬ (N : Int) < 0 := by omega
  have h3 : ¬ 20002 < (N : Int) := by omega
  have S1 := scan_any P (by omega)
  have hcnt := scan_count P
  obtain ⟨X, hX⟩ : ∃ X, Scan P = X := ⟨_, rfl⟩
  rw [hX] at S1 h hcnt
  obtain ⟨ts, p, ev⟩ := X
  dsimp only at S1 h hcnt
  clear hX
  by_cases he : ev = 0
  · have hl : ts.length ≠ 1 := by rcases h with h | h; (exact absurd he h); (exact h)
    subst he
    have hl2 : ((ts.length : Int) != 1) = true := by simp; omega
    go_enter Try.func4, Try.ntmps4
    go_wp2_with fail
    refine (S1 _).mono ?_
    rintro en w1 ⟨v1, rfl, ho1, hb1⟩
    obtain ⟨A, cap, rfl⟩ := ho1.form
    have hla := lenT ts.length cap A hcnt
    clear ho1 S1 h
    go_wp2_with fail
    refine (awake_any _).mono ?_
    rintro en w3 ⟨rfl, hb3⟩
    go_wp2_with fail
    go_ret
    exact ⟨rfl, Below.all hb1 hb3⟩
  · have he2 : (ev != 0) = true := by simpa using he
    go_enter Try.func4, Try.ntmps4
    go_wp2_with fail
    refine (S1 _).mono ?_
    rintro en w1 ⟨v1, rfl, ho1, hb1⟩
    clear ho1 S1 h
    go_wp2_with fail
    refine (awake_any _).mono ?_
    rintro en w3 ⟨rfl, hb3⟩
    go_wp2_with fail
    go_ret
    exact ⟨rfl, Below.all hb1 hb3⟩

set_option maxRecDepth 100000 in
set_option maxHeartbeats 2000000 in
theorem limits_main (P : List UInt8) (N : Nat) (t : Tok) (p : Nat) (w : World) (hs : P.length ≤ 40) (hN : N ≤ 20002) (hX : Scan P = ([t], p, 0)) : Calls Try.prog 4 #[.string (Bs P), .int .i64 (N : Int)] w (LawDone w) := by
  have hlen := lenS P (by unfold maxLen; omega)
  have g1 : ¬ (40 : Int) < (P.length : Int) := by omega
  have g2 : ¬ (N : Int) < 0 := by omega
  have g3 : ¬ 20002 < (N : Int) := by omega
  have S1 := scan_any P (by omega)
  have hsc : scan P.length P 0 0 = ([t], p, 0) := by rw [← scan_small' (by omega)]; exact hX
  rw [hX] at S1
  dsimp only at S1
  have HSC := hide hsc
  clear hX hsc
  obtain ⟨q, hq⟩ : ∃ q, w.heap.size = q := ⟨_, rfl⟩
  have HQ := hide hq
  clear hq
  go_enter Try.func4, Try.ntmps4
  go_wp2_with fail
  refine (S1 _).mono ?_
  rintro en w1 ⟨v1, rfl, ho1, hb1⟩
  obtain ⟨A, cap, rfl⟩ := ho1.form
  have hla : ∀ (W : World) (ty : TypeId), (Builtin.len_ #[23] ty #[.slice A 1 cap]).run Try.prog W = .ok (.int .i64 1) W := lenT 1 cap A (by omega)
  obtain ⟨A2, c2, e2, hc⟩ := ho1.rd
  obtain ⟨b, off, eA, hbl, hc⟩ := hc (by simp)
  injection e2 with e2 e3 e4
  obtain rfl : A = some ⟨b, off, none⟩ := e2.trans eA
  obtain ⟨-, a1, -, -⟩ := hc 0 t rfl
  rw [Nat.zero_mul, Nat.add_zero] at a1
  have HA1 := hide a1
  have HBL := hide hbl
  have HB1 : Hid (Below q w w1) := by show Below _ _ _; rw [← HQ.out]; exact hb1
  have HS1 : Hid (q ≤ w1.heap.size) := by have := hb1.size; have := HQ.out; show _ ≤ _; omega
  clear ho1 hb1 S1 hc hbl a1 e2 e3 e4 eA
  go_wp2_with fail
  go_loopw [8, 9] (fun v8 v9 wr => ∃ i : Nat, v9 = .int .i64 (i : Int) ∧ i ≤ N ∧ Own wr w1.heap.size 5 .u8 v8 (nums (reps P i)) ∧ (reps P i).length ≤ 70000 ∧ Below w1.heap.size w1 wr) (fun _ v9 _ => N - (intOf v9).toNat)
  case atStart => exact ⟨0, rfl, Nat.zero_le _, Own.nil, by simp [reps], Below.refl _ _⟩
  case round =>
    obtain ⟨i, rfl, hi, hO, hrl, hB⟩ := hrel
    have HO := hide hO
    have HB := hide hB
    clear hO hB
    rcases Nat.lt_or_ge i N with hlt | hge
    · have hsn := reps_snoc P i
      have hl2 : (reps P (i + 1)).length = (reps P i).length + P.length + 1 := by rw [hsn]; simp; omega
      have HSN := hide hsn
      clear hsn
      obtain ⟨rl, hrl2⟩ : ∃ x, (reps P i).length = x := ⟨_, rfl⟩
      obtain ⟨r2, hr2⟩ : ∃ x, (reps P (i + 1)).length = x := ⟨_, rfl⟩
      have HRL := hide hrl2
      have HR2 := hide hr2
      rw [hrl2] at hrl hl2
      rw [hr2] at hl2
      have HL2 := hide hl2
      have HRLE := hide hrl
      clear hrl2 hr2 hl2 hrl
      by_cases h7 : (70000 : Int) < (r2 : Int)
      · go_wp2_with (first | (at_builtin; refine wpList_append_own_str _ rfl (.tmp 44) (.tmp 45) 32 9 rfl w1.heap.size 5 bytesE Try.underlying9 _ _ rfl HO.out (Bs P) rfl (by rw [Bs_size, nums_len, HRL.out]; have := HRLE.out; omega) HB.out.size ?_; intro vA wA hoA hbA) | (at_builtin; refine wpList_append_rd _ rfl (.tmp 46) (.tmp 47) 32 rfl w1.heap.size 5 .u8 1 bytesE _ _ rfl (hoA.alloc _) _ [32] rfl (rd_one_at _ _ rfl _ _) (by rw [List.length_append, nums_len, strInts_len, Bs_size, HRL.out]; have := HRLE.out; simp; omega) (by rw [List.length_append, nums_len, strInts_len, Bs_size, HRL.out]; have := HRLE.out; unfold maxLen; simp; omega) (by simp only [World.size_alloc]; have := hbA.size; have := HB.out.size; omega) ?_; intro vB wB hoB _ hbB _; obtain ⟨AB, cB, eB⟩ := hoB.slice; rw [strInts_Bs, nums_append, show ([32] : List Int) = nums [32] from rfl, nums_append, ← HSN.out, nums_len, HR2.out] at eB; subst eB; have hlb := lenB r2 cB AB))
        have hoB2 := hoB
        rw [strInts_Bs, nums_append, show ([32] : List Int) = nums [32] from rfl, nums_append, ← HSN.out] at hoB2
        have HBW : Hid (Below w1.heap.size w1 wB) := by
          show Below _ _ _
          exact ((HB.out.trans hbA).alloc (by have := hbA.size; have := HB.out.size; omega) _).trans hbB
        have HBB : Hid (Below q w wB) := HB1.out.trans (HBW.out.mono HS1.out)
        clear HO HSN hoB hoB2 hbA hbB
        refine (awake_any _).mono ?_
        rintro en w3 ⟨rfl, hb3⟩
        go_wp2_with fail
        go_ret
        exact ⟨rfl, by rw [HQ.out]; exact HBB.out.trans (hb3.mono (by have := HBW.out.size; have := HS1.out; omega))⟩
      · go_wp2_with (first | (at_builtin; refine wpList_append_own_str _ rfl (.tmp 44) (.tmp 45) 32 9 rfl w1.heap.size 5 bytesE Try.underlying9 _ _ rfl HO.out (Bs P) rfl (by rw [Bs_size, nums_len, HRL.out]; have := HRLE.out; omega) HB.out.size ?_; intro vA wA hoA hbA) | (at_builtin; refine wpList_append_rd _ rfl (.tmp 46) (.tmp 47) 32 rfl w1.heap.size 5 .u8 1 bytesE _ _ rfl (hoA.alloc _) _ [32] rfl (rd_one_at _ _ rfl _ _) (by rw [List.length_append, nums_len, strInts_len, Bs_size, HRL.out]; have := HRLE.out; simp; omega) (by rw [List.length_append, nums_len, strInts_len, Bs_size, HRL.out]; have := HRLE.out; unfold maxLen; simp; omega) (by simp only [World.size_alloc]; have := hbA.size; have := HB.out.size; omega) ?_; intro vB wB hoB _ hbB _; obtain ⟨AB, cB, eB⟩ := hoB.slice; rw [strInts_Bs, nums_append, show ([32] : List Int) = nums [32] from rfl, nums_append, ← HSN.out, nums_len, HR2.out] at eB; subst eB; have hlb := lenB r2 cB AB))
        have hoB2 := hoB
        rw [strInts_Bs, nums_append, show ([32] : List Int) = nums [32] from rfl, nums_append, ← HSN.out] at hoB2
        have HBW : Hid (Below w1.heap.size w1 wB) := by
          show Below _ _ _
          exact ((HB.out.trans hbA).alloc (by have := hbA.size; have := HB.out.size; omega) _).trans hbB
        have HBB : Hid (Below q w wB) := HB1.out.trans (HBW.out.mono HS1.out)
        have hown : Hid (Own wB w1.heap.size 5 .u8 (.slice AB r2 cB) (nums (reps P (i + 1)))) := hoB2
        clear HO HSN hoB hoB2 hbA hbB HB
        go_roundw
        case rel => exact ⟨i + 1, by go_num, hlt, hown.out, by rw [HR2.out]; omega, HBW.out⟩
        case measure => (simp [intOf]; try omega)
    · obtain rfl : i = N := by omega
      obtain ⟨T, hT⟩ : ∃ T, reps P i = T := ⟨_, rfl⟩
      have hTl := reps_len P i
      rw [hT] at HO hrl hTl
      have hcv := conv_row HO.out
      obtain ⟨AT, cT, eT⟩ := HO.out.slice
      rw [nums_len] at eT
      subst eT
      have S2 := scan_any T (by omega)
      obtain ⟨tl, htl⟩ : ∃ x, T.length = x := ⟨_, rfl⟩
      have hlb := lenB tl cT AT
      have HT := hide hT
      have hscan := hide HSC.out
      have hres : Hid (if 60000 < tl then Scan T = ([], 0, 5) else if 20000 < i then Scan T = ([], 20000 * (P.length + 1) + t.off, 11) else ((Scan T).1.length = i ∧ (Scan T).2.2 = 0)) := by
        show if _ then _ else _
        split
        · rename_i h; unfold Scan; rw [if_pos (by omega)]
        · rename_i h
          have e := scan_small' (m := T) (by omega)
          have q1 : (scan P.length P 0 0).1 = [t] := by rw [HSC.out]
          have q2 : (scan P.length P 0 0).2.2 = 0 := by rw [HSC.out]
          split
          · rename_i h2
            have := scan_reps_full q1 q2 i 0 0 (by omega) (by omega)
            rw [hT, Nat.zero_add, Nat.sub_zero] at this
            rw [e]; exact this
          · rename_i h2
            have := scan_reps_ok q1 q2 i 0 0 (by omega)
            rw [hT] at this
            rw [e]; exact this
      have hcnt := scan_count T
      obtain ⟨Y, hY⟩ : ∃ Y, Scan T = Y := ⟨_, rfl⟩
      rw [hY] at S2 hres hcnt
      rw [htl] at hrl hcv ⊢
      obtain ⟨us, p2, ev2⟩ := Y
      dsimp only at S2 hres hcnt
      clear hY hT hTl htl HT hscan
      have hB2 := HB.out
      go_wp2_with fail
      refine (S2 _).mono ?_
      rintro en w2 ⟨v2, rfl, ho2, hb2⟩
      obtain ⟨A3, c3, rfl⟩ := ho2.form
      have hlu := lenT us.length c3 A3 hcnt
      have HB2 : Hid (Below w1.heap.size w1 w2) := hB2.trans (hb2.mono hB2.size)
      clear ho2 hb2 hB2 S2 HO
      have hR := hres.out
      clear hres
      by_cases h6 : 60000 < tl
      · rw [if_pos h6] at hR
        injection hR with r1 r2
        injection r2 with r2 r3
        subst r1 r2 r3
        have h6' : (60000 : Int) < (tl : Int) := by omega
        go_wp2_with fail
        refine (awake_any _).mono ?_
        rintro en w3 ⟨rfl, hb3⟩
        go_wp2_with fail
        go_ret
        exact ⟨rfl, by rw [HQ.out]; exact (HB1.out.trans (HB2.out.mono HS1.out)).trans (hb3.mono (by have := HB2.out.size; have := HS1.out; omega))⟩
      rw [if_neg h6] at hR
      have h6' : ¬ (60000 : Int) < (tl : Int) := by omega
      by_cases h2 : 20000 < i
      · rw [if_pos h2] at hR
        injection hR with r1 r2
        injection r2 with r2 r3
        subst r1 r2 r3
        have h2' : (20000 : Int) < (i : Int) := by omega
        have heq : ((20000 * (P.length + 1) + t.off : Nat) : Int) = 20000 * ((P.length : Int) + 1) + (t.off : Int) := by omega
        have hto : ((t.off : Nat) : Int) ≤ 1000 := by
          have h9 := scan_offs P.length P 0 0 t (by rw [HSC.out]; simp)
          omega
        have hto2 : (0 : Int) ≤ (t.off : Int) := by omega
        obtain ⟨z, hz⟩ : ∃ z : Int, (t.off : Int) = z := ⟨_, rfl⟩
        rw [heq, hz]
        have HA2 := hide HA1.out
        rw [hz] at HA2 hto hto2
        clear HA1 heq hz h2
        go_wp2_with fail
        refine (awake_any _).mono ?_
        rintro en w3 ⟨rfl, hb3⟩
        have a1 : w3.cell? ⟨b, off + 1, none⟩ = some (.int .i64 z) := (hb3.cell (p := ⟨b, off + 1, none⟩) (by have := HB2.out.size; have := HBL.out; show b < _; omega)).trans ((HB2.out.cell (p := ⟨b, off + 1, none⟩) HBL.out).trans HA2.out)
        have HB3 := hide hb3
        clear hb3
        go_wp2_with fail
        go_ret
        exact ⟨by simp, by rw [HQ.out]; exact (HB1.out.trans (HB2.out.mono HS1.out)).trans (HB3.out.mono (by have := HB2.out.size; have := HS1.out; omega))⟩
      · rw [if_neg h2] at hR
        obtain ⟨r1, rfl⟩ := hR
        have h2' : ¬ (20000 : Int) < (i : Int) := by omega
        rw [r1] at hlu hcnt ⊢
        clear r1 h2
        go_wp2_with fail
        refine (awake_any _).mono ?_
        rintro en w3 ⟨rfl, hb3⟩
        go_wp2_with fail
        go_ret
        exact ⟨by simp, by rw [HQ.out]; exact (HB1.out.trans (HB2.out.mono HS1.out)).trans (hb3.mono (by have := HB2.out.size; have := HS1.out; omega))⟩

theorem law_limits (s : ByteArray) (n : Int) (hs : s.size ≤ maxLen) (w : World) : Calls Try.prog 4 #[.string s, .int .i64 n] w (LawDone w) := by
  obtain ⟨P, rfl⟩ : ∃ l, s = Bs l := ⟨_, Bs_of s⟩
  rw [Bs_size] at hs
  by_cases h1 : (40 : Int) < (P.length : Int)
  · exact limits_out P n w hs (.inl h1)
  by_cases h2 : n < 0
  · exact limits_out P n w hs (.inr (.inl ⟨h1, h2⟩))
  by_cases h3 : 20002 < n
  · exact limits_out P n w hs (.inr (.inr ⟨h1, h2, h3⟩))
  obtain ⟨N, rfl⟩ : ∃ N : Nat, n = N := ⟨n.toNat, by omega⟩
  by_cases h4 : (Scan P).2.2 ≠ 0 ∨ (Scan P).1.length ≠ 1
  · exact limits_no P N w (by omega) (by omega) h4
  · obtain ⟨X, hX⟩ : ∃ X, Scan P = X := ⟨_, rfl⟩
    rw [hX] at h4
    obtain ⟨ts, p, ev⟩ := X
    have he : ev = 0 := by
      by_cases he : ev = 0
      · exact he
      · exact absurd (.inl he) h4
    have hl : ts.length = 1 := by
      by_cases hl : ts.length = 1
      · exact hl
      · exact absurd (.inr hl) h4
    subst he
    match ts, hl with
    | [t], _ => exact limits_main P N t p w (by omega) (by omega) hX
end Go.Proofs.Ytijibieeajakoaa

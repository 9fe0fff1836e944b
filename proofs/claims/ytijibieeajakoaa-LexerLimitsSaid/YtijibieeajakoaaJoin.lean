/-
  Layer 13 (lexer): Join of the program.
-/
import Derived.Test.YtijibieeajakoaaLexV
import Derived.Test.YtijibieeajakoaaLexU
namespace Go.Proofs.Ytijibieeajakoaa
open Go.RowKit

theorem infoU8 : (Try.prog.info? 5).map (fun i => (i.zero, i.size, i.bytes)) = some (some (.int .u8 0), 1, 1) := by kernel_rfl
theorem bytesE : ElemI Try.prog 32 5 .u8 1 := ⟨Try.underlying32, Try.underlying5, info_parts infoU8⟩
def nums (l : List UInt8) : List Int := l.map fun c => (c.toNat : Int)
theorem strInts_Bs (l : List UInt8) : strInts (Bs l) = nums l := rfl
theorem nums_append (l m : List UInt8) : nums l ++ nums m = nums (l ++ m) := by simp [nums]
theorem nums_len (l : List UInt8) : (nums l).length = l.length := by simp [nums]
theorem rd_one_at (w : World) (g : Nat) (hg : w.heap.size = g) (t : TypeId) (z : Int) : Rd (w.alloc (.cells #[.int .u8 z] t)) .u8 (.slice (some ⟨g, 0, none⟩) 1 1) [z] := by
  subst hg; exact rd_one w t z
/-- What a row of tokens holds, its offsets aside. -/
def RdJ (w : World) (v : Value) (ts : List Tok) : Prop :=
  ∃ A c, v = .slice A ts.length c ∧ (0 < ts.length → ∃ b off, A = some ⟨b, off, none⟩ ∧ b < w.heap.size ∧
    ∀ i t, ts[i]? = some t → ∃ o : Int, w.cell? ⟨b, off + i * 4, none⟩ = some (.int .i64 t.kind) ∧ w.cell? ⟨b, off + i * 4 + 1, none⟩ = some (.int .i64 o) ∧ w.cell? ⟨b, off + i * 4 + 2, none⟩ = some (.int .i64 t.n) ∧ w.cell? ⟨b, off + i * 4 + 3, none⟩ = some (.string (Bs t.text)))
theorem RdT.toJ {w : World} {v : Value} {ts : List Tok} (h : RdT w v ts) : RdJ w v ts := by
  obtain ⟨A, c, e, hr⟩ := h
  refine ⟨A, c, e, fun hn => ?_⟩
  obtain ⟨b, off, e2, hlt, hc⟩ := hr hn
  exact ⟨b, off, e2, hlt, fun i t ht => ⟨t.off, hc i t ht⟩⟩
theorem RdJ.below {w w' : World} {v : Value} {ts : List Tok} (h : RdJ w v ts) (hb : Below w.heap.size w w') : RdJ w' v ts := by
  obtain ⟨A, c, e, hr⟩ := h
  refine ⟨A, c, e, fun hn => ?_⟩
  obtain ⟨b, off, e2, hlt, hc⟩ := hr hn
  refine ⟨b, off, e2, Nat.lt_of_lt_of_le hlt hb.size, fun i t ht => ?_⟩
  obtain ⟨o, a0, a1, a2, a3⟩ := hc i t ht
  exact ⟨o, (hb.cell (p := ⟨b, _, none⟩) hlt).trans a0, (hb.cell (p := ⟨b, _, none⟩) hlt).trans a1, (hb.cell (p := ⟨b, _, none⟩) hlt).trans a2, (hb.cell (p := ⟨b, _, none⟩) hlt).trans a3⟩
structure KindOk (t : Tok) : Prop where
  lo : -9223372036854775808 ≤ t.n
  hi : t.n ≤ 9223372036854775807
  tx : t.text.length ≤ 100000
def isKind (t : Tok) : Bool := decide (t.kind = 1) || decide (t.kind = 2) || decide (t.kind = 3)
def stepJ (a : List UInt8 × Bool) (t : Tok) : List UInt8 × Bool := if isKind t then (a.1 ++ ((if a.2 then [32] else []) ++ piece t), true) else a
/-- The joined text of any tokens. -/
def foldJ (ts : List Tok) : List UInt8 × Bool := ts.foldl stepJ ([], false)
theorem foldJ_snoc {ts : List Tok} {k : Nat} {t : Tok} (h : ts[k]? = some t) : foldJ (ts.take (k + 1)) = stepJ (foldJ (ts.take k)) t := by
  unfold foldJ; rw [List.take_add_one, h]; simp
theorem fmt_len {z : Int} (h1 : -9223372036854775808 ≤ z) (h2 : z ≤ 9223372036854775807) : (fmtZ z).length ≤ 20 := by
  have := digsW_len 18 z.natAbs (by have : (10 : Nat) ^ 19 = 10000000000000000000 := rfl
                                    omega)
  unfold fmtZ; split
  · simp; omega
  · omega
theorem piece_len {t : Tok} (h : KindOk t) : (piece t).length ≤ 100000 := by
  have := fmt_len h.lo h.hi
  have := h.tx
  unfold piece; split <;> omega
theorem foldJ_len : ∀ (ts : List Tok) (a : List UInt8 × Bool), (∀ t ∈ ts, KindOk t) → (ts.foldl stepJ a).1.length ≤ a.1.length + ts.length * 100001
  | [], a, _ => by simp
  | t :: r, a, h => by
    have h1 := foldJ_len r (stepJ a t) (fun u hu => h u (by simp [hu]))
    have h2 : (stepJ a t).1.length ≤ a.1.length + 100001 := by
      have := piece_len (h t (by simp))
      unfold stepJ; split
      · simp only [List.length_append]
        split <;> simp <;> omega
      · omega
    simp only [List.foldl_cons, List.length_cons]
    omega
theorem foldJ_true : ∀ (ts : List Tok) (l : List UInt8), (∀ t ∈ ts, isKind t = true) → (ts.foldl stepJ (l, true)).1 = if ts = [] then l else l ++ 32 :: joinL ts
  | [], l, _ => by simp
  | t :: r, l, h => by
    have ht := h t (by simp)
    simp only [List.foldl_cons]
    have e : stepJ (l, true) t = (l ++ 32 :: piece t, true) := by simp [stepJ, ht]
    rw [e, foldJ_true r _ (fun u hu => h u (by simp [hu])), joinL_cons]
    cases r <;> simp
theorem foldJ_join {ts : List Tok} (h : ∀ t ∈ ts, isKind t = true) : (foldJ ts).1 = joinL ts := by
  cases ts with
  | nil => rfl
  | cons t r =>
    have ht := h t (by simp)
    unfold foldJ
    simp only [List.foldl_cons]
    have e : stepJ ([], false) t = (piece t, true) := by simp [stepJ, ht]
    rw [e, foldJ_true r _ (fun u hu => h u (by simp [hu])), joinL_cons]
theorem conv_row {w : World} {base : Nat} {v : Value} {l : List UInt8} (h : Own w base 5 .u8 v (nums l)) : (convert 32 9 v).run Try.prog w = .ok (.string (Bs l)) w := by
  rw [strNums]
  exact run_convert_rd w 32 9 5 Try.underlying32 Try.underlying5 Try.underlying9 h.rd

theorem jlenT (n c : Nat) (A : Option Addr) (h : n ≤ 20000) (W : World) (ty : TypeId) : (Builtin.len_ #[23] ty #[.slice A n c]).run Try.prog W = .ok (.int .i64 (n : Int)) W := by
  simp [Builtin.len_, run_underlying Try.underlying23]
  rfl
set_option maxRecDepth 100000 in
set_option maxHeartbeats 4000000 in
theorem join_fold (ts : List Tok) (hn : ts.length ≤ 20000) (hk : ∀ t ∈ ts, KindOk t) (v : Value) (w : World) (hv : RdJ w v ts) : Calls Try.prog 11 #[v] w fun e w' => e = .returned (.string (Bs (foldJ ts).1)) ∧ Below w.heap.size w w' := by
  obtain ⟨A, ca, rfl, hca⟩ := hv
  have hla := jlenT ts.length ca A hn
  have HA := hide hca
  have HK := hide hk
  obtain ⟨n, hnn⟩ : ∃ n, ts.length = n := ⟨_, rfl⟩
  have HN := hide hnn
  rw [hnn] at hla hn ⊢
  obtain ⟨q, hq⟩ : ∃ q, w.heap.size = q := ⟨_, rfl⟩
  have HQ := hide hq
  rw [hq]
  clear hca hk hnn hq
  go_enter Try.func11, Try.ntmps11
  go_wp2_with fail
  go_loopw [3, 4, 10] (fun v3 v4 vk wr => ∃ k : Nat, vk = .int .i64 (k : Int) ∧ k ≤ n ∧ Own wr q 5 .u8 v3 (nums (foldJ (ts.take k)).1) ∧ v4 = .string (Bs (if (foldJ (ts.take k)).2 then [32] else [])) ∧ Below q w wr ∧ q ≤ wr.heap.size) (fun _ _ vk _ => n - (intOf vk).toNat)
  case atStart => exact ⟨0, rfl, Nat.zero_le _, Own.nil, rfl, Below.refl _ _, by rw [HQ.out]; exact Nat.le_refl _⟩
  case round =>
    obtain ⟨k, rfl, hk, hO, hsep, hB, hS⟩ := hrel
    have HO := hide hO
    have HB := hide hB
    have HS := hide hS
    clear hO hB hS
    rcases Nat.lt_or_ge k n with hlt | hge
    · obtain ⟨t, ht⟩ : ∃ t, ts[k]? = some t := ⟨_, List.getElem?_eq_getElem (by rw [HN.out]; exact hlt)⟩
      have hko := HK.out t (List.mem_of_getElem? ht)
      have hsn := foldJ_snoc ht
      have hfl : (foldJ (ts.take k)).1.length ≤ 2000200000 := by
        have := foldJ_len (ts.take k) ([], false) (fun u hu => HK.out u (List.mem_of_mem_take hu))
        have h2 : (ts.take k).length ≤ 20000 := by rw [List.length_take, HN.out]; omega
        unfold foldJ; simp only [List.length_nil] at this; omega
      obtain ⟨b, off, rfl, hbl, hc⟩ := HA.out (by rw [HN.out]; omega)
      obtain ⟨o, a0, a1, a2, a3⟩ := hc k t ht
      have hbl' : b < q := HQ.out ▸ hbl
      have c0 := (HB.out.cell (p := ⟨b, off + k * 4, none⟩) hbl').trans a0
      have c1 := (HB.out.cell (p := ⟨b, off + k * 4 + 1, none⟩) hbl').trans a1
      have c2 := (HB.out.cell (p := ⟨b, off + k * 4 + 2, none⟩) hbl').trans a2
      have c3 := (HB.out.cell (p := ⟨b, off + k * 4 + 3, none⟩) hbl').trans a3
      obtain ⟨kd, oo, nn, tx⟩ := t
      obtain ⟨X, hX⟩ : ∃ X, foldJ (ts.take k) = X := ⟨_, rfl⟩
      rw [hX] at HO hsn hfl hsep
      obtain ⟨acc, fl⟩ := X
      dsimp only at c0 c1 c2 c3 HO hfl hsep
      have hlo := hko.lo
      have hhi := hko.hi
      have htx := hko.tx
      dsimp only at hlo hhi htx
      have HF := hide (fmt_len hlo hhi)
      have HSN := hide hsn
      have h1 := hide hlo
      have h2 := hide hhi
      have h3 := hide htx
      have h4 := hide hfl
      have HT := hide ht
      clear hX hsn hlo hhi htx hfl ht hc a0 a1 a2 a3 hko hbl hbl'
      subst hsep
      by_cases hk2 : kd = 2
      · subst hk2
        go_wp2_with (first | (go_at_call 17; refine (formatInt_any nn h1.out h2.out _).mono ?_; rintro en w5 ⟨rfl, hbf⟩) | (at_builtin; refine wpList_append_own_str _ rfl (.tmp 26) (.tmp 27) 32 9 rfl q 5 bytesE Try.underlying9 _ _ rfl ((HO.out.alloc _).below' hbf) (Bs (if fl then [32] else [])) rfl (by rw [Bs_size, nums_len]; (have := h4.out; split <;> simp <;> omega)) (by have := hbf.size; simp only [World.size_alloc] at this; have := HS.out; omega) ?_; intro v6 w6 ho6 hb6) | (at_builtin; refine wpList_append_own_str _ rfl (.tmp 29) (.tmp 30) 32 9 rfl q 5 bytesE Try.underlying9 _ _ rfl ho6 (Bs (fmtZ nn)) rfl (by rw [Bs_size]; (rw [List.length_append, nums_len, strInts_len, Bs_size]; have := h4.out; have := h3.out; have := HF.out; split <;> simp <;> omega)) (by have := hb6.size; have := hbf.size; simp only [World.size_alloc] at this; have := HS.out; omega) ?_; intro v7 w7 ho7 hb7))
        have hfin : Hid (Own w7 q 5 .u8 v7 (nums (foldJ (ts.take (k + 1))).1) ∧ (foldJ (ts.take (k + 1))).2 = true) := by
          show _ ∧ _
          rw [HSN.out]
          have e : stepJ (acc, fl) ⟨2, oo, nn, tx⟩ = (acc ++ ((if fl then [32] else []) ++ fmtZ nn), true) := by simp [stepJ, isKind, piece]
          rw [e]
          refine ⟨?_, rfl⟩
          rw [strInts_Bs, strInts_Bs, List.append_assoc, nums_append, nums_append] at ho7
          exact ho7
        have hBB : Hid (Below q w w7 ∧ q ≤ w7.heap.size) := by
          have s0 := HS.out
          have s1 := hbf.size
          have s2 := hb6.size
          have s3 := hb7.size
          simp only [World.size_alloc] at s1 s2
          have b1 := HB.out.alloc (o := .cells #[.int .i64 2, .int .i64 o, .int .i64 nn, .string (Bs tx)] 34) s0
          refine ⟨?_, by omega⟩
          exact (b1.trans (hbf.mono (by simp only [World.size_alloc]; omega))).trans hb6 |>.trans hb7
        clear ho6 ho7 hb6 hb7 hbf HO HB HS
        go_wp2_with fail
        go_roundw
        case rel => exact ⟨k + 1, by go_num, hlt, hfin.out.1, by rw [hfin.out.2]; rfl, hBB.out.1, hBB.out.2⟩
        case measure => (simp [intOf]; try omega)
      have hk2' : (kd == 2) = false := by simpa using hk2
      by_cases hk1 : kd = 1
      · subst hk1
        go_wp2_with (first | (at_builtin; refine wpList_append_own_str _ rfl (.tmp 26) (.tmp 27) 32 9 rfl q 5 bytesE Try.underlying9 _ _ rfl (HO.out.alloc _) (Bs (if fl then [32] else [])) rfl (by rw [Bs_size, nums_len]; (have := h4.out; split <;> simp <;> omega)) (by simp only [World.size_alloc]; have := HS.out; omega) ?_; intro v6 w6 ho6 hb6) | (at_builtin; refine wpList_append_own_str _ rfl (.tmp 29) (.tmp 30) 32 9 rfl q 5 bytesE Try.underlying9 _ _ rfl ho6 (Bs (tx)) rfl (by rw [Bs_size]; (rw [List.length_append, nums_len, strInts_len, Bs_size]; have := h4.out; have := h3.out; have := HF.out; split <;> simp <;> omega)) (by have := hb6.size; simp only [World.size_alloc] at this; have := HS.out; omega) ?_; intro v7 w7 ho7 hb7))
        have hfin : Hid (Own w7 q 5 .u8 v7 (nums (foldJ (ts.take (k + 1))).1) ∧ (foldJ (ts.take (k + 1))).2 = true) := by
          show _ ∧ _
          rw [HSN.out]
          have e : stepJ (acc, fl) ⟨1, oo, nn, tx⟩ = (acc ++ ((if fl then [32] else []) ++ tx), true) := by simp [stepJ, isKind, piece]
          rw [e]
          refine ⟨?_, rfl⟩
          rw [strInts_Bs, strInts_Bs, List.append_assoc, nums_append, nums_append] at ho7
          exact ho7
        have hBB : Hid (Below q w w7 ∧ q ≤ w7.heap.size) := by
          have s0 := HS.out
          have s1 := hb6.size
          have s2 := hb6.size
          have s3 := hb7.size
          simp only [World.size_alloc] at s1 s2
          have b1 := HB.out.alloc (o := .cells #[.int .i64 1, .int .i64 o, .int .i64 nn, .string (Bs tx)] 34) s0
          refine ⟨?_, by omega⟩
          exact (b1).trans hb6 |>.trans hb7
        clear ho6 ho7 hb6 hb7  HO HB HS
        go_wp2_with fail
        go_roundw
        case rel => exact ⟨k + 1, by go_num, hlt, hfin.out.1, by rw [hfin.out.2]; rfl, hBB.out.1, hBB.out.2⟩
        case measure => (simp [intOf]; try omega)
      have hk1' : (kd == 1) = false := by simpa using hk1
      by_cases hk3 : kd = 3
      · subst hk3
        go_wp2_with (first | (at_builtin; refine wpList_append_own_str _ rfl (.tmp 26) (.tmp 27) 32 9 rfl q 5 bytesE Try.underlying9 _ _ rfl (HO.out.alloc _) (Bs (if fl then [32] else [])) rfl (by rw [Bs_size, nums_len]; (have := h4.out; split <;> simp <;> omega)) (by simp only [World.size_alloc]; have := HS.out; omega) ?_; intro v6 w6 ho6 hb6) | (at_builtin; refine wpList_append_own_str _ rfl (.tmp 29) (.tmp 30) 32 9 rfl q 5 bytesE Try.underlying9 _ _ rfl ho6 (Bs (tx)) rfl (by rw [Bs_size]; (rw [List.length_append, nums_len, strInts_len, Bs_size]; have := h4.out; have := h3.out; have := HF.out; split <;> simp <;> omega)) (by have := hb6.size; simp only [World.size_alloc] at this; have := HS.out; omega) ?_; intro v7 w7 ho7 hb7))
        have hfin : Hid (Own w7 q 5 .u8 v7 (nums (foldJ (ts.take (k + 1))).1) ∧ (foldJ (ts.take (k + 1))).2 = true) := by
          show _ ∧ _
          rw [HSN.out]
          have e : stepJ (acc, fl) ⟨3, oo, nn, tx⟩ = (acc ++ ((if fl then [32] else []) ++ tx), true) := by simp [stepJ, isKind, piece]
          rw [e]
          refine ⟨?_, rfl⟩
          rw [strInts_Bs, strInts_Bs, List.append_assoc, nums_append, nums_append] at ho7
          exact ho7
        have hBB : Hid (Below q w w7 ∧ q ≤ w7.heap.size) := by
          have s0 := HS.out
          have s1 := hb6.size
          have s2 := hb6.size
          have s3 := hb7.size
          simp only [World.size_alloc] at s1 s2
          have b1 := HB.out.alloc (o := .cells #[.int .i64 3, .int .i64 o, .int .i64 nn, .string (Bs tx)] 34) s0
          refine ⟨?_, by omega⟩
          exact (b1).trans hb6 |>.trans hb7
        clear ho6 ho7 hb6 hb7  HO HB HS
        go_wp2_with fail
        go_roundw
        case rel => exact ⟨k + 1, by go_num, hlt, hfin.out.1, by rw [hfin.out.2]; rfl, hBB.out.1, hBB.out.2⟩
        case measure => (simp [intOf]; try omega)
      have hk3' : (kd == 3) = false := by simpa using hk3
      have hsk : Hid (foldJ (ts.take (k + 1)) = (acc, fl)) := by
        show _ = _
        rw [HSN.out]; simp [stepJ, isKind, hk1, hk2, hk3]
      clear hk1 hk2 hk3
      go_wp2_with fail
      go_roundw
      case rel => exact ⟨k + 1, by go_num, hlt, by rw [hsk.out]; exact HO.out.alloc _, by rw [hsk.out], HB.out.alloc HS.out _, by simp only [World.size_alloc]; have := HS.out; omega⟩
      case measure => (simp [intOf]; try omega)
    · obtain rfl : k = n := by omega
      have hall : ts.take k = ts := List.take_of_length_le (by rw [HN.out]; exact Nat.le_refl _)
      rw [hall] at HO
      have hcv := conv_row HO.out
      clear hall HA HK HN
      go_wp2_with fail
      go_ret
      exact ⟨rfl, HB.out⟩

theorem parse_range (t : List UInt8) : -9223372036854775808 ≤ parseI t ∧ parseI t ≤ 9223372036854775807 := by
  unfold parseI
  split
  · rename_i h
    have h2 : num (cut t) ≤ limitN (minus t) := by
      unfold parseOk at h
      simp only [Bool.and_eq_true, decide_eq_true_eq] at h
      exact h.2
    cases hm : minus t <;> rw [hm] at h2 <;> simp [limitN] at h2 ⊢ <;> omega
  · omega
theorem scan_kind : ∀ (n : Nat) (L : List UInt8) (i k : Nat), ∀ t ∈ (scan n L i k).1, isKind t = true ∧ -9223372036854775808 ≤ t.n ∧ t.n ≤ 9223372036854775807 ∧ t.text.length ≤ L.length
  | 0, _, _, _, t, h => by cases h
  | _ + 1, [], _, _, t, h => by cases h
  | n + 1, c :: r, i, k, t, h => by
    unfold scan at h
    split at h
    · obtain ⟨a, b, d, e⟩ := scan_kind n r _ _ t h
      exact ⟨a, b, d, by simp; omega⟩
    · split at h
      · cases h
      · split at h
        · rename_i he
          dsimp only at h
          split at h
          · rcases List.mem_cons.1 h with rfl | h
            · refine ⟨?_, ?_, ?_, ?_⟩
              · rcases tokK_some (c :: r) with e | e | e <;> simp [isKind, tokAt, e]
              · show -9223372036854775808 ≤ tokN (c :: r)
                unfold tokN; split
                · omega
                · split
                  · omega
                  · exact (parse_range _).1
              · show tokN (c :: r) ≤ 9223372036854775807
                unfold tokN; split
                · omega
                · split
                  · omega
                  · exact (parse_range _).2
              · show (tokT (c :: r)).length ≤ _
                unfold tokT; split
                · simp
                · split
                  · rw [List.length_take]; omega
                  · simp
            · obtain ⟨a, b, d, e⟩ := scan_kind n _ _ _ t h
              exact ⟨a, b, d, by rw [List.length_drop] at e; omega⟩
          · cases h
        · cases h
theorem join_any (ts : List Tok) (hn : ts.length ≤ 20000) (hk : ∀ t ∈ ts, isKind t = true ∧ -9223372036854775808 ≤ t.n ∧ t.n ≤ 9223372036854775807 ∧ t.text.length ≤ 100000) (v : Value) (w : World) (hv : RdT w v ts) :
    Calls Try.prog 11 #[v] w fun e w' => e = .returned (.string (Bs (joinL ts))) ∧ Below w.heap.size w w' := by
  have := join_fold ts hn (fun t ht => ⟨(hk t ht).2.1, (hk t ht).2.2.1, (hk t ht).2.2.2⟩) v w hv.toJ
  rw [foldJ_join (fun t ht => (hk t ht).1)] at this
  exact this
end Go.Proofs.Ytijibieeajakoaa

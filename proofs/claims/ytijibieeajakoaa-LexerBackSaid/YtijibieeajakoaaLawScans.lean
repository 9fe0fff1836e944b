/-
  LexerScans, layer 13 (lexer).
-/
import Derived.Test.YtijibieeajakoaaAwake
import Derived.Test.YtijibieeajakoaaLexR
namespace Go.Proofs.Ytijibieeajakoaa
open Go.RowKit

theorem scan_len : ∀ (n : Nat) (l : List UInt8) (i k : Nat), k ≤ 20000 → k + (scan n l i k).1.length ≤ 20000
  | 0, _, _, k, h => by simpa [scan] using h
  | _ + 1, [], _, k, h => by simpa [scan] using h
  | n + 1, c :: r, i, k, h => by
    unfold scan
    split
    · exact scan_len n r _ k h
    · split
      · simpa using h
      · rename_i hk
        split
        · dsimp only
          split
          · have := scan_len n ((c :: r).drop (tokLen (c :: r))) (i + tokLen (c :: r)) (k + 1) (by omega)
            simp only [List.length_cons]; omega
          · simpa using h
        · simpa using h
theorem scan_count (l : List UInt8) : (Scan l).1.length ≤ 20000 := by
  unfold Scan
  split
  · simp
  · have := scan_len l.length l 0 0 (by omega)
    omega
theorem rd4 {w w' : World} {b off i : Nat} {t : Tok} (h : w.cell? ⟨b, off + i * 4, none⟩ = some (.int .i64 t.kind) ∧ w.cell? ⟨b, off + i * 4 + 1, none⟩ = some (.int .i64 (t.off : Int)) ∧ w.cell? ⟨b, off + i * 4 + 2, none⟩ = some (.int .i64 t.n) ∧ w.cell? ⟨b, off + i * 4 + 3, none⟩ = some (.string (Bs t.text))) (hb : Below w.heap.size w w') (hlt : b < w.heap.size) :
    w'.cell? ⟨b, off + i * 4, none⟩ = some (.int .i64 t.kind) ∧ w'.cell? ⟨b, off + i * 4 + 1, none⟩ = some (.int .i64 (t.off : Int)) ∧ w'.cell? ⟨b, off + i * 4 + 2, none⟩ = some (.int .i64 t.n) ∧ w'.cell? ⟨b, off + i * 4 + 3, none⟩ = some (.string (Bs t.text)) :=
  ⟨(hb.cell (p := ⟨b, _, none⟩) hlt).trans h.1, (hb.cell (p := ⟨b, _, none⟩) hlt).trans h.2.1, (hb.cell (p := ⟨b, _, none⟩) hlt).trans h.2.2.1, (hb.cell (p := ⟨b, _, none⟩) hlt).trans h.2.2.2⟩

set_option maxRecDepth 100000 in
set_option maxHeartbeats 2000000 in
theorem same_any (va vb : Value) (ts : List Tok) (hn : ts.length ≤ 20000) (w : World) (ha : RdT w va ts) (hb : RdT w vb ts) : Calls Try.prog 10 #[va, vb] w fun e w' => e = .returned (.bool true) ∧ Below w.heap.size w w' := by
  obtain ⟨A, ca, rfl, hca⟩ := ha
  obtain ⟨B, cb, rfl, hcb⟩ := hb
  have hla := lenT ts.length ca A hn
  have hlb := rlenT ts.length cb B hn
  have HA := hide hca
  have HB := hide hcb
  obtain ⟨n, hnn⟩ : ∃ n, ts.length = n := ⟨_, rfl⟩
  have HN := hide hnn
  rw [hnn] at hla hlb hn ⊢
  have hT := Bs_toList
  clear hca hcb hnn
  go_enter Try.func10, Try.ntmps10
  go_wp2
  go_loopw [13] (fun v W => ∃ (k : Nat), v = .int .i64 (k : Int) ∧ k ≤ n ∧ Below w.heap.size w W) (fun v _ => n - (intOf v).toNat)
  case atStart => exact ⟨0, rfl, Nat.zero_le _, Below.refl _ _⟩
  case round =>
    obtain ⟨k, rfl, hk, hbw⟩ := hrel
    have HW := hide hbw
    clear hbw
    rcases Nat.lt_or_ge k n with hlt | hge
    · obtain ⟨t, ht⟩ : ∃ t, ts[k]? = some t := ⟨_, List.getElem?_eq_getElem (by rw [HN.out]; exact hlt)⟩
      obtain ⟨b, off, rfl, hbl, hc⟩ := HA.out (by rw [HN.out]; omega)
      obtain ⟨b', off', rfl, hbl', hc'⟩ := HB.out (by rw [HN.out]; omega)
      obtain ⟨a0, a1, a2, a3⟩ := rd4 (hc k t ht) HW.out hbl
      obtain ⟨b0, b1, b2, b3⟩ := rd4 (hc' k t ht) HW.out hbl'
      clear hc hc' HA HB HN hbl hbl' ht
      obtain ⟨kd, oo, nn, tx⟩ := t
      dsimp only at a0 a1 a2 a3 b0 b1 b2 b3
      have q0 : (kd != kd) = false := by simp
      have q1 : ((oo : Int) != (oo : Int)) = false := by simp
      have q2 : (nn != nn) = false := by simp
      have q3 : (!((Bs tx).toList == (Bs tx).toList)) = false := by simp
      clear hT
      go_wp2_with fail
      go_quiet (fail)
      go_wp2_with fail
      go_roundw
      case rel => exact ⟨k + 1, by go_num, hlt, Below.drewN' HW.out nq⟩
      case measure => simp [intOf]; omega
    · obtain rfl : k = n := by omega
      clear HA HB HN
      go_wp2
      go_ret
      exact ⟨rfl, HW.out⟩

set_option maxRecDepth 100000 in
set_option maxHeartbeats 2000000 in
theorem law_scans (s : ByteArray) (hs : s.size ≤ maxLen) (w : World) : Calls Try.prog 3 #[.string s] w (LawDone w) := by
  obtain ⟨l, rfl⟩ : ∃ l, s = Bs l := ⟨_, Bs_of s⟩
  rw [Bs_size] at hs
  have hlen := lenS l hs
  by_cases h7 : (70000 : Int) < (l.length : Int)
  · go_enter Try.func3, Try.ntmps3
    go_wp2_with (go_at_call 7; refine (awake_any _).mono ?_; rintro en w1 ⟨rfl, hb1⟩)
    go_ret
    exact ⟨rfl, hb1⟩
  have hm : l.length ≤ 70000 := by omega
  have hcnt : Hid ((Scan l).1.length ≤ 20000) := by
    show _ ≤ _
    exact scan_count l
  have S1 := scan_any l (by omega)
  have S2 := rscan_any l (by omega)
  obtain ⟨X, hX⟩ : ∃ X, Scan l = X := ⟨_, rfl⟩
  rw [hX] at S1 S2 hcnt
  obtain ⟨ts, p, ev⟩ := X
  clear hX hm
  go_enter Try.func3, Try.ntmps3
  go_wp2_with fail
  refine (S1 _).mono ?_
  rintro en w1 ⟨v1, rfl, ho1, hb1⟩
  go_wp2_with fail
  refine (S2 _).mono ?_
  rintro en w2 ⟨v2, rfl, ho2, hb2⟩
  go_wp2_with fail
  refine (awake_any _).mono ?_
  rintro en w3 ⟨rfl, hb3⟩
  have HC := same_any v1 v2 ts hcnt.out w3 ((ho1.rd.below hb2).below hb3) (ho2.rd.below hb3)
  have HB : Hid (Below w.heap.size w w3) := hide (Below.all (Below.all hb1 hb2) hb3)
  clear ho1 ho2 hb1 hb2 hb3 S1 S2
  go_wp2_with fail
  refine HC.mono ?_
  rintro en w4 ⟨rfl, hb4⟩
  go_wp2_with fail
  go_ret
  exact ⟨rfl, Below.all HB.out hb4⟩
end Go.Proofs.Ytijibieeajakoaa

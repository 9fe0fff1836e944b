/-
  LexerBack, layer 13 (lexer).
-/
import Derived.Test.YtijibieeajakoaaLawScans
import Derived.Test.YtijibieeajakoaaLexU
import Derived.Test.YtijibieeajakoaaJoin
namespace Go.Proofs.Ytijibieeajakoaa
open Go.RowKit

theorem scan_small {m : List UInt8} (h : m.length ≤ 60000) : Scan m = scan m.length m 0 0 := by
  unfold Scan; rw [if_neg (by omega)]

set_option maxRecDepth 100000 in
set_option maxHeartbeats 600000 in
theorem law_back (s : ByteArray) (hs : s.size ≤ maxLen) (w : World) : Calls Try.prog 6 #[.string s] w (LawDone w) := by
  obtain ⟨l, rfl⟩ : ∃ l, s = Bs l := ⟨_, Bs_of s⟩
  rw [Bs_size] at hs
  have hlen := lenS l hs
  by_cases h7 : (20000 : Int) < (l.length : Int)
  · go_enter Try.func6, Try.ntmps6
    go_wp2_with (go_at_call 7; refine (awake_any _).mono ?_; rintro en w1 ⟨rfl, hb1⟩)
    go_ret
    exact ⟨rfl, hb1⟩
  have hm : l.length ≤ 20000 := by omega
  have S1 := scan_any l (by omega)
  have hcnt : Hid ((Scan l).1.length ≤ 20000) := scan_count l
  have hSc : Scan l = scan l.length l 0 0 := by unfold Scan; rw [if_neg (by omega)]
  by_cases he : (Scan l).2.2 ≠ 0
  · have hnil : (Scan l).1 = [] := by rw [hSc] at he ⊢; exact scan_err_nil _ _ _ _ he
    obtain ⟨X, hX⟩ : ∃ X, Scan l = X := ⟨_, rfl⟩
    rw [hX] at S1 he hnil
    obtain ⟨ts, p, ev⟩ := X
    dsimp only at S1 he hnil
    subst hnil
    have he2 : (ev != 0) = true := by simpa using he
    clear hcnt hSc hX he
    go_enter Try.func6, Try.ntmps6
    go_wp2_with fail
    refine (S1 _).mono ?_
    rintro en w1 ⟨v1, rfl, ho1, hb1⟩
    obtain ⟨A, cap, rfl⟩ := ho1.form
    have hln := lenT 0 cap A (by omega)
    clear ho1 S1
    go_wp2_with fail
    refine (awake_any _).mono ?_
    rintro en w3 ⟨rfl, hb3⟩
    go_wp2_with fail
    go_ret
    exact ⟨rfl, Below.all hb1 hb3⟩
  have he0 : (Scan l).2.2 = 0 := by omega
  have hjl : (joinL (Scan l).1).length ≤ 40000 := by rw [hSc]; have := join_len l.length l 0 0; omega
  have hinc := hide (show Inc 0 (Scan l).1 by rw [hSc]; exact scan_inc _ _ _ _)
  have hback : (Scan (joinL (Scan l).1)).2.2 = 0 ∧ TsEq (Scan l).1 (Scan (joinL (Scan l).1)).1 := by
    have e : Scan (joinL (Scan l).1) = scan (joinL (Scan l).1).length (joinL (Scan l).1) 0 0 := scan_small (by omega)
    rw [e]
    rw [hSc] at he0 ⊢
    exact scan_join l.length l 0 0 he0 _ 0 (Nat.le_refl _)
  have hkind : Hid (∀ t ∈ (Scan l).1, isKind t = true ∧ -9223372036854775808 ≤ t.n ∧ t.n ≤ 9223372036854775807 ∧ t.text.length ≤ 100000) := by
    show ∀ t ∈ _, _
    intro t ht
    rw [hSc] at ht
    obtain ⟨a, b, d, e⟩ := scan_kind _ _ _ _ t ht
    exact ⟨a, b, d, by omega⟩
  have S2 := scan_any (joinL (Scan l).1) (by omega)
  have J1 := join_any (Scan l).1 hcnt.out hkind.out
  obtain ⟨Y, hY⟩ : ∃ Y, Scan (joinL (Scan l).1) = Y := ⟨_, rfl⟩
  rw [hY] at S2 hback
  obtain ⟨X, hX⟩ : ∃ X, Scan l = X := ⟨_, rfl⟩
  rw [hX] at S1 S2 J1 hcnt hinc hback he0
  obtain ⟨ts, p, ev⟩ := X
  obtain ⟨us, p2, ev2⟩ := Y
  dsimp only at S1 S2 J1 hcnt hinc hback he0
  obtain ⟨rfl, hte⟩ := hback
  subst he0
  have hul : us.length = ts.length := (TsEq.len hte).symm
  have HTE := hide hte
  clear hX hY hjl hkind hSc he hm hte
  go_enter Try.func6, Try.ntmps6
  go_wp2_with fail
  refine (S1 _).mono ?_
  rintro en w1 ⟨v1, rfl, ho1, hb1⟩
  have J2 := J1 v1 w1 ho1.rd
  go_wp2_with fail
  refine J2.mono ?_
  rintro en w2 ⟨rfl, hb2⟩
  go_wp2_with fail
  refine (S2 _).mono ?_
  rintro en w3 ⟨v3, rfl, ho3, hb3⟩
  have HA := hide ((ho1.rd.below hb2).below hb3)
  have HB := hide ho3.rd
  have HW : Hid (Below w.heap.size w w3) := hide (Below.all (Below.all hb1 hb2) hb3)
  obtain ⟨A, ca, rfl, -⟩ := HA.out
  obtain ⟨B, cb, rfl, -⟩ := HB.out
  have hla := lenT ts.length ca A hcnt.out
  have hlb := lenT us.length cb B (by rw [hul]; exact hcnt.out)
  obtain ⟨n, hn⟩ : ∃ n, ts.length = n := ⟨_, rfl⟩
  have HN := hide hn
  have HU : Hid (us.length = n) := hul.trans hn
  rw [hul] at hlb HB ⊢
  rw [hn] at hla hlb HA HB ⊢
  have hn2 := hcnt.out
  rw [hn] at hn2
  clear hul hn hb1 hb2 hb3 ho1 ho3 S1 S2 J1 J2 hcnt
  go_wp2_with fail
  go_loopw [46] (fun v W => ∃ (k : Nat), v = .int .i64 (k : Int) ∧ k ≤ n ∧ Below w3.heap.size w3 W) (fun v _ => n - (intOf v).toNat)
  case atStart => exact ⟨0, rfl, Nat.zero_le _, Below.refl _ _⟩
  case round =>
    obtain ⟨k, rfl, hk, hbw⟩ := hrel
    have HX := hide hbw
    clear hbw
    rcases Nat.lt_or_ge k n with hlt | hge
    · obtain ⟨A', ca', ea, hca⟩ := HA.out
      obtain ⟨B', cb', eb, hcb⟩ := HB.out
      injection ea with ea1 ea2 ea3
      injection eb with eb1 eb2 eb3
      subst ea1 ea3 eb1 eb3
      obtain ⟨b, off, rfl, hbl, hc⟩ := hca (by rw [HN.out]; omega)
      obtain ⟨b', off', rfl, hbl', hc'⟩ := hcb (by rw [HU.out]; omega)
      obtain ⟨t, ht⟩ : ∃ t, ts[k]? = some t := ⟨_, List.getElem?_eq_getElem (by rw [HN.out]; exact hlt)⟩
      obtain ⟨u, hu⟩ : ∃ t, us[k]? = some t := ⟨_, List.getElem?_eq_getElem (by rw [HU.out]; exact hlt)⟩
      obtain ⟨e1, e2, e3⟩ := TsEq.at HTE.out k t u ht hu
      obtain ⟨a0, a1, a2, a3⟩ := rd4 (hc k t ht) HX.out hbl
      obtain ⟨b0, b1, b2, b3⟩ := rd4 (hc' k u hu) HX.out hbl'
      rw [← e1] at b0
      rw [← e2] at b2
      rw [← e3] at b3
      obtain ⟨kd, oo, nn, tx⟩ := t
      dsimp only at a0 a1 a2 a3 b0 b2 b3
      have q0 : (kd != kd) = false := by simp
      have q2 : (nn != nn) = false := by simp
      have q3 : (!((Bs tx).toList == (Bs tx).toList)) = false := by simp
      clear e1 e2 e3 ea2 eb2
      rcases Nat.eq_zero_or_pos k with hk0 | hk0
      · have q4 : decide (0 < k) = false := decide_eq_false (by omega)
        clear hk0
        clear hc hc' HA HB HN HU hbl hbl' ht hu hca hcb b1
        go_wp2_with fail
        go_quiet (fail)
        go_wp2_with fail
        go_roundw
        case rel => exact ⟨_, by go_num, hlt, Below.drewN' HX.out nq⟩
        case measure => simp [intOf]; omega
      · obtain ⟨j, rfl⟩ : ∃ j, k = j + 1 := ⟨k - 1, by omega⟩
        obtain ⟨t', ht'⟩ : ∃ t, ts[j]? = some t := ⟨_, List.getElem?_eq_getElem (by rw [HN.out]; omega)⟩
        have hoff := Inc.lt hinc.out j t' _ ht' ht
        obtain ⟨-, d1, -, -⟩ := rd4 (hc j t' ht') HX.out hbl
        obtain ⟨o2, ho2⟩ : ∃ z : Int, (t'.off : Int) = z := ⟨_, rfl⟩
        obtain ⟨o1, ho1⟩ : ∃ z : Int, (oo : Int) = z := ⟨_, rfl⟩
        have hoff2 : (o2 : Int) < o1 := by rw [← ho2, ← ho1]; exact Int.ofNat_lt.2 hoff
        rw [ho2] at d1
        rw [ho1] at a1
        have q1 : decide (o1 ≤ o2) = false := decide_eq_false (by omega)
        have q4 : decide (0 < j + 1) = true := decide_eq_true (by omega)
        clear hc hc' HA HB HN HU hbl hbl' ht hu hca hcb b1 ht' ho2 ho1 hoff hoff2
        go_wp2_with fail
        go_quiet (fail)
        go_wp2_with fail
        go_roundw
        case rel => exact ⟨_, by go_num, hlt, Below.drewN' HX.out nq⟩
        case measure => simp [intOf]; omega
    · obtain rfl : k = n := by omega
      clear HA HB HN HU
      go_wp2_with fail
      refine (awake_any _).mono ?_
      rintro en w5 ⟨rfl, hb5⟩
      go_wp2_with fail
      go_ret
      exact ⟨rfl, Below.all (Below.all HW.out HX.out) hb5⟩
end Go.Proofs.Ytijibieeajakoaa

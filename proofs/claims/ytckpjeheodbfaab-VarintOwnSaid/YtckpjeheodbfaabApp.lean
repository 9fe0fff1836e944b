import Derived.Test.YtckpjeheodbfaabPut
namespace Go.Proofs.Ytckpjeheodbfaab
open Go.RowKit

/-- A list of integers that int holds. -/
def Words (l : List Int) : Prop := ∀ z ∈ l, -9223372036854775808 ≤ z ∧ z ≤ 9223372036854775807
/-- AppendInt. -/
theorem appInt_any (v : Value) (l : List Int) (n : Int) (w : World) (hv : Rd w .u8 v l) (hn : -9223372036854775808 ≤ n ∧ n ≤ 9223372036854775807) (hl : l.length ≤ 1000000) :
    Calls Try.prog 11 #[v, .int .i64 n] w fun e w' => ∃ v', e = .returned v' ∧ Own w' w.heap.size 5 .u8 v' (l ++ enc n) ∧ Below w.heap.size w w' := by
  have HN := hide hn
  clear hn
  go_enter Try.func11, Try.ntmps11
  go_wp2_with fail
  refine (grown_any v l 10 w hv (by omega) (by omega) hl).mono ?_
  rintro e w1 ⟨v1, rfl, ho1, hb1⟩
  go_wp2_with fail
  refine (put_any _ v1 l n w1 ho1 HN.out (by omega) hb1.size).mono ?_
  rintro e w2 ⟨v2, rfl, ho2, hb2⟩
  have hB := hb1.trans hb2
  clear hb1 hb2 ho1
  go_wp2_with fail
  go_ret
  exact ⟨_, rfl, ho2, hB⟩

/-- AppendString. -/
theorem appStr_any (v : Value) (l : List Int) (s : ByteArray) (w : World) (hv : Rd w .u8 v l) (hl : l.length ≤ 1000000) (hs : s.size ≤ 100000) :
    Calls Try.prog 15 #[v, .string s] w fun e w' => ∃ v', e = .returned v' ∧ Own w' w.heap.size 5 .u8 v' (l ++ encStr (strInts s)) ∧ Below w.heap.size w w' := by
  go_enter Try.func15, Try.ntmps15
  go_wp2_with fail
  refine (grown_any v l _ w hv (by omega) (by omega) hl).mono ?_
  rintro e w1 ⟨v1, rfl, ho1, hb1⟩
  go_wp2_with fail
  refine (put_any _ v1 l s.size w1 ho1 (by omega) (by omega) hb1.size).mono ?_
  rintro e w2 ⟨v2, rfl, ho2, hb2⟩
  have hB := hb1.trans hb2
  have hel := enc_len s.size
  clear hb1 hb2 ho1
  go_wp2_with (at_builtin; refine wpList_append_own_str _ rfl _ _ 22 9 rfl w.heap.size 5 bytesE Try.underlying9 _ _ rfl ho2 s rfl ?b1 ?b3 ?_)
  case b1 => rw [List.length_append]; omega
  case b3 => exact hB.size
  intro v' w3 ho3 hb3
  have hB3 := hB.trans hb3
  have HO := hide (show Own w3 w.heap.size 5 .u8 v' (l ++ encStr (strInts s)) by unfold encStr; rw [strInts_len]; exact ho3)
  clear ho3 ho2 hb3 hB
  go_wp2_with fail
  go_ret
  exact ⟨_, rfl, HO.out, hB3⟩

/-- AppendInts. -/
theorem appInts_any (v u : Value) (l m : List Int) (w : World) (hv : Rd w .u8 v l) (hu : Rd w .i64 u m) (hw : Words m) (hl : l.length ≤ 1000000) (hm : m.length ≤ 100000) :
    Calls Try.prog 13 #[v, u] w fun e w' => ∃ v', e = .returned v' ∧ Own w' w.heap.size 5 .u8 v' (l ++ encInts m) ∧ Below w.heap.size w w' := by
  obtain ⟨A, c, rfl, hc, _, hr⟩ := hu
  have HW := hide hw
  clear hw
  go_enter Try.func13, Try.ntmps13
  go_wp2_with fail
  refine (grown_any v l _ w hv (by omega) (by omega) hl).mono ?_
  rintro e w1 ⟨v1, rfl, ho1, hb1⟩
  go_wp2_with fail
  refine (put_any _ v1 l m.length w1 ho1 (by omega) (by omega) hb1.size).mono ?_
  rintro e w2 ⟨v2, rfl, ho2, hb2⟩
  have hB := hb1.trans hb2
  have hel := enc_len m.length
  clear hb1 hb2 ho1
  go_wp2_with fail
  go_loopw [5, 18] (fun o i wr => ∃ k : Nat, k ≤ m.length ∧ i = .int .i64 k ∧ Own wr w.heap.size 5 .u8 o (l ++ (enc m.length ++ encs (m.take k))) ∧ Below w.heap.size w wr) (fun _ i _ => m.length - (intOf i).toNat)
  case atStart => exact ⟨0, Nat.zero_le _, rfl, by rw [List.take_zero]; show Own _ _ _ _ _ (l ++ (enc m.length ++ [])); rw [List.append_nil]; exact ho2, hB⟩
  case round =>
    obtain ⟨k, hk, rfl, ho, hb⟩ := hrel
    clear ho2 hB
    by_cases hlt : k < m.length
    · obtain ⟨b, off, rfl, hblk, hcell⟩ := hr (by omega)
      obtain ⟨x, hx⟩ : ∃ x, m[k]? = some x := ⟨_, List.getElem?_eq_getElem hlt⟩
      have c1 : wr.cell? ⟨b, off + k, none⟩ = some (.int .i64 x) := (hb.cell (p := ⟨b, off + k, none⟩) hblk).trans (hcell k x hx)
      have HX := hide (And.intro hx (HW.out x (List.mem_of_getElem? hx)))
      have hsz := encs_len (m.take k)
      have htk : (m.take k).length ≤ k := List.length_take_le _ _
      clear hx hcell hr
      go_wp2_with fail
      refine (put_any _ _ _ x wr ho HX.out.2 (by rw [List.length_append, List.length_append]; omega) hb.size).mono ?_
      rintro e w3 ⟨v3, rfl, ho3, hb3⟩
      have hB3 := hb.trans hb3
      have HO := hide (show Own w3 w.heap.size 5 .u8 v3 (l ++ (enc m.length ++ encs (m.take (k + 1)))) by rw [encs_take m k x HX.out.1, ← List.append_assoc, ← List.append_assoc, List.append_assoc l]; exact ho3)
      clear ho3 ho hb hb3 hsz htk c1
      go_wp2_with fail
      go_roundw
      case rel => exact ⟨k + 1, by omega, by go_num, HO.out, hB3⟩
      case measure => simp [intOf]; omega
    · obtain rfl : k = m.length := by omega
      have HO := hide (show Own wr w.heap.size 5 .u8 u5 (l ++ encInts m) by have := ho; rw [List.take_length] at this; exact this)
      go_wp2_with fail
      go_ret
      exact ⟨_, rfl, HO.out, hb⟩
end Go.Proofs.Ytckpjeheodbfaab

import Derived.Test.YtckpjeheodbfaabPut
import Derived.Test.YtckpjeheodbfaabApp
namespace Go.Proofs.Ytckpjeheodbfaab
open Go.RowKit

/-- '[]T{}': an empty row of the call's own. -/
theorem own_empty (w : World) (e : TypeId) (k : IntKind) (base : Nat) (hb : base ≤ w.heap.size) : Own (w.alloc (.cells #[] e)) base e k (.slice (some ⟨w.heap.size, 0, none⟩) 0 0) [] :=
  ⟨rfl, .inr ⟨w.heap.size, 0, #[], rfl, hb, heap_alloc_new w _, Nat.le_refl _, by unfold maxLen; omega, rfl, rfl⟩⟩

set_option maxRecDepth 100000 in
/-- The document's AppendInt. -/
theorem rappInt_any (v : Value) (l : List Int) (n : Int) (w : World) (hv : Rd w .u8 v l) (hn : -9223372036854775808 ≤ n ∧ n ≤ 9223372036854775807) (hl : l.length ≤ 100000000) :
    Calls Try.prog 12 #[v, .int .i64 n] w fun e w' => ∃ v', e = .returned v' ∧ Own w' w.heap.size 5 .u8 v' (l ++ enc n) ∧ Below w.heap.size w w' := by
  have HN := hide hn
  clear hn
  go_enter Try.func12, Try.ntmps12
  go_wp2_with (at_builtin; refine wpList_append_rd _ rfl _ _ 22 rfl w.heap.size 5 .u8 1 bytesE _ [] rfl (own_empty w _ _ _ ?c2) _ l rfl (hv.alloc _) ?b1 ?b2 ?b3 ?_)
  case c2 => exact Nat.le_refl _
  case b1 => rw [List.length_nil]; omega
  case b2 => unfold maxLen; rw [List.length_nil]; omega
  case b3 => simp
  intro v1 w1 ho1 _ hb1 _
  have hB1 : Below w.heap.size w w1 := ((Below.refl _ _).alloc (Nat.le_refl _) _).trans hb1
  clear hb1
  go_wp2_with (go_at_call 33; refine (rzigzag_any _ _ HN.out).mono ?_; rintro e w' ⟨rfl, rfl⟩)
  go_loopw [5, 6] (fun b z wr => ∃ (done : List Int) (f zn : Nat), z = .int .u64 zn ∧ InGroups f zn ∧ InWord zn ∧ done ++ groups f zn = enc n ∧ Own wr w.heap.size 5 .u8 b (l ++ done) ∧ Below w.heap.size w wr) (fun _ z _ => (intOf z).toNat)
  case atStart => exact ⟨[], 9, zz n, rfl, zz_small HN.out, zz_lt HN.out, rfl, by rw [List.append_nil]; exact ho1, hB1⟩
  case round =>
    clear ho1 hB1
    obtain ⟨done, f, zn, rfl, hz, hz64, he, hown, hB⟩ := hrel
    have HE := hide he
    have hdl : done.length ≤ 10 := by have := enc_len n; have := congrArg List.length he; rw [List.length_append] at this; omega
    have hsz := hB.size
    clear he
    by_cases hlt : zn < 128
    · go_wp2_with (at_builtin; refine wpList_append_rd _ rfl _ _ 22 rfl w.heap.size 5 .u8 1 bytesE _ (l ++ done) rfl (hown.alloc _) _ [_] rfl (rd_one _ _ _) ?b1 ?b2 ?b3 ?_)
      case b1 => rw [List.length_append]; simp only [List.length_cons, List.length_nil]; omega
      case b2 => unfold maxLen; rw [List.length_append]; simp only [List.length_cons, List.length_nil]; omega
      case b3 => rw [World.size_alloc]; omega
      intro v' w2 hown1 _ hb1 _
      have hB1 := (hB.alloc (by omega) _).trans hb1
      have hE : enc n = done ++ [(zn : Int)] := by rw [← HE.out, groups_last hlt]
      have HO := hide (show Own w2 w.heap.size 5 .u8 v' (l ++ enc n) by rw [hE]; exact hown1)
      clear hown1 hown hb1 hB hE HE
      go_wp2_with fail
      go_ret
      exact ⟨_, rfl, HO.out, hB1⟩
    · go_wp2_with (at_builtin; refine wpList_append_rd _ rfl _ _ 22 rfl w.heap.size 5 .u8 1 bytesE _ (l ++ done) rfl (hown.alloc _) _ [_] rfl (rd_one _ _ _) ?b1 ?b2 ?b3 ?_)
      case b1 => rw [List.length_append]; simp only [List.length_cons, List.length_nil]; omega
      case b2 => unfold maxLen; rw [List.length_append]; simp only [List.length_cons, List.length_nil]; omega
      case b3 => rw [World.size_alloc]; omega
      intro v' w2 hown1 _ hb1 _
      have hB1 := (hB.alloc (by omega) _).trans hb1
      have ez : (zn : Int) % 128 + 128 = ((zn % 128 + 128 : Nat) : Int) := by omega
      rw [ez] at hown1
      obtain ⟨g, hg, hg2⟩ := groups_step hz (by omega)
      have hE : (done ++ [((zn % 128 + 128 : Nat) : Int)]) ++ groups g (zn / 128) = enc n := by rw [← HE.out, hg, List.append_assoc]; rfl
      have HH := hide (And.intro hE (And.intro hg2 hown1))
      have hq := quo_128 hz64
      clear hown1 hown hb1 hB hE HE hg hg2 hz ez
      go_wp2_with fail
      go_roundw
      case rel => exact ⟨_, g, zn / 128, rfl, HH.out.2.1, Nat.lt_of_le_of_lt (Nat.div_le_self _ _) hz64, HH.out.1, HH.out.2.2, hB1⟩
      case measure => simp [intOf]; omega

/-- The document's AppendString. -/
theorem rappStr_any (v : Value) (l : List Int) (s : ByteArray) (w : World) (hv : Rd w .u8 v l) (hl : l.length ≤ 1000000) (hs : s.size ≤ 100000) :
    Calls Try.prog 16 #[v, .string s] w fun e w' => ∃ v', e = .returned v' ∧ Own w' w.heap.size 5 .u8 v' (l ++ encStr (strInts s)) ∧ Below w.heap.size w w' := by
  go_enter Try.func16, Try.ntmps16
  go_wp2_with fail
  refine (rappInt_any v l s.size w hv (by omega) (by omega)).mono ?_
  rintro e w2 ⟨v2, rfl, ho2, hB⟩
  have hel := enc_len s.size
  go_wp2_with (at_builtin; refine wpList_append_own_str _ rfl _ _ 22 9 rfl w.heap.size 5 bytesE Try.underlying9 _ _ rfl ho2 s rfl ?b1 ?b3 ?_)
  case b1 => rw [List.length_append]; omega
  case b3 => exact hB.size
  intro v' w3 ho3 hb3
  have hB3 := hB.trans hb3
  have HO := hide (show Own w3 w.heap.size 5 .u8 v' (l ++ encStr (strInts s)) by unfold encStr; rw [strInts_len]; exact ho3)
  clear ho3 ho2 hb3 hB
  go_wp2_with fail
  go_ret
  exact ⟨_, rfl, HO.out, hB3⟩

/-- The document's AppendInts. -/
theorem rappInts_any (v u : Value) (l m : List Int) (w : World) (hv : Rd w .u8 v l) (hu : Rd w .i64 u m) (hw : Words m) (hl : l.length ≤ 1000000) (hm : m.length ≤ 100000) :
    Calls Try.prog 14 #[v, u] w fun e w' => ∃ v', e = .returned v' ∧ Own w' w.heap.size 5 .u8 v' (l ++ encInts m) ∧ Below w.heap.size w w' := by
  obtain ⟨A, c, rfl, hc, _, hr⟩ := hu
  have HW := hide hw
  clear hw
  go_enter Try.func14, Try.ntmps14
  go_wp2_with fail
  refine (rappInt_any v l m.length w hv (by omega) (by omega)).mono ?_
  rintro e w2 ⟨v2, rfl, ho2, hB⟩
  have hel := enc_len m.length
  go_wp2_with fail
  go_loopw [5, 14] (fun o i wr => ∃ k : Nat, k ≤ m.length ∧ i = .int .i64 k ∧ Own wr w.heap.size 5 .u8 o (l ++ (enc m.length ++ encs (m.take k))) ∧ Below w.heap.size w wr) (fun _ i _ => m.length - (intOf i).toNat)
  case atStart => exact ⟨0, Nat.zero_le _, rfl, by rw [List.take_zero]; show Own _ _ _ _ _ (l ++ (enc m.length ++ [])); rw [List.append_nil]; exact ho2, hB⟩
  case round =>
    obtain ⟨k, hk, rfl, ho, hb⟩ := hrel
    clear ho2 hB
    by_cases hlt : k < m.length
    · obtain ⟨b, off, rfl, hblk, hcell⟩ := hr (by omega)
      obtain ⟨x, hx⟩ : ∃ x, m[k]? = some x := ⟨_, List.getElem?_eq_getElem hlt⟩
      have c1 : wr.cell? ⟨b, off + k, none⟩ = some (.int .i64 x) := (hb.cell (p := ⟨b, off + k, none⟩) hblk).trans (hcell k x hx)
      have HX := hide (And.intro hx (HW.out x (List.mem_of_getElem? hx)))
      have hsz := encs_len (m.take k)
      have htk : (m.take k).length ≤ k := List.length_take_le _ _
      clear hx hcell hr
      go_wp2_with fail
      refine (rappInt_any _ _ x wr ho.rd HX.out.2 (by rw [List.length_append, List.length_append]; omega)).mono ?_
      rintro e w3 ⟨v3, rfl, ho3, hb3⟩
      have hB3 := hb.trans (hb3.mono hb.size)
      have HO := hide (show Own w3 w.heap.size 5 .u8 v3 (l ++ (enc m.length ++ encs (m.take (k + 1)))) by rw [encs_take m k x HX.out.1, ← List.append_assoc, ← List.append_assoc, List.append_assoc l]; exact ho3.low hb.size)
      clear ho3 ho hb hb3 hsz htk c1
      go_wp2_with fail
      go_roundw
      case rel => exact ⟨k + 1, by omega, by go_num, HO.out, hB3⟩
      case measure => simp [intOf]; omega
    · obtain rfl : k = m.length := by omega
      have HO := hide (show Own wr w.heap.size 5 .u8 u5 (l ++ encInts m) by have := ho; rw [List.take_length] at this; exact this)
      go_wp2_with fail
      go_ret
      exact ⟨_, rfl, HO.out, hb⟩
end Go.Proofs.Ytckpjeheodbfaab

import Derived.Test.YtckpjeheodbfaabRows
import Derived.Test.YtckpjeheodbfaabKit
import Derived.Test.YtckpjeheodbfaabSlice
import Derived.Test.YtckpjeheodbfaabMath
namespace Go.Proofs.Ytckpjeheodbfaab
open Go.RowKit

theorem ret_int {k : IntKind} {a b : Int} (h : a = b) : Ending.returned (.int k a) = .returned (.int k b) := by rw [h]
theorem infoU8 : (Try.prog.info? 5).map (fun i => (i.zero, i.size, i.bytes)) = some (some (.int .u8 0), 1, 1) := by kernel_rfl
theorem infoInt : (Try.prog.info? 3).map (fun i => (i.zero, i.size, i.bytes)) = some (some (.int .i64 0), 1, 8) := by kernel_rfl
theorem bytesE : ElemI Try.prog 22 5 .u8 1 := ⟨Try.underlying22, Try.underlying5, info_parts infoU8⟩
theorem intsE : ElemI Try.prog 23 3 .i64 8 := ⟨Try.underlying23, Try.underlying3, info_parts infoInt⟩

theorem zigzag_any (n : Int) (w : World) (h : -9223372036854775808 ≤ n ∧ n ≤ 9223372036854775807) :
    Calls Try.prog 44 #[.int .i64 n] w fun e w' => e = .returned (.int .u64 (zz n)) ∧ w = w' := by
  have H := hide h
  clear h
  have hsg : IntKind.u64.signed = false := rfl
  by_cases hn : n < 0
  · go_enter Try.func44, Try.ntmps44
    go_wp2
    go_ret
    exact ⟨ret_int (zz_neg H.out hn), rfl⟩
  · go_enter Try.func44, Try.ntmps44
    go_wp2
    go_ret
    exact ⟨ret_int (zz_pos H.out (by omega)), rfl⟩
theorem rzigzag_any (n : Int) (w : World) (h : -9223372036854775808 ≤ n ∧ n ≤ 9223372036854775807) :
    Calls Try.prog 33 #[.int .i64 n] w fun e w' => e = .returned (.int .u64 (zz n)) ∧ w = w' := by
  by_cases hn : n < 0
  · go_enter Try.func33, Try.ntmps33
    go_wp2
    go_ret
    exact ⟨ret_int (by show 2 * -(n + 1) + 1 = _; unfold zz; rw [if_pos hn]; omega), rfl⟩
  · go_enter Try.func33, Try.ntmps33
    go_wp2
    go_ret
    exact ⟨ret_int (by show 2 * n = _; unfold zz; rw [if_neg (by omega)]; omega), rfl⟩

/-- A copy with room for more. -/
theorem grown_any (v : Value) (l : List Int) (m : Int) (w : World) (hv : Rd w .u8 v l) (h0 : 0 ≤ m) (h1 : m ≤ 1000000) (hl : l.length ≤ 1000000) :
    Calls Try.prog 32 #[v, .int .i64 m] w fun e w' => ∃ v', e = .returned v' ∧ Own w' w.heap.size 5 .u8 v' l ∧ Below w.heap.size w w' := by
  obtain ⟨A, c, rfl, hc, hm, hr⟩ := hv
  have hv : Rd w .u8 (.slice A l.length c) l := ⟨A, c, rfl, hc, hm, hr⟩
  clear hr
  have hmk := fun W => run_make0 (P := Try.prog) W 22 5 .u8 1 bytesE (l.length + m) (by omega) (by omega) (by omega)
  go_enter Try.func32, Try.ntmps32
  go_wp2_with (at_builtin; refine wpList_append_rd _ rfl _ _ 22 rfl w.heap.size 5 .u8 1 bytesE _ [] rfl (own_made _ _ _ _ _ ?c1 ?c2) _ l rfl (hv.alloc _) ?b1 ?b2 ?b3 ?_)
  case c1 => unfold maxLen; omega
  case c2 => exact Nat.le_refl _
  case b1 => rw [List.length_nil]; omega
  case b2 => unfold maxLen; rw [List.length_nil]; omega
  case b3 => simp
  intro v' w1 hown _ hb _
  have hB : Below w.heap.size w w1 := ((Below.refl _ _).alloc (Nat.le_refl _) _).trans hb
  clear hb hmk
  go_wp2
  go_ret
  exact ⟨_, rfl, hown, hB⟩

set_option maxRecDepth 100000 in
/-- The encoding of an integer, appended in place. -/
theorem put_any (base : Nat) (v : Value) (l : List Int) (n : Int) (w : World) (hv : Own w base 5 .u8 v l) (hn : -9223372036854775808 ≤ n ∧ n ≤ 9223372036854775807) (hl : l.length ≤ 100000000) (hb : base ≤ w.heap.size) :
    Calls Try.prog 31 #[v, .int .i64 n] w fun e w' => ∃ v', e = .returned v' ∧ Own w' base 5 .u8 v' (l ++ enc n) ∧ Below base w w' := by
  have HN := hide hn
  clear hn
  go_enter Try.func31, Try.ntmps31
  go_wp2_with (go_at_call 44; refine (zigzag_any _ _ HN.out).mono ?_; rintro e w' ⟨rfl, rfl⟩)
  go_loopw [0, 5] (fun b z wr => ∃ (done : List Int) (f zn : Nat), z = .int .u64 zn ∧ InGroups f zn ∧ InWord zn ∧ done ++ groups f zn = enc n ∧ Own wr base 5 .u8 b (l ++ done) ∧ Below base w wr) (fun _ z _ => (intOf z).toNat)
  case atStart => exact ⟨[], 9, zz n, rfl, zz_small HN.out, zz_lt HN.out, rfl, by rw [List.append_nil]; exact hv, Below.refl _ _⟩
  case round =>
    obtain ⟨done, f, zn, rfl, hz, hz64, he, hown, hB⟩ := hrel
    have HE := hide he
    have hdl : done.length ≤ 10 := by have := enc_len n; have := congrArg List.length he; rw [List.length_append] at this; omega
    have hsz := hB.size
    clear he
    by_cases hlt : zn < 128
    · go_wp2_with (at_builtin; refine wpList_append_rd _ rfl _ _ 22 rfl base 5 .u8 1 bytesE _ (l ++ done) rfl (hown.alloc _) _ [_] rfl (rd_one _ _ _) ?b1 ?b2 ?b3 ?_)
      case b1 => rw [List.length_append]; simp only [List.length_cons, List.length_nil]; omega
      case b2 => unfold maxLen; rw [List.length_append]; simp only [List.length_cons, List.length_nil]; omega
      case b3 => rw [World.size_alloc]; omega
      intro v' w1 hown1 _ hb1 _
      have hB1 := (hB.alloc (by omega) _).trans hb1
      have hE : enc n = done ++ [(zn : Int)] := by rw [← HE.out, groups_last hlt]
      have HO := hide (show Own w1 base 5 .u8 v' (l ++ enc n) by rw [hE]; exact hown1)
      clear hown1 hown hb1 hB hE HE
      go_wp2_with fail
      go_ret
      exact ⟨_, rfl, HO.out, hB1⟩
    · go_wp2_with (at_builtin; refine wpList_append_rd _ rfl _ _ 22 rfl base 5 .u8 1 bytesE _ (l ++ done) rfl (hown.alloc _) _ [_] rfl (rd_one _ _ _) ?b1 ?b2 ?b3 ?_)
      case b1 => rw [List.length_append]; simp only [List.length_cons, List.length_nil]; omega
      case b2 => unfold maxLen; rw [List.length_append]; simp only [List.length_cons, List.length_nil]; omega
      case b3 => rw [World.size_alloc]; omega
      intro v' w1 hown1 _ hb1 _
      have hB1 := (hB.alloc (by omega) _).trans hb1
      rw [byte_more2] at hown1
      obtain ⟨g, hg, hg2⟩ := groups_step hz (by omega)
      have hE : (done ++ [((zn % 128 + 128 : Nat) : Int)]) ++ groups g (zn / 128) = enc n := by rw [← HE.out, hg, List.append_assoc]; rfl
      have HH := hide (And.intro hE (And.intro hg2 hown1))
      clear hown1 hown hb1 hB hE HE hg hg2 hz
      go_wp2_with fail
      go_roundw
      case rel => exact ⟨_, g, zn / 128, rfl, HH.out.2.1, Nat.lt_of_le_of_lt (Nat.div_le_self _ _) hz64, HH.out.1, HH.out.2.2, hB1⟩
      case measure => simp [intOf]; omega
end Go.Proofs.Ytckpjeheodbfaab

import Derived.Test.YtcenbpjkndhlgabAwake
import Derived.Test.YtcenbpjkndhlgabRefHash
import Derived.Laws.BitsAllLaws
namespace Go.Proofs.Ytcenbpjkndhlgab
open Go.RowKit Go.Maps

theorem infoU8 : (Try.prog.info? 5).map (fun i => (i.zero, i.size, i.bytes)) = some (some (.int .u8 0), 1, 1) := by kernel_rfl
theorem bytesE : ElemI Try.prog 22 5 .u8 1 := ⟨Try.underlying22, Try.underlying5, info_parts infoU8⟩

/-- Beyond its guards the law only says that the examples hold. -/
theorem lawHash_big (b : Value) (at_ y : Int) (bs : List Int) (w : World) (hb : Rd w .u8 b bs) (h : 3000 < bs.length) :
    Calls Try.prog 4 #[b, .int .i64 at_, .int .u8 y] w (LawDone w) := by
  obtain ⟨A, c, rfl, hc, hm, _⟩ := hb
  have hc9 : c ≤ 9223372036854775807 := by unfold maxLen at hm; omega
  go_enter Try.func4, Try.ntmps4
  go_wp2_with fail
  refine (awake_any w).mono ?_
  rintro en w' ⟨rfl, hB⟩
  go_wp2_with fail
  go_ret
  exact ⟨rfl, hB⟩

theorem lawHash_out (b : Value) (at_ y : Int) (bs : List Int) (w : World) (hb : Rd w .u8 b bs) (hby : Byt bs) (h : bs.length ≤ 3000) (ho : at_ < 0 ∨ bs.length ≤ at_ ∨ y = 0) :
    Calls Try.prog 4 #[b, .int .i64 at_, .int .u8 y] w (LawDone w) := by
  have H1 := hide (hash_any b bs w hb hby)
  have H2 := hide (refHash_any b bs w hb hby)
  have HA := hide (awake_any w)
  obtain ⟨A, c, rfl, hc, hm, _⟩ := hb
  have hc9 : c ≤ 9223372036854775807 := by unfold maxLen at hm; omega
  have tail : ∀ (t1 : (decide (at_ < 0) = true) ∨ (decide (at_ < 0) = false ∧ decide (at_ ≥ (bs.length : Int)) = true) ∨ (decide (at_ < 0) = false ∧ decide (at_ ≥ (bs.length : Int)) = false ∧ (y == 0) = true)),
      Calls Try.prog 4 #[.slice A bs.length c, .int .i64 at_, .int .u8 y] w (LawDone w) := by
    rintro (t1 | ⟨t1, t2⟩ | ⟨t1, t2, t3⟩)
    all_goals
      clear ho
      have HO := trivial
      go_enter Try.func4, Try.ntmps4
      go_wp2_with (first | (go_at_call 10; refine H1.out.mono ?_; rintro en w' ⟨rfl, rfl⟩) | (go_at_call 11; refine H2.out.mono ?_; rintro en w' ⟨rfl, rfl⟩))
      refine HA.out.mono ?_
      rintro en w' ⟨rfl, hB⟩
      go_wp2_with fail
      go_ret
      exact ⟨rfl, hB⟩
  refine tail ?_
  by_cases h1 : at_ < 0
  · exact .inl (decide_eq_true h1)
  · by_cases h2 : (bs.length : Int) ≤ at_
    · exact .inr (.inl ⟨decide_eq_false h1, decide_eq_true h2⟩)
    · refine .inr (.inr ⟨decide_eq_false h1, decide_eq_false h2, ?_⟩)
      rcases ho with h | h | h
      · omega
      · omega
      · simp [h]

theorem xor_byte {x y : Int} (hx : 0 ≤ x ∧ x ≤ 255) (hy : 0 ≤ y ∧ y ≤ 255) (h0 : y ≠ 0) : (0 ≤ bits .xor .u8 x y ∧ bits .xor .u8 x y ≤ 255) ∧ bits .xor .u8 x y ≠ x := by
  have h := u8_xor_nat x.toNat y.toNat (by omega) (by omega)
  rw [Int.toNat_of_nonneg hx.1, Int.toNat_of_nonneg hy.1] at h
  have hlt : x.toNat ^^^ y.toNat < 2 ^ 8 := Nat.xor_lt_two_pow (by omega) (by omega)
  rw [h]
  refine ⟨⟨by omega, by omega⟩, fun e => ?_⟩
  have e1 : x.toNat ^^^ y.toNat = x.toNat ^^^ 0 := by rw [Nat.xor_zero]; omega
  have := xor_left e1
  omega

theorem lawHash_in (b : Value) (k : Nat) (y : Int) (bs : List Int) (w : World) (hb : Rd w .u8 b bs) (hby : Byt bs) (h : bs.length ≤ 3000) (hk : k < bs.length) (hy : 0 ≤ y ∧ y ≤ 255) (h0 : y ≠ 0) :
    Calls Try.prog 4 #[b, .int .i64 k, .int .u8 y] w (LawDone w) := by
  have H1 := hide (hash_any b bs w hb hby)
  have H2 := hide (refHash_any b bs w hb hby)
  have HB := hide hb
  have HBY := hide hby
  obtain ⟨A, c, rfl, hc, hm, _⟩ := hb
  have hc9 : c ≤ 9223372036854775807 := by unfold maxLen at hm; omega
  have i0 : ¬ ((k : Int) < 0) := by omega
  have i1 : ¬ (bs.length ≤ k) := by omega
  have j0 : decide ((k : Int) < 0) = false := decide_eq_false i0
  have j1 : decide (bs.length ≤ k) = false := decide_eq_false i1
  clear i0 i1
  have t0 : (y == 0) = false := by simpa using h0
  have HY := hide (And.intro hy h0)
  clear hby hy h0
  go_enter Try.func4, Try.ntmps4
  obtain ⟨x, hx⟩ : ∃ x, bs[k]? = some x := ⟨_, List.getElem?_eq_getElem hk⟩
  have HX := hide hx
  have i3 : (k : Int) < (bs.length : Int) := by omega
  have hB0 := hide ((Below.refl w.heap.size w).alloc (Nat.le_refl _) (.cells #[] 5))
  clear hx
  go_wp2_with (first | (go_at_call 10; refine H1.out.mono ?_; rintro en w' ⟨rfl, rfl⟩) | (go_at_call 11; refine H2.out.mono ?_; rintro en w' ⟨rfl, rfl⟩) |
    (at_builtin; refine wpList_append_rd _ rfl _ _ 22 rfl w.heap.size 5 .u8 1 bytesE _ [] rfl (ownI_empty w _ _ _ ?b0) _ bs rfl (HB.out.alloc _) ?b1 ?b2 ?b3 ?_))
  case b0 => exact Nat.le_refl _
  case b1 => rw [List.length_nil]; omega
  case b2 => unfold maxLen; rw [List.length_nil]; omega
  case b3 => simp
  intro v' w1 ho _ hb1 _
  have HB1 := hide (hB0.out.trans hb1)
  obtain ⟨g, cap, rfl, hcap, hcm, hg1, hg2⟩ := ho.form (by omega)
  have hcap9 : cap ≤ 9223372036854775807 := by unfold maxLen at hcm; omega
  have cx := ho.cellAt HX.out
  have fx := ho.freeAt k
  have HO := hide ho
  clear ho hb1 H1 H2 HB
  go_wp2_with fail
  have hxb := HBY.out x (List.mem_of_getElem? HX.out)
  obtain ⟨z1, z2⟩ := xor_byte hxb HY.out.1 HY.out.2
  have ho2 := HO.out.set k (bits .xor .u8 x y)
  have hB2 := HB1.out.setCell (p := ⟨g, k, none⟩) hg1 (.int .u8 (bits .xor .u8 x y))
  have hne := fnv_set HBY.out HX.out z1 z2
  have hby2 : Byt (bs.set k (bits .xor .u8 x y)) := by
    intro z hz
    rcases List.mem_or_eq_of_mem_set hz with h | h
    · exact HBY.out z h
    · rw [h]; exact z1
  have hs2 := hB2.size
  generalize w1.setCell ⟨g, k, none⟩ (.int .u8 (bits .xor .u8 x y)) = w2 at *
  refine (awake_any w2).mono ?_
  rintro en w3 ⟨rfl, hB3⟩
  have ho3 := ho2.below' hB3
  have hB := Below.all hB2 hB3
  have HH := hide (hash_any _ _ w3 ho3.rd hby2)
  generalize fnv (bs.set k (bits .xor .u8 x y)) = f2 at *
  have tne : (f2 != fnv bs) = true := by simpa using hne
  clear ho2 ho3 cx fx HO HX HY z1 z2 hne hby2
  go_wp2_with fail
  refine HH.out.mono ?_
  rintro en w4 ⟨rfl, rfl⟩
  go_wp2_with fail
  go_ret
  exact ⟨rfl, hB⟩
end Go.Proofs.Ytcenbpjkndhlgab

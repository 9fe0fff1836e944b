import Derived.Test.YtckpjeheodbfaabRInt
import Derived.Test.YtckpjeheodbfaabLists
import Derived.Test.YtckpjeheodbfaabRApp
namespace Go.Proofs.Ytckpjeheodbfaab
open Go.RowKit

theorem RefAt.below {w w' : World} {g B' : Nat} {B : Nat × Nat} {l : List Int} {e : Int} (h : RefAt w g B l e) (hb : Below B' w w') (hg : g < B') (hB : B.2 ≤ B') : RefAt w' g B l e := by
  obtain ⟨rv, hw, hr, ha, hi⟩ := h
  exact ⟨rv, hw.below hb hg, hr.keep hi hB hb, ha, hi⟩

theorem RefAt.only {w w' : World} {g g' : Nat} {B : Nat × Nat} {l : List Int} {e : Int} (h : RefAt w g B l e) (hg : w.grownBy w' (some g')) (hne : g ≠ g') (hB : g' < B.1 ∨ B.2 ≤ g') : RefAt w' g B l e := by
  obtain ⟨rv, hw, hr, ha, hi⟩ := h
  exact ⟨rv, hw.grown hg (by simpa using hne), hr.only (hi.apart hB) hg, ha, hi⟩

/-- The document's NewReader. -/
theorem rnew_any (v : Value) (l : List Int) (w : World) (hv : Rd w .u8 v l) (hl : l.length ≤ 1000000) :
    Calls Try.prog 18 #[v] w fun en w' => ∃ g, en = .returned (.pointer (some ⟨g, 0, none⟩)) ∧ RefAt w' g (w.heap.size, g) l 0 ∧ Below w.heap.size w w' ∧ w.heap.size ≤ g := by
  go_enter Try.func18, Try.ntmps18
  go_wp2_with (at_builtin; refine wpList_append_rd _ rfl _ _ 22 rfl w.heap.size 5 .u8 1 bytesE _ [] rfl (own_empty w _ _ _ ?c2) _ l rfl (hv.alloc _) ?b1 ?b2 ?b3 ?_)
  case c2 => exact Nat.le_refl _
  case b1 => rw [List.length_nil]; omega
  case b2 => unfold maxLen; rw [List.length_nil]; omega
  case b3 => simp
  intro v1 w1 ho1 _ hb1 _
  have hB1 : Below w.heap.size w w1 := ((Below.refl _ _).alloc (Nat.le_refl _) _).trans hb1
  obtain ⟨A, c, e1, hr⟩ := ho1.rd
  subst e1
  have HO := hide (show Own w1 w.heap.size 5 .u8 (.slice A l.length c) l from ho1)
  clear hr ho1 hb1
  go_wp2_with fail
  go_ret
  exact ⟨_, rfl, ⟨_, (Whole.new w1 _ _), HO.out.rd.alloc _, Apart.fresh HO.out (Nat.le_refl _), InB.of_own HO.out (Nat.le_refl _) (Nat.le_refl _)⟩, hB1.alloc hB1.size _, hB1.size⟩

theorem rerr_any (g : Nat) (B : Nat × Nat) (l : List Int) (e : Int) (w : World) (h : RefAt w g B l e) :
    Calls Try.prog 27 #[.pointer (some ⟨g, 0, none⟩)] w fun en w' => en = .returned (.int .i64 e) ∧ w = w' := by
  obtain ⟨rv, hw, _⟩ := h
  have c0 := hw.cell 0
  have c2 := hw.cell 2
  clear hw
  go_enter Try.func27, Try.ntmps27
  go_wp2_with fail
  go_ret
  exact ⟨rfl, rfl⟩
/-- After an error nothing is left. -/
theorem rlength_any (g : Nat) (B : Nat × Nat) (l : List Int) (e : Int) (w : World) (h : RefAt w g B l e) (he : e ≠ 0 → l = []) :
    Calls Try.prog 29 #[.pointer (some ⟨g, 0, none⟩)] w fun en w' => en = .returned (.int .i64 l.length) ∧ w = w' := by
  by_cases h0 : e = 0
  · subst h0
    have HB := hide (bad_no g B l w h)
    obtain ⟨rv, hw, ⟨A, c, rfl, _, _, _⟩, _⟩ := h
    have c1 := hw.cell 1
    clear hw he
    go_enter Try.func29, Try.ntmps29
    go_wp2_with (go_at_call 36; refine HB.out.mono ?_; rintro en w' ⟨rfl, rfl⟩)
    go_ret
    exact ⟨rfl, rfl⟩
  · have HB := hide (bad_yes g B l e w h h0)
    obtain rfl := he h0
    clear h he h0
    go_enter Try.func29, Try.ntmps29
    go_wp2_with (go_at_call 36; refine HB.out.mono ?_; rintro en w' ⟨rfl, rfl⟩)
    go_ret
    exact ⟨rfl, rfl⟩

set_option maxRecDepth 100000 in
/-- The document's Ints. -/
theorem rints_any (g : Nat) (B : Nat × Nat) (l : List Int) (e : Int) (w : World) (h : RefAt w g B l e) (hl : Bytes l) (hn : l.length ≤ 1000000) (hB : B.2 ≤ w.heap.size) :
    Calls Try.prog 23 #[.pointer (some ⟨g, 0, none⟩)] w fun en w' => ∃ v', en = .returned v' ∧ Rd w' .i64 v' (rLi l e).1 ∧ (∀ g', g' < w.heap.size → Apart v' g') ∧ RefAt w' g B (rLi l e).2.1 (rLi l e).2.2 ∧ w.grownBy w' (some g) := by
  have hgl : g < w.heap.size := by obtain ⟨_, hw, _⟩ := h; exact hw.lt
  have HL := hide (rlen_any g B l e w h hl)
  have hlb := hide (rL_bytes (e := e) hl)
  have hll := rL_len l e
  have hdef : Hid (rLi l e = if (rL l e).2.1 = false then ([], (rL l e).2.2.1, (rL l e).2.2.2)
    else ((rN (rL l e).1.toNat (rL l e).2.2.1 (rL l e).2.2.2).1.getD [], (rN (rL l e).1.toNat (rL l e).2.2.1 (rL l e).2.2.2).2)) := rfl
  have hok := hide (rL_ok (l := l) (e := e))
  have hno := hide (rL_none (l := l) (e := e))
  clear h
  generalize rL l e = q at HL hlb hll hdef hok hno
  obtain ⟨n, ok, l1, e1⟩ := q
  dsimp only at HL hlb hll hdef hok hno
  obtain ⟨k, hnk, hk, HD⟩ : ∃ k : Nat, n = k ∧ k ≤ l1.length ∧ Hid (rLi l e = ((rN k l1 e1).1.getD [], (rN k l1 e1).2)) := by
    cases ok with
    | false => exact ⟨0, hno.out rfl, Nat.zero_le _, by rw [hdef.out, if_pos rfl]; exact rfl⟩
    | true =>
      obtain ⟨h0, h1, rfl⟩ := hok.out rfl
      exact ⟨n.toNat, by omega, by omega, by rw [hdef.out, if_neg (by simp)]; exact rfl⟩
  subst hnk
  clear hok hno hdef
  go_enter Try.func23, Try.ntmps23
  go_wp2_with fail
  refine HL.out.mono ?_
  rintro en w1 ⟨rfl, hR, hg⟩
  have HR := hide hR
  clear hR
  go_wp2_with fail
  go_loopw [3, 5] (fun o i wr => ∃ (j : Nat) (m l2 : List Int) (e2 : Int), j ≤ k ∧ i = .int .i64 j ∧ Own wr w.heap.size 3 .i64 o m ∧ m.length = j ∧ Bytes l2 ∧ RefAt wr g B l2 e2 ∧ w.grownBy wr (some g) ∧ rN k l1 e1 = ahead m (rN (k - j) l2 e2)) (fun _ i _ => k - (intOf i).toNat)
  case atStart => exact ⟨0, [], l1, e1, Nat.zero_le _, rfl, Own.nil, rfl, hlb.out, HR.out, hg, (ahead_nil _).symm⟩
  case round =>
    clear HR hg
    obtain ⟨j, m, l2, e2, hj, rfl, ho, hm, hl2, hR, hg, hrel⟩ := hrel
    have HREL := hide hrel
    have HR := hide hR
    have hsz := hg.size
    have HM := hide hm
    clear hrel hR hm
    by_cases hlt : j < k
    · have HC := hide (rint_any g B l2 e2 wr HR.out hl2)
      have hiff := hide (rI_iff l2 e2)
      have hstep := hide (show (rI l2 e2).2.1 = true → rN k l1 e1 = ahead (m ++ [(rI l2 e2).1]) (rN (k - (j + 1)) (rI l2 e2).2.2.1 (rI l2 e2).2.2.2) from fun hok => by
          rw [HREL.out, show k - j = (k - (j + 1)) + 1 by omega, rN_go hok])
      have hfall := hide (show (rI l2 e2).2.1 = false → rN k l1 e1 = (none, (rI l2 e2).2.2.1, (rI l2 e2).2.2.2) from fun hok => by
          rw [HREL.out, show k - j = (k - j - 1) + 1 by omega, rN_fail hok]; rfl)
      have hB1 := hide (rI_bytes (e := e2) hl2)
      generalize rI l2 e2 = q at HC hiff hB1 hstep hfall
      obtain ⟨x, ok2, l3, e3⟩ := q
      dsimp only at HC hiff hB1 hstep hfall
      clear HREL
      go_wp2_with fail
      refine HC.out.mono ?_
      rintro en w2 ⟨rfl, hr1, hg1⟩
      have HR1 := hide hr1
      have ho1 : Own w2 w.heap.size 3 .i64 u3 m := ho.keep hg1 (by
        cases hv : u3.ownBlock with
        | none => exact .inl rfl
        | some b => exact .inr (by have := (ho.size b hv).1; simp; omega))
      have hgw := only_trans hg hg1
      have hs1 := hgw.size
      clear hr1 ho hg hg1 hsz
      go_wp2_with (at_builtin; refine wpList_append_rd _ rfl _ _ 23 rfl w.heap.size 3 .i64 8 intsE _ m rfl (ho1.alloc _) _ [_] rfl (rd_one _ _ _) ?b1 ?b2 ?b3 ?_)
      case b1 => have := HM.out; simp only [List.length_cons, List.length_nil]; omega
      case b2 => have := HM.out; unfold maxLen; simp only [List.length_cons, List.length_nil]; omega
      case b3 => rw [World.size_alloc]; omega
      intro v' w3 ho2 _ hb2 _
      have hb3 := ((Below.refl w.heap.size w2).alloc hs1 _).trans hb2
      have HO := hide (And.intro ho2 (And.intro (HR1.out.below hb3 hgl hB) (only_low hgw hb3)))
      clear ho2 hb2 hb3 ho1 hgw
      by_cases he3 : e3 = 0
      · subst he3
        have hok2 := hiff.out.2 rfl
        have HN := hide (hstep.out hok2)
        clear hiff hstep hfall hok2
        go_wp2_with (go_at_call 36; refine (bad_no g B l3 _ HO.out.2.1).mono ?_; rintro en w' ⟨rfl, rfl⟩)
        go_roundw
        case rel => exact ⟨j + 1, m ++ [x], l3, 0, by omega, by go_num, HO.out.1, by rw [List.length_append, HM.out]; rfl, hB1.out, HO.out.2.1, HO.out.2.2, HN.out⟩
        case measure => simp [intOf]; omega
      · have hok2 : ok2 = false := by
          cases ok2
          · rfl
          · exact absurd (hiff.out.1 rfl) he3
        have HF := hide (hfall.out hok2)
        have HE3 := hide he3
        clear hiff hstep hfall hok2 he3
        go_wp2_with (go_at_call 36; refine (bad_yes g B l3 e3 _ HO.out.2.1 HE3.out).mono ?_; rintro en w' ⟨rfl, rfl⟩)
        go_ret
        rw [HD.out, HF.out]
        exact ⟨_, rfl, Rd.nil, fun _ _ => Apart.nil, HO.out.2.1, HO.out.2.2⟩
    · obtain rfl : j = k := by omega
      have hF : rN j l1 e1 = (some m, l2, e2) := by
        rw [HREL.out, Nat.sub_self]
        show ahead m (some [], l2, e2) = _
        unfold ahead; simp
      have HF := hide hF
      clear hF
      go_wp2_with fail
      go_ret
      rw [HD.out, HF.out]
      exact ⟨_, rfl, ho.rd, fun _ hg' => Apart.of_own ho hg', HR.out, hg⟩
end Go.Proofs.Ytckpjeheodbfaab

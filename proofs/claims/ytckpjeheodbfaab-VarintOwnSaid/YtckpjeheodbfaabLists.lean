import Derived.Test.YtckpjeheodbfaabRdr
import Derived.Laws.BytesArg
namespace Go.Proofs.Ytckpjeheodbfaab
open Go.RowKit

theorem RdrAt.below {w w' : World} {g B' : Nat} {B : Nat × Nat} {l : List Int} {e : Int} (h : RdrAt w g B l e) (hb : Below B' w w') (hg : g < B') (hB : B.2 ≤ B') : RdrAt w' g B l e := by
  obtain ⟨rv, hw, hr, ha, hi⟩ := h
  exact ⟨rv, hw.below hb hg, hr.keep hi hB hb, ha, hi⟩

theorem RdrAt.only {w w' : World} {g g' : Nat} {B : Nat × Nat} {l : List Int} {e : Int} (h : RdrAt w g B l e) (hg : w.grownBy w' (some g')) (hne : g ≠ g') (hB : g' < B.1 ∨ B.2 ≤ g') : RdrAt w' g B l e := by
  obtain ⟨rv, hw, hr, ha, hi⟩ := h
  exact ⟨rv, hw.grown hg (by simpa using hne), hr.only (hi.apart hB) hg, ha, hi⟩

set_option maxRecDepth 100000 in
/-- Reading n integers by the method value. -/
theorem readList_any (g n : Nat) (B : Nat × Nat) (l : List Int) (e : Int) (w : World) (h : RdrAt w g B l e) (hl : Bytes l) (hn : n ≤ 1000000) (hB : B.2 ≤ w.heap.size) :
    Calls Try.prog 41 #[.int .i64 n, .func (.func 35) #[.pointer (some ⟨g, 0, none⟩)] #[]] w fun en w' => ∃ v', en = .returned v' ∧ Rd w' .i64 v' ((rN n l e).1.getD []) ∧ (∀ g', g' < w.heap.size → Apart v' g') ∧ RdrAt w' g B (rN n l e).2.1 (rN n l e).2.2 ∧ w.grownBy w' (some g) := by
  have hgl : g < w.heap.size := by obtain ⟨_, hw, _⟩ := h; exact hw.lt
  have hmk := fun W => run_make0 (P := Try.prog) W 23 3 .i64 8 intsE n (by omega) (by omega) (by omega)
  go_enter Try.func41, Try.ntmps41
  go_wp2_with fail
  go_loopw [5, 11] (fun o i wr => ∃ (k : Nat) (m l1 : List Int) (e1 : Int), k ≤ n ∧ i = .int .i64 k ∧ Own wr w.heap.size 3 .i64 o m ∧ m.length = k ∧ Bytes l1 ∧ RdrAt wr g B l1 e1 ∧ w.grownBy wr (some g) ∧ rN n l e = ahead m (rN (n - k) l1 e1)) (fun _ i _ => n - (intOf i).toNat)
  case atStart => exact ⟨0, [], l, e, Nat.zero_le _, rfl, own_made _ _ _ _ _ (by unfold maxLen; omega) (Nat.le_refl _), rfl, hl, h.below ((Below.refl w.heap.size w).alloc (Nat.le_refl _) _) hgl hB, only_below (only_refl w g) ((Below.refl _ _).alloc (Nat.le_refl _) _), (ahead_nil _).symm⟩
  case round =>
    clear hmk
    obtain ⟨k, m, l1, e1, hk, rfl, ho, hm, hl1, hR, hg, hrel⟩ := hrel
    have HREL := hide hrel
    have HR := hide hR
    have hsz := hg.size
    have HM := hide hm
    clear hrel hR hm
    by_cases hlt : k < n
    · cases hok : (rI l1 e1).2.1 with
      | false =>
        have HC := hide (show Calls Try.prog 35 #[.pointer (some ⟨g, 0, none⟩)] wr fun en w' => en = .returned (.tuple #[.int .i64 (rI l1 e1).1, .bool false]) ∧ RdrAt w' g B (rI l1 e1).2.2.1 (rI l1 e1).2.2.2 ∧ wr.grownBy w' (some g) by rw [← hok]; exact readInt_any g B l1 e1 wr HR.out hl1)
        have hF : rN n l e = (none, (rI l1 e1).2.2.1, (rI l1 e1).2.2.2) := by
          rw [HREL.out, show n - k = (n - k - 1) + 1 by omega, rN_fail hok]; rfl
        have HF := hide hF
        clear hok hF
        go_wp2_with fail
        refine HC.out.mono ?_
        rintro en w1 ⟨rfl, hr1, hg1⟩
        have HR1 := hide hr1
        clear hr1
        go_wp2_with fail
        go_ret
        rw [HF.out]
        exact ⟨_, rfl, Rd.nil, fun _ _ => Apart.nil, HR1.out, only_trans hg hg1⟩
      | true =>
        have HC := hide (show Calls Try.prog 35 #[.pointer (some ⟨g, 0, none⟩)] wr fun en w' => en = .returned (.tuple #[.int .i64 (rI l1 e1).1, .bool true]) ∧ RdrAt w' g B (rI l1 e1).2.2.1 (rI l1 e1).2.2.2 ∧ wr.grownBy w' (some g) by rw [← hok]; exact readInt_any g B l1 e1 wr HR.out hl1)
        have HN := hide (show rN n l e = ahead (m ++ [(rI l1 e1).1]) (rN (n - (k + 1)) (rI l1 e1).2.2.1 (rI l1 e1).2.2.2) by
          rw [HREL.out, show n - k = (n - (k + 1)) + 1 by omega, rN_go hok])
        have hB1 := hide (rI_bytes (e := e1) hl1)
        generalize rI l1 e1 = q at HC HN hB1
        obtain ⟨x, ok, l2, e2⟩ := q
        dsimp only at HC HN hB1
        clear hok HREL
        go_wp2_with fail
        refine HC.out.mono ?_
        rintro en w1 ⟨rfl, hr1, hg1⟩
        have HR1 := hide hr1
        have ho1 : Own w1 w.heap.size 3 .i64 u5 m := ho.keep hg1 (by
          cases hv : u5.ownBlock with
          | none => exact .inl rfl
          | some b => exact .inr (by have := (ho.size b hv).1; simp; omega))
        have hgw := only_trans hg hg1
        have hs1 := hgw.size
        clear hr1 ho hg hg1 hsz
        go_wp2_with (at_builtin; refine wpList_append_rd _ rfl _ _ 23 rfl w.heap.size 3 .i64 8 intsE _ m rfl (ho1.alloc _) _ [_] rfl (rd_one _ _ _) ?b1 ?b2 ?b3 ?_)
        case b1 => have := HM.out; simp only [List.length_cons, List.length_nil]; omega
        case b2 => have := HM.out; unfold maxLen; simp only [List.length_cons, List.length_nil]; omega
        case b3 => rw [World.size_alloc]; omega
        intro v' w2 ho2 _ hb2 _
        have hb3 := ((Below.refl w.heap.size w1).alloc hs1 _).trans hb2
        have HO := hide (And.intro ho2 (And.intro (HR1.out.below hb3 hgl hB) (only_low hgw hb3)))
        clear ho2 hb2 hb3 ho1 hgw
        go_wp2_with fail
        go_roundw
        case rel => exact ⟨k + 1, m ++ [x], l2, e2, by omega, by go_num, HO.out.1, by rw [List.length_append, HM.out]; rfl, hB1.out, HO.out.2.1, HO.out.2.2, HN.out⟩
        case measure => simp [intOf]; omega
    · obtain rfl : k = n := by omega
      have hF : rN k l e = (some m, l1, e1) := by
        rw [HREL.out, Nat.sub_self]
        show ahead m (some [], l1, e1) = _
        unfold ahead; simp
      have HF := hide hF
      clear hF
      go_wp2_with fail
      go_ret
      rw [HF.out]
      exact ⟨_, rfl, ho.rd, fun _ hg' => Apart.of_own ho hg', HR.out, hg⟩

/-- Ints. -/
theorem ints_any (g : Nat) (B : Nat × Nat) (l : List Int) (e : Int) (w : World) (h : RdrAt w g B l e) (hl : Bytes l) (hn : l.length ≤ 1000000) (hB : B.2 ≤ w.heap.size) :
    Calls Try.prog 22 #[.pointer (some ⟨g, 0, none⟩)] w fun en w' => ∃ v', en = .returned v' ∧ Rd w' .i64 v' (rLi l e).1 ∧ (∀ g', g' < w.heap.size → Apart v' g') ∧ RdrAt w' g B (rLi l e).2.1 (rLi l e).2.2 ∧ w.grownBy w' (some g) := by
  have HV := hide (valid_yes g B l e w h)
  have HL := hide (readLen_any g B l e w h hl)
  have hlb := hide (rL_bytes (e := e) hl)
  have hll := rL_len l e
  have hdef : Hid (rLi l e = if (rL l e).2.1 = false then ([], (rL l e).2.2.1, (rL l e).2.2.2)
    else ((rN (rL l e).1.toNat (rL l e).2.2.1 (rL l e).2.2.2).1.getD [], (rN (rL l e).1.toNat (rL l e).2.2.1 (rL l e).2.2.2).2)) := rfl
  have hok := hide (rL_ok (l := l) (e := e))
  clear h
  generalize rL l e = q at HL hlb hll hdef hok
  obtain ⟨n, ok, l1, e1⟩ := q
  dsimp only at HL hlb hll hdef hok
  cases ok with
  | false =>
    have HD := hide (show rLi l e = ([], l1, e1) by rw [hdef.out, if_pos rfl])
    clear hok hdef
    go_enter Try.func22, Try.ntmps22
    go_wp2_with (first | (go_at_call 34; refine HV.out.mono ?_; rintro en w' ⟨rfl, rfl⟩) | (go_at_call 40; refine HL.out.mono ?_; rintro en w' ⟨rfl, hr, hg⟩; have HR := hide hr; clear hr))
    go_ret
    rw [HD.out]
    exact ⟨_, rfl, Rd.nil, fun _ _ => Apart.nil, HR.out, hg⟩
  | true =>
    obtain ⟨h0, h1, rfl⟩ := hok.out rfl
    obtain ⟨k, rfl⟩ : ∃ k : Nat, n = k := ⟨n.toNat, by omega⟩
    have HD := hide (show rLi l e = ((rN k l1 0).1.getD [], (rN k l1 0).2) by rw [hdef.out, if_neg (by simp)]; rfl)
    clear hok hdef
    go_enter Try.func22, Try.ntmps22
    go_wp2_with (first | (go_at_call 34; refine HV.out.mono ?_; rintro en w' ⟨rfl, rfl⟩) | (go_at_call 40; refine HL.out.mono ?_; rintro en w' ⟨rfl, hr, hg⟩; have HR := hide hr; clear hr))
    refine (readList_any g k B l1 0 _ HR.out hlb.out (by omega) (Nat.le_trans hB hg.size)).mono ?_
    rintro en w2 ⟨v2, rfl, hr2, ha2, hR2, hg2⟩
    have ha2' : ∀ g', g' < w.heap.size → Apart v2 g' := fun g' h => ha2 g' (Nat.lt_of_lt_of_le h hg.size)
    have HO := hide (And.intro hr2 (And.intro ha2' (And.intro hR2 (only_trans hg hg2))))
    clear hr2 ha2 ha2' hR2 hg2 hg
    go_wp2_with fail
    go_ret
    rw [HD.out]
    exact ⟨_, rfl, HO.out.1, HO.out.2.1, HO.out.2.2.1, HO.out.2.2.2⟩

/-- A string of numbers, read back. -/
theorem strInts_of (l : List Int) (h : Bytes l) : strInts (strOfNums l) = l := by
  unfold strInts
  rw [strOfNums_data, List.map_map]
  conv => rhs; rw [← List.map_id l]
  refine List.map_congr_left fun x hx => ?_
  have := h x hx
  show ((UInt8.ofNat x.toNat).toNat : Int) = x
  rw [UInt8.toNat_ofNat']
  omega
theorem take_nil (g c : Nat) (w : World) (_hc9 : c ≤ 9223372036854775807) (c0 : w.cell? ⟨g, 0, none⟩ = some (.slice none 0 c)) (f0 : w.frozen? ⟨g, 0, none⟩ = false) :
    Calls Try.prog 43 #[.pointer (some ⟨g, 0, none⟩), .int .i64 0] w fun en w' => en = .returned (.slice none 0 c) ∧ w.setCell ⟨g, 0, none⟩ (.slice none 0 c) = w' := by
  go_enter Try.func43, Try.ntmps43
  go_wp2_with fail
  go_ret
  exact ⟨rfl, rfl⟩

/-- Taking bytes off a reader, and the string that they make. -/
theorem take_rdr (g k : Nat) (B : Nat × Nat) (l : List Int) (w : World) (h : RdrAt w g B l 0) (hl : Bytes l) (hk : k ≤ l.length) :
    Calls Try.prog 43 #[.pointer (some ⟨g, 0, none⟩), .int .i64 k] w fun en w' => ∃ A c, en = .returned (.slice A k c) ∧
      (∃ s, strInts s = l.take k ∧ (convert 22 9 (.slice A k c)).run Try.prog w' = .ok (.string s) w') ∧ RdrAt w' g B (l.drop k) 0 ∧ w.grownBy w' (some g) := by
  obtain ⟨rv, hw, hr, ha, hi⟩ := h
  obtain ⟨A, c, rfl, hc, hm, hcell⟩ := id hr
  have hc9 : c ≤ 9223372036854775807 := by unfold maxLen at hm; omega
  have c0 := hw.cell 0
  have f0 := hw.free 0
  rcases A with _ | ad
  · have hl0 : l.length = 0 := by
      rcases Nat.eq_zero_or_pos l.length with h | h
      · exact h
      · obtain ⟨_, _, e, _⟩ := hcell h; cases e
    obtain rfl : l = [] := List.eq_nil_of_length_eq_zero hl0
    obtain rfl : k = 0 := by simpa using hk
    refine (take_nil g c w hc9 c0 f0).mono ?_
    rintro en w' ⟨rfl, rfl⟩
    have hap : Apart (.slice none 0 c) g := by
      rintro a n c e
      cases e
    have hin : InB (.slice none 0 c) B := by
      rintro a n c e
      cases e
    exact ⟨none, c, rfl, ⟨_, rfl, run_convert_bytes_nil _ 22 5 Try.underlying22 Try.underlying5 0 c _ Try.underlying9⟩, ⟨_, hw.set 0 _, ⟨none, c, rfl, Nat.zero_le _, hm, fun hn => absurd hn (by simp)⟩, hap, hin⟩, only_set (only_refl _ _) _ _⟩
  · obtain ⟨b, off, rfl, hbB⟩ := hi _ _ _ rfl
    have hne : b ≠ g := ha _ _ _ rfl
    refine (take_any g b off _ c k w hk hc hc9 c0 f0).mono ?_
    rintro en w' ⟨rfl, A', hA', rfl⟩
    have hg1 := only_set (only_refl w g) 0 (.slice A' (l.length - k) (c - k))
    have hr1 := hr.only ha hg1
    refine ⟨_, c, rfl, ⟨strOfNums (l.take k), strInts_of _ (hl.take k), ?_⟩, ⟨_, hw.set 0 _, hr1.back hk A' (by rcases hA' with h | ⟨_, h⟩; exact .inl h; exact .inr h), ?_, ?_⟩, hg1⟩
    · obtain ⟨A2, c2, e2, _, _, hcell2⟩ := hr1.front hk
      injection e2 with e2 e3 e4
      subst e2
      refine run_convert_bytes_arg (P := Try.prog) _ 22 5 Try.underlying22 Try.underlying5 b off k c (l.take k) e3.symm ?_ _ Try.underlying9
      intro i hik
      obtain ⟨b', off', e', _, hx⟩ := hcell2 (by omega)
      injection e' with e'
      injection e' with e1 e2
      subst e1 e2
      have hlt : i < (l.take k).length := by omega
      rw [hx i _ (List.getElem?_eq_getElem hlt)]
      simp [List.getD, List.getElem?_eq_getElem hlt]
    · rintro a n' c' e
      injection e with e _ _
      rcases hA' with h | ⟨h, _⟩ <;> rw [h] at e <;> injection e with e <;> subst e <;> exact hne
    · rintro a n' c' e
      injection e with e _ _
      rcases hA' with h | ⟨h, _⟩ <;> rw [h] at e <;> injection e with e <;> subst e <;> exact ⟨_, _, rfl, hbB⟩

/-- String. -/
theorem str_any (g : Nat) (B : Nat × Nat) (l : List Int) (e : Int) (w : World) (h : RdrAt w g B l e) (hl : Bytes l) :
    Calls Try.prog 24 #[.pointer (some ⟨g, 0, none⟩)] w fun en w' => ∃ s, en = .returned (.string s) ∧ strInts s = (rS l e).1 ∧ RdrAt w' g B (rS l e).2.1 (rS l e).2.2 ∧ w.grownBy w' (some g) := by
  have HV := hide (valid_yes g B l e w h)
  have HL := hide (readLen_any g B l e w h hl)
  have hlb := hide (rL_bytes (e := e) hl)
  have hdef : Hid (rS l e = if (rL l e).2.1 = false then ([], (rL l e).2.2.1, (rL l e).2.2.2)
    else ((rL l e).2.2.1.take (rL l e).1.toNat, (rL l e).2.2.1.drop (rL l e).1.toNat, 0)) := rfl
  have hok := hide (rL_ok (l := l) (e := e))
  clear h
  generalize rL l e = q at HL hlb hdef hok
  obtain ⟨n, ok, l1, e1⟩ := q
  dsimp only at HL hlb hdef hok
  cases ok with
  | false =>
    have HD := hide (show rS l e = ([], l1, e1) by rw [hdef.out, if_pos rfl])
    clear hok hdef
    go_enter Try.func24, Try.ntmps24
    go_wp2_with (first | (go_at_call 34; refine HV.out.mono ?_; rintro en w' ⟨rfl, rfl⟩) | (go_at_call 40; refine HL.out.mono ?_; rintro en w' ⟨rfl, hr, hg⟩; have HR := hide hr; clear hr))
    go_ret
    rw [HD.out]
    exact ⟨_, rfl, rfl, HR.out, hg⟩
  | true =>
    obtain ⟨h0, h1, rfl⟩ := hok.out rfl
    obtain ⟨k, rfl⟩ : ∃ k : Nat, n = k := ⟨n.toNat, by omega⟩
    have HD := hide (show rS l e = (l1.take k, l1.drop k, 0) by rw [hdef.out, if_neg (by simp)]; rfl)
    clear hok hdef
    go_enter Try.func24, Try.ntmps24
    go_wp2_with (first | (go_at_call 34; refine HV.out.mono ?_; rintro en w' ⟨rfl, rfl⟩) | (go_at_call 40; refine HL.out.mono ?_; rintro en w' ⟨rfl, hr, hg⟩; have HR := hide hr; clear hr))
    refine (take_rdr g k B l1 _ HR.out hlb.out (by omega)).mono ?_
    rintro en w2 ⟨A, c, rfl, ⟨s, hs, hrun⟩, hR2, hg2⟩
    have HO := hide (And.intro hs (And.intro hR2 (only_trans hg hg2)))
    clear hs hR2 hg2 hg
    go_wp2_with fail
    go_ret
    rw [HD.out]
    exact ⟨s, rfl, HO.out.1, HO.out.2.1, HO.out.2.2⟩
end Go.Proofs.Ytckpjeheodbfaab

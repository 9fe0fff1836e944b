/-
  slices.Compact on a row of integers of the call's own (the text of layer 6, for this seat).
-/
import Derived.Test.YtnhaanjpcnnifaaDoorExJ
import Derived.Test.YtnhaanjpcnnifaaDoorSlice
import Derived.Test.YtnhaanjpcnnifaaDoorBlock
import Derived.Test.YtnhaanjpcnnifaaDoorVals
import Derived.Lib.SliceRun
import Derived.Deep.LoopGhost
namespace Go.Proofs.YtnhaanjpcnnifaaDoor
open Go.RowKit

theorem ddTo_take (l : List Int) : ∀ k, k ≤ l.length → (∀ i, i < k → keepAt l i = true) → ddTo l k = l.take k
  | 0, _, _ => by simp [ddTo]
  | k + 1, hk, h => by
    rw [ddTo_succ, ddTo_take l k (by omega) (fun i hi => h i (by omega)), if_pos (h k (by omega)), List.take_add_one, List.getD_eq_getElem?_getD, List.getElem?_eq_getElem (by omega)]
    rfl

section
variable {w w' : World} {base g n cap : Nat} {e : TypeId} {k : IntKind} {l : List Int}
theorem Own.cut (h : Own w base e k (.slice (some ⟨g, 0, none⟩) n cap) l) {q : Nat} (hq : q ≤ l.length) : Own w base e k (.slice (some ⟨g, 0, none⟩) q cap) (l.take q) := by
  obtain ⟨hlen, h⟩ := h
  rcases h with ⟨h, _⟩ | ⟨g', cap', cur, hv, hb, hcur, hn, hm, hs, ht⟩
  · cases h
  · simp only [Nat.mul_one] at hv hn ht
    injection hv with e1 e2 e3
    injection e1 with e1
    injection e1 with e1
    subst e1 e3
    have el : (l.take q).length = q := by rw [List.length_take]; omega
    refine ⟨by simp, .inr ⟨g, cap, cur, by rw [el], hb, hcur, by rw [el]; omega, hm, hs, ?_⟩⟩
    have := congrArg (List.take q) ht
    rw [List.take_take, Nat.min_eq_left hq] at this
    rw [el, Nat.mul_one, this, List.map_take]
theorem Own.wipe : ∀ (r o : Nat) (w : World) (l : List Int), Own w base e k (.slice (some ⟨g, 0, none⟩) l.length cap) l → ∃ m, m.length = l.length ∧ m.take o = l.take o ∧ Own (w.setCells g o (List.replicate r (.int k 0))) base e k (.slice (some ⟨g, 0, none⟩) m.length cap) m ∧ Frm w (w.setCells g o (List.replicate r (.int k 0))) [g]
  | 0, o, w, l, h => ⟨l, rfl, rfl, h, Frm.refl _ _⟩
  | r + 1, o, w, l, h => by
    have h1 := h.set o 0
    rw [show l.length = (l.set o 0).length by rw [List.length_set]] at h1
    obtain ⟨m, h2, h3, h4, h5⟩ := Own.wipe r (o + 1) _ _ h1
    refine ⟨m, by rw [h2, List.length_set], ?_, h4, ((Frm.refl w [g]).setCell ⟨g, o, none⟩ _ (.inl (by simp))).trans h5⟩
    have := congrArg (List.take o) h3
    rw [List.take_take, List.take_take, Nat.min_eq_left (by omega), List.take_set_of_le (Nat.le_refl _)] at this
    exact this
end
theorem zeroInt (w : World) : (zeroValue 3).run Tryd.prog w = .ok (.int .i64 0) w := by kernel_rfl

set_option maxRecDepth 100000 in
set_option maxHeartbeats 4000000 in
theorem compact_own (w : World) (base : Nat) (v : Value) (l : List Int) (h : Own w base 3 .i64 v l) :
    Calls Tryd.prog 33 #[v] w fun en w' => ∃ u, en = .returned u ∧ Own w' base 3 .i64 u (dd l) ∧ Frm w w' v.ownBlock.toList ∧ u.ownBlock = v.ownBlock := by
  by_cases h2 : l.length < 2
  · obtain ⟨A, c, rfl, hc, hm, -⟩ := h.rd
    have h2' : (l.length : Int) < 2 := by omega
    have HO := hide h
    clear h
    go_enter Tryd.func33, Tryd.ntmps33
    go_wp2_with fail
    go_ret
    have e : dd l = l := by
      unfold dd
      rw [ddTo_take l _ (Nat.le_refl _) (fun i hi => decide_eq_true (.inl (by omega))), List.take_length]
    exact ⟨_, rfl, by rw [e]; exact HO.out, Frm.refl _ _, rfl⟩
  · obtain ⟨g, c, e0, hc, hm, hb1, hb2⟩ := h.form (by omega)
    subst e0
    have hc9 : c ≤ 9223372036854775807 := by unfold maxLen at hm; omega
    have h2' : ¬ ((l.length : Int) < 2) := by omega
    have HO := hide h
    clear h hm
    go_enter Tryd.func33, Tryd.ntmps33
    go_wp2_with fail
    go_loopw [3] (fun z wr => ∃ k : Nat, 1 ≤ k ∧ k ≤ l.length ∧ z = .int .i64 k ∧ Hid (∀ i, i < k → keepAt l i = true) ∧ Own wr base 3 .i64 (.slice (some ⟨g, 0, none⟩) l.length c) l ∧ Frm w wr [g]) (fun z _ => l.length - (intOf z).toNat)
    case atStart => exact ⟨1, Nat.le_refl _, by omega, rfl, hide (fun i hi => decide_eq_true (.inl (by omega))), HO.out, Frm.refl _ _⟩
    case round =>
      clear HO
      obtain ⟨wq, rfl⟩ : ∃ x, x = wr := ⟨_, rfl⟩
      obtain ⟨k, hk1, hk, rfl, hkeep, hO, hf⟩ := hrel
      by_cases hlt : k < l.length
      · have hlt' : (k : Int) < l.length := by omega
        obtain ⟨x, hx⟩ : ∃ x, l[k]? = some x := ⟨_, List.getElem?_eq_getElem hlt⟩
        obtain ⟨y, hy⟩ : ∃ y, l[k - 1]? = some y := ⟨_, List.getElem?_eq_getElem (show k - 1 < l.length by omega)⟩
        have c1 : wq.cell? ⟨g, k, none⟩ = some (.int .i64 x) := hO.cellAt hx
        have c2 : wq.cell? ⟨g, k - 1, none⟩ = some (.int .i64 y) := hO.cellAt hy
        have hk1' : 0 ≤ (k : Int) - 1 := by omega
        have hk2' : (k : Int) - 1 < l.length := by omega
        have hw1 : IntKind.i64.wrap ((k : Int) - 1) = (k : Int) - 1 := IntWalk.i64_in _ (by omega)
        have ht1 : ((k : Int) - 1).toNat = k - 1 := by omega
        have HO := hide (And.intro hO hf)
        have hkq : keepAt l k = decide (x ≠ y) := by
          unfold keepAt
          rw [List.getD_eq_getElem?_getD, List.getD_eq_getElem?_getD, hx, hy]
          refine decide_eq_decide.2 ⟨fun h => h.resolve_left (by omega), .inr⟩
        have HKQ := hide hkq
        clear hO hf hx hy hkq
        by_cases hne : x = y
        · subst hne
          have hc9k : c - k ≤ 9223372036854775807 := by omega
          have HD0 : Hid (l.take k = ddTo l (k + 1)) := hide (by
            rw [ddTo_succ, HKQ.out, ddTo_take l k hk hkeep.out]
            simp)
          go_wp2_with fail
          go_quiet (fail)
          go_wp2_with fail
          go_loopg [3, 5] (l.length - k - 1) (fun q z3 z5 wr => ∃ (kk k2 : Nat) (m : List Int), z3 = .int .i64 kk ∧ z5 = .int .i64 k2 ∧ k + k2 + q = l.length ∧ 1 ≤ k2 ∧ kk + 1 ≤ k + k2 ∧ k ≤ kk ∧ Hid (m.length = l.length) ∧ Hid (m.take kk = ddTo l (k + k2)) ∧ Hid (∀ i, k + k2 - 1 ≤ i → m[i]? = l[i]?) ∧ Own wr base 3 .i64 (.slice (some ⟨g, 0, none⟩) l.length c) m ∧ Frm w wr [g])
          case atStart => exact ⟨k, 1, l, rfl, rfl, by omega, Nat.le_refl _, by omega, Nat.le_refl _, hide rfl, HD0, hide (fun _ _ => rfl), HO.out.1.drewN _, HO.out.2.drewN _⟩
          case round =>
            clear HO HD0 c1 c2 hk1' hk2' hw1 ht1
            obtain ⟨wp, rfl⟩ : ∃ x, x = wr := ⟨_, rfl⟩
            obtain ⟨q, rfl⟩ : ∃ x, x = gk := ⟨_, rfl⟩
            obtain ⟨kk, k2, m, rfl, rfl, hq, hk21, hkk, hkk1, hml, hmt, hmi, hO, hf⟩ := hrel
            by_cases hl2 : k + k2 < l.length
            · have hl2' : (k2 : Int) < ((l.length - k : Nat) : Int) := by omega
              obtain ⟨x2, hx2⟩ : ∃ x, l[k + k2]? = some x := ⟨_, List.getElem?_eq_getElem hl2⟩
              obtain ⟨y2, hy2⟩ : ∃ y, l[k + k2 - 1]? = some y := ⟨_, List.getElem?_eq_getElem (by omega)⟩
              have c3 : wp.cell? ⟨g, k + k2, none⟩ = some (.int .i64 x2) := hO.cellAt (by rw [hmi.out _ (by omega)]; exact hx2)
              have c4 : wp.cell? ⟨g, k + (k2 - 1), none⟩ = some (.int .i64 y2) := hO.cellAt (by rw [show k + (k2 - 1) = k + k2 - 1 by omega, hmi.out _ (Nat.le_refl _)]; exact hy2)
              have f3 : wp.frozen? ⟨g, kk, none⟩ = false := hO.freeAt kk
              obtain ⟨z, hz⟩ : ∃ z, m[kk]? = some z := ⟨_, List.getElem?_eq_getElem (by rw [hml.out]; omega)⟩
              have c5 : wp.cell? ⟨g, kk, none⟩ = some (.int .i64 z) := hO.cellAt hz
              have hk3 : 0 ≤ (k2 : Int) - 1 := by omega
              have hk4 : (k2 : Int) - 1 < ((l.length - k : Nat) : Int) := by omega
              have hw3 : IntKind.i64.wrap ((k2 : Int) - 1) = (k2 : Int) - 1 := IntWalk.i64_in _ (by omega)
              have ht3 : ((k2 : Int) - 1).toNat = k2 - 1 := by omega
              have hkl : (kk : Int) < l.length := by omega
              have hkq2 : keepAt l (k + k2) = decide (x2 ≠ y2) := by
                unfold keepAt
                rw [List.getD_eq_getElem?_getD, List.getD_eq_getElem?_getD, hx2, hy2]
                refine decide_eq_decide.2 ⟨fun h => h.resolve_left (by omega), .inr⟩
              have HX2 := hide hx2
              have HS := hide (And.intro hO (And.intro hf hkq2))
              clear hO hf hx2 hy2 hz hkq2
              by_cases hne : x2 = y2
              · subst hne
                go_wp2_with fail
                go_quiet (fail)
                go_wp2_with fail
                go_roundg (q - 1)
                case measure => omega
                case rel => exact ⟨kk, k2 + 1, m, rfl, by go_num, by omega, by omega, by omega, hkk1, hml, hide (by rw [← Nat.add_assoc, ddTo_succ, HS.out.2.2]; simpa using hmt.out), hide (fun i hi => hmi.out i (by omega)), HS.out.1.drewN _, HS.out.2.1.drewN _⟩
              · have hne' : (x2 == y2) = false := by simpa using hne
                go_wp2_with fail
                go_quiet (fail)
                go_wp2_with fail
                go_roundg (q - 1)
                case measure => omega
                case rel =>
                  have hg : g ∈ [g] := by simp
                  refine ⟨kk + 1, k2 + 1, m.set kk x2, by go_num, by go_num, by omega, by omega, by omega, by omega, hide (by rw [List.length_set]; exact hml.out), hide ?_, hide (fun i hi => ?_), (HS.out.1.drewN _).set kk x2, (HS.out.2.1.drewN _).setCell _ _ (.inl hg)⟩
                  · rw [← Nat.add_assoc, ddTo_succ, HS.out.2.2, List.getD_eq_getElem?_getD, HX2.out, List.take_add_one, List.getElem?_set_self (by rw [hml.out]; omega), List.take_set_of_le (Nat.le_refl _), hmt.out]
                    simp [hne]
                  · rw [List.getElem?_set_ne (by omega)]
                    exact hmi.out i (by omega)
            · have hend : k + k2 = l.length := by omega
              have hl2' : ¬ ((k2 : Int) < ((l.length - k : Nat) : Int)) := by omega
              have hcl : ∀ ty, (Builtin.clear_ #[23] ty #[.slice (some ⟨g, kk, none⟩) (l.length - kk) (c - kk)]).run Tryd.prog wp = .ok (.tuple #[]) (wp.setCells g kk (List.replicate (l.length - kk) (.int .i64 0))) :=
                fun ty => Lib.run_clear_slice wp _ _ ty _ Tryd.underlying23 zeroInt rfl rfl g kk _ _ (by omega) (fun j hj => by
                  obtain ⟨z, hz⟩ : ∃ z, m[kk + j]? = some z := ⟨_, List.getElem?_eq_getElem (by rw [hml.out]; omega)⟩
                  rw [hO.cellAt hz]; rfl) (fun j hj => hO.freeAt (kk + j))
              have hO' : Own wp base 3 .i64 (.slice (some ⟨g, 0, none⟩) m.length c) m := by rw [hml.out]; exact hO
              have HW := hide (Own.wipe (l.length - kk) kk wp m hO')
              have HF := hide hf
              have hkl : (kk : Int) ≤ l.length := by omega
              have hc9k2 : c - kk ≤ 9223372036854775807 := by omega
              clear hO hO' hf
              go_wp2_with fail
              go_ret
              obtain ⟨m', h1, h3, h4, h5⟩ := HW.out
              have h6 := h4.cut (q := kk) (by rw [h1, hml.out]; omega)
              rw [h3, hmt.out, hend] at h6
              exact ⟨_, rfl, h6, HF.out.trans h5, rfl⟩
        · have hne' : (x == y) = false := by simpa using hne
          go_wp2_with fail
          go_quiet (fail)
          go_wp2_with fail
          go_roundw
          case rel => exact ⟨k + 1, by omega, by omega, by go_num, hide (fun i hi => by
            rcases Nat.lt_succ_iff_lt_or_eq.1 hi with h | rfl
            · exact hkeep.out i h
            · rw [HKQ.out]; exact decide_eq_true hne), HO.out.1.drewN _, HO.out.2.drewN _⟩
          case measure => simp [intOf]; omega
      · obtain rfl : k = l.length := by omega
        have HZ := hide (And.intro hO hf)
        clear hO hf
        go_wp2_with fail
        go_ret
        have e : dd l = l := by
          unfold dd
          rw [ddTo_take l _ (Nat.le_refl _) hkeep.out, List.take_length]
        exact ⟨_, rfl, by rw [e]; exact HZ.out.1, HZ.out.2.mono (by simp [Value.ownBlock]), rfl⟩
end Go.Proofs.YtnhaanjpcnnifaaDoor

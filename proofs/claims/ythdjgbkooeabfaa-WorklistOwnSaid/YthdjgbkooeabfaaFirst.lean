/-
  The reference's first and Pop, layer 5 (worklist).
-/
import Derived.Test.YthdjgbkooeabfaaRef
namespace Go.Proofs.Ythdjgbkooeabfaa
open Go.RowKit

/-- x comes before y: by rank, then by value. -/
def Bef (l : List Int) (x y : Nat) : Prop := l.getD x 0 < l.getD y 0 ∨ (l.getD x 0 = l.getD y 0 ∧ x < y)
instance (l : List Int) (x y : Nat) : Decidable (Bef l x y) := by unfold Bef; infer_instance
theorem Bef.irrefl (l : List Int) (x : Nat) : ¬ Bef l x x := by unfold Bef; omega
theorem Bef.trans {l : List Int} {x y z : Nat} (h : Bef l x y) (k : Bef l y z) : Bef l x z := by unfold Bef at *; omega
theorem Bef.total {l : List Int} {x y : Nat} (h : ¬ Bef l x y) (k : ¬ Bef l y x) : x = y := by unfold Bef at *; omega
/-- none of q comes before y. -/
def Least (l : List Int) (q : List Nat) (y : Nat) : Prop := ∀ x ∈ q, ¬ Bef l x y

/-- first, of a queue without ranks. -/
theorem first_none (w : World) (L R n : Nat) (q F : List Nat) (h : RefAt w L R none n q F) :
    Calls Try.prog 27 #[.pointer (some ⟨R, 0, none⟩)] w fun en w' => en = .returned (.int .i64 0) ∧ w = w' := by
  obtain ⟨rv, iv, h1, -⟩ := h
  have c1 := h1.cell 1
  clear h1
  go_enter Try.func27, Try.ntmps27
  go_wp2_with fail
  go_ret
  exact ⟨rfl, rfl⟩

theorem first_some (w : World) (L R n : Nat) (l : List Int) (q F : List Nat) (h : RefAt w L R (some l) n q F) (hq : q ≠ []) (hl : ∀ x ∈ q, x < l.length) :
    Calls Try.prog 27 #[.pointer (some ⟨R, 0, none⟩)] w fun en w' => (∃ k y, en = .returned (.int .i64 (k : Nat)) ∧ q[k]? = some y ∧ Least l q y) ∧ Frm w w' [] := by
  obtain ⟨rv, iv, h1, h2, h3, -, -, -, h65, -⟩ := h
  rw [← ints_len] at h65
  have hql : (ints q).length = q.length := ints_len q
  have h0q : 0 < q.length := List.length_pos_iff.2 hq
  have hRs := h1.lt
  have c1 := h1.cell 1
  have c4 := h1.cell 4
  have c3 := h1.cell 3
  obtain ⟨A, c, rfl, hc, hm, hr⟩ := h2.rd
  obtain ⟨A', c', rfl, hc', hm', hr'⟩ := h3.rd
  obtain ⟨b, off, rfl, hbl, hcell⟩ := hr (by omega)
  have hl0 : 0 < l.length := by
    cases q with
    | nil => exact absurd rfl hq
    | cons a r => have := hl a (by simp); omega
  obtain ⟨b', off', rfl, hbl', hcell'⟩ := hr' hl0
  have HQ : Hid (∀ k x, q[k]? = some x → w.cell? ⟨b, off + k, none⟩ = some (.int .i64 (x : Nat))) := hide (fun k x hk => hcell k x (by rw [ints_get, hk]; rfl))
  have HRK : Hid (∀ x ∈ q, w.cell? ⟨b', off' + x, none⟩ = some (.int .i64 (l.getD x 0)) ∧ (x : Int) < (l.length : Int)) := hide (fun x hx => by
    have := hl x hx
    exact ⟨hcell' x _ (show l[x]? = some (l.getD x 0) by rw [List.getD_eq_getElem?_getD, List.getElem?_eq_getElem this]; rfl), by omega⟩)
  have e3 : (Option.getD (some l) []).length = l.length := rfl
  rw [e3] at c1 c3 c4 hc'
  rw [hql] at c1 c3 c4 hc h65
  clear h1 h2 h3 hr hr' hcell hcell' hm hl0 e3 hql hq
  go_enter Try.func27, Try.ntmps27
  go_wp2_with fail
  go_loopw [18, 3] (fun z m wr => ∃ (k j : Nat), k ≤ q.length ∧ z = .int .i64 k ∧ m = .int .i64 j ∧ j < q.length ∧ (∀ y, q[j]? = some y → Least l (q.take k) y) ∧ Frm w wr []) (fun z _ _ => q.length - (intOf z).toNat)
  case atStart => exact ⟨0, 0, Nat.zero_le _, rfl, rfl, h0q, fun y _ x hx => (by simp at hx), Frm.refl _ _⟩
  case round =>
    obtain ⟨wq, rfl⟩ : ∃ x, x = wr := ⟨_, rfl⟩
    obtain ⟨k, j, hk, rfl, rfl, hj, hleast, hf⟩ := hrel
    by_cases hlt : k < q.length
    · obtain ⟨x, hx⟩ : ∃ x, q[k]? = some x := ⟨_, List.getElem?_eq_getElem hlt⟩
      obtain ⟨y, hy⟩ : ∃ y, q[j]? = some y := ⟨_, List.getElem?_eq_getElem hj⟩
      have cx := (hf.cell (p := ⟨b, off + k, none⟩) hbl (by simp)).trans (HQ.out k x hx)
      have cy := (hf.cell (p := ⟨b, off + j, none⟩) hbl (by simp)).trans (HQ.out j y hy)
      obtain ⟨rx, bx⟩ := HRK.out x (List.mem_of_getElem? hx)
      obtain ⟨ry, bY⟩ := HRK.out y (List.mem_of_getElem? hy)
      have rx' := (hf.cell (p := ⟨b', off' + x, none⟩) hbl' (by simp)).trans rx
      have ry' := (hf.cell (p := ⟨b', off' + y, none⟩) hbl' (by simp)).trans ry
      have d1 := (hf.cell (p := ⟨R, 1, none⟩) hRs (by simp)).trans c1
      have d3 := (hf.cell (p := ⟨R, 3, none⟩) hRs (by simp)).trans c3
      have d4 := (hf.cell (p := ⟨R, 4, none⟩) hRs (by simp)).trans c4
      have HX := hide (And.intro hx (And.intro hy (And.intro (hleast y hy) hf)))
      have hlt' : (k : Int) < q.length := by omega
      have hj' : (j : Int) < q.length := by omega
      obtain ⟨a1, ha1⟩ : ∃ a, a = l.getD x 0 := ⟨_, rfl⟩
      obtain ⟨a2, ha2⟩ : ∃ a, a = l.getD y 0 := ⟨_, rfl⟩
      rw [← ha1] at rx'
      rw [← ha2] at ry'
      have HA := hide (And.intro ha1 ha2)
      clear rx ry hx hy hleast hf c1 c3 c4 ha1 ha2
      by_cases h1 : a1 < a2
      · have HB : Hid (Bef l x y) := hide (.inl (by rw [← HA.out.1, ← HA.out.2]; exact h1))
        go_wp2_with fail
        go_quiet (fail)
        go_wp2_with fail
        go_roundw
        case rel =>
          refine ⟨k + 1, k, by omega, by go_num, rfl, hlt, fun y' hy' x' hx' => ?_, HX.out.2.2.2.drewN _⟩
          rw [HX.out.1] at hy'
          cases hy'
          rw [List.take_add_one, HX.out.1] at hx'
          rcases List.mem_append.1 hx' with h | h
          · exact fun hb => HX.out.2.2.1 x' h (hb.trans HB.out)
          · obtain rfl : x' = x := by simpa using h
            exact Bef.irrefl l x'
        case measure => simp [intOf]; omega
      · have e1 : decide (a1 < a2) = false := decide_eq_false h1
        by_cases h2 : a1 = a2
        · have e2 : (a1 == a2) = true := by simpa using h2
          have H2 := hide h2
          have H1 := hide h1
          clear h1 h2
          by_cases h3 : x < y
          · have e4 : decide ((x : Int) < (y : Int)) = true := by simpa using h3
            have HB : Hid (Bef l x y) := hide (.inr ⟨by rw [← HA.out.1, ← HA.out.2]; exact H2.out, h3⟩)
            go_wp2_with fail
            go_quiet (fail)
            go_wp2_with fail
            go_roundw
            case rel =>
              refine ⟨k + 1, k, by omega, by go_num, rfl, hlt, fun y' hy' x' hx' => ?_, HX.out.2.2.2.drewN _⟩
              rw [HX.out.1] at hy'
              cases hy'
              rw [List.take_add_one, HX.out.1] at hx'
              rcases List.mem_append.1 hx' with h | h
              · exact fun hb => HX.out.2.2.1 x' h (hb.trans HB.out)
              · obtain rfl : x' = x := by simpa using h
                exact Bef.irrefl l x'
            case measure => simp [intOf]; omega
          · have e4 : decide ((x : Int) < (y : Int)) = false := by simpa using h3
            have HB : Hid (¬ Bef l x y) := hide (by
              rintro (h | h)
              · rw [← HA.out.1, ← HA.out.2] at h; exact H1.out h
              · exact h3 h.2)
            have e5 : decide (x < y) = false := by simpa using h3
            go_wp2_with fail
            go_quiet (fail)
            go_wp2_with fail
            go_roundw
            case rel =>
              refine ⟨k + 1, j, by omega, by go_num, rfl, hj, fun y' hy' x' hx' => ?_, HX.out.2.2.2.drewN _⟩
              rw [HX.out.2.1] at hy'
              cases hy'
              rw [List.take_add_one, HX.out.1] at hx'
              rcases List.mem_append.1 hx' with h | h
              · exact HX.out.2.2.1 x' h
              · obtain rfl : x' = x := by simpa using h
                exact HB.out
            case measure => simp [intOf]; omega
        · have e2 : (a1 == a2) = false := by simpa using h2
          have HB : Hid (¬ Bef l x y) := hide (by
            rintro (h | h)
            · rw [← HA.out.1, ← HA.out.2] at h; exact h1 h
            · rw [← HA.out.1, ← HA.out.2] at h; exact h2 h.1)
          clear h1 h2
          go_wp2_with fail
          go_quiet (fail)
          go_wp2_with fail
          go_roundw
          case rel =>
            refine ⟨k + 1, j, by omega, by go_num, rfl, hj, fun y' hy' x' hx' => ?_, HX.out.2.2.2.drewN _⟩
            rw [HX.out.2.1] at hy'
            cases hy'
            rw [List.take_add_one, HX.out.1] at hx'
            rcases List.mem_append.1 hx' with h | h
            · exact HX.out.2.2.1 x' h
            · obtain rfl : x' = x := by simpa using h
              exact HB.out
          case measure => simp [intOf]; omega
    · obtain rfl : k = q.length := by omega
      rw [List.take_length] at hleast
      have HZ := hide (And.intro hleast hf)
      clear hleast hf
      go_wp2_with fail
      go_ret
      exact ⟨⟨j, q[j], rfl, List.getElem?_eq_getElem hj, HZ.out.1 _ (List.getElem?_eq_getElem hj)⟩, HZ.out.2⟩
end Go.Proofs.Ythdjgbkooeabfaa

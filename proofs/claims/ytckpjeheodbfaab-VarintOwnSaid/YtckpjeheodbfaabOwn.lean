import Derived.Test.YtckpjeheodbfaabWorks
import Derived.Laws.OwnMore
import Derived.Lib.SliceRun
namespace Go.Proofs.Ytckpjeheodbfaab
open Go.RowKit

/-- slices.Clone at []byte: a row of the call's own. -/
theorem clone_any (v : Value) (l : List Int) (w : World) (hv : Rd w .u8 v l) (hl : l.length ≤ 1000000) :
    Calls Try.prog 30 #[v] w fun en w' => ∃ v', en = .returned v' ∧ Own w' w.heap.size 5 .u8 v' l ∧ Below w.heap.size w w' := by
  obtain ⟨A, c, rfl, hc, hm, hr⟩ := hv
  rcases A with _ | ad
  · have h0 : l.length = 0 := by
      rcases Nat.eq_zero_or_pos l.length with h | h
      · exact h
      · obtain ⟨_, _, e, _⟩ := hr h; cases e
    obtain rfl : l = [] := List.eq_nil_of_length_eq_zero h0
    have he := Lib.run_eql_slice_nil (P := Try.prog) w 22 5 none 0 c 0 0 Try.underlying22
    clear hr
    go_enter Try.func30, Try.ntmps30
    go_wp2_with fail
    go_ret
    exact ⟨_, rfl, Own.nil, Below.refl _ _⟩
  · have HV := hide (show Rd w .u8 (.slice (some ad) l.length c) l from ⟨some ad, c, rfl, hc, hm, hr⟩)
    have he := Lib.run_eql_slice_nil (P := Try.prog) w 22 5 (some ad) l.length c 0 0 Try.underlying22
    clear hr
    go_enter Try.func30, Try.ntmps30
    go_wp2_with (at_builtin; refine wpList_append_rd _ rfl _ _ 22 rfl w.heap.size 5 .u8 1 bytesE _ [] rfl (own_empty w _ _ _ ?c2) _ l rfl (HV.out.alloc _) ?b1 ?b2 ?b3 ?_)
    case c2 => exact Nat.le_refl _
    case b1 => rw [List.length_nil]; omega
    case b2 => unfold maxLen; rw [List.length_nil]; omega
    case b3 => simp
    intro v' w1 hown _ hb _
    have hB : Below w.heap.size w w1 := ((Below.refl _ _).alloc (Nat.le_refl _) _).trans hb
    clear hb HV
    go_wp2_with fail
    go_ret
    exact ⟨_, rfl, hown, hB⟩
theorem err_nil (w : World) :
    Calls Try.prog 26 #[.pointer none] w fun en w' => en = .returned (.int .i64 1) ∧ w = w' := by
  go_enter Try.func26, Try.ntmps26
  go_wp2_with (go_at_call 34; refine (valid_nil _).mono ?_; rintro en w' ⟨rfl, rfl⟩)
  go_ret
  exact ⟨rfl, rfl⟩
theorem len_nil (w : World) :
    Calls Try.prog 28 #[.pointer none] w fun en w' => en = .returned (.int .i64 0) ∧ w = w' := by
  go_enter Try.func28, Try.ntmps28
  go_wp2_with (go_at_call 34; refine (valid_nil _).mono ?_; rintro en w' ⟨rfl, rfl⟩)
  go_ret
  exact ⟨rfl, rfl⟩
theorem int_nil (w : World) :
    Calls Try.prog 19 #[.pointer none] w fun en w' => en = .returned (.int .i64 0) ∧ w = w' := by
  go_enter Try.func19, Try.ntmps19
  go_wp2_with (go_at_call 34; refine (valid_nil _).mono ?_; rintro en w' ⟨rfl, rfl⟩)
  go_ret
  exact ⟨rfl, rfl⟩
theorem ints_nil (w : World) :
    Calls Try.prog 22 #[.pointer none] w fun en w' => en = .returned (.slice none 0 0) ∧ w = w' := by
  go_enter Try.func22, Try.ntmps22
  go_wp2_with (go_at_call 34; refine (valid_nil _).mono ?_; rintro en w' ⟨rfl, rfl⟩)
  go_ret
  exact ⟨rfl, rfl⟩
theorem str_nil (w : World) :
    Calls Try.prog 24 #[.pointer none] w fun en w' => en = .returned (.string ⟨#[]⟩) ∧ w = w' := by
  go_enter Try.func24, Try.ntmps24
  go_wp2_with (go_at_call 34; refine (valid_nil _).mono ?_; rintro en w' ⟨rfl, rfl⟩)
  go_ret
  exact ⟨rfl, rfl⟩
theorem err_zero (g : Nat) (rv : Value) (e : Int) (w : World) (h : Whole w g 48 #[rv, .int .i64 e, .pointer none]) :
    Calls Try.prog 26 #[.pointer (some ⟨g, 0, none⟩)] w fun en w' => en = .returned (.int .i64 1) ∧ w = w' := by
  have HV := hide (valid_zero g rv e w h)
  clear h
  go_enter Try.func26, Try.ntmps26
  go_wp2_with (go_at_call 34; refine HV.out.mono ?_; rintro en w' ⟨rfl, rfl⟩)
  go_ret
  exact ⟨rfl, rfl⟩
theorem len_zero (g : Nat) (rv : Value) (e : Int) (w : World) (h : Whole w g 48 #[rv, .int .i64 e, .pointer none]) :
    Calls Try.prog 28 #[.pointer (some ⟨g, 0, none⟩)] w fun en w' => en = .returned (.int .i64 0) ∧ w = w' := by
  have HV := hide (valid_zero g rv e w h)
  clear h
  go_enter Try.func28, Try.ntmps28
  go_wp2_with (go_at_call 34; refine HV.out.mono ?_; rintro en w' ⟨rfl, rfl⟩)
  go_ret
  exact ⟨rfl, rfl⟩
theorem int_zero (g : Nat) (rv : Value) (e : Int) (w : World) (h : Whole w g 48 #[rv, .int .i64 e, .pointer none]) :
    Calls Try.prog 19 #[.pointer (some ⟨g, 0, none⟩)] w fun en w' => en = .returned (.int .i64 0) ∧ w = w' := by
  have HV := hide (valid_zero g rv e w h)
  clear h
  go_enter Try.func19, Try.ntmps19
  go_wp2_with (go_at_call 34; refine HV.out.mono ?_; rintro en w' ⟨rfl, rfl⟩)
  go_ret
  exact ⟨rfl, rfl⟩
end Go.Proofs.Ytckpjeheodbfaab

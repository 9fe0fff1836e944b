/-
  A nil set, and one that was not made: layer 3 (bitset).
-/
import Derived.Test.YtbnikoomgeaboaaDoorComb
namespace Go.Proofs.YtbnikoomgeaboaaDoor
open Go.RowKit

/-- A made set. -/
def IsSet (w : World) (v : Value) (n : Nat) : Prop := ∃ B ws, v = .pointer (some ⟨B + 1, 0, none⟩) ∧ SetAt w B n ws
/-- No made set: nil, or a zero Set. -/
def NoSet (w : World) (v : Value) : Prop := v = .pointer none ∨ ∃ Z, v = .pointer (some ⟨Z, 0, none⟩) ∧ Z < w.heap.size ∧ w.cell? ⟨Z, 2, none⟩ = some (.pointer none)

theorem NoSet.frm {w w' : World} {v : Value} (h : NoSet w v) (hf : Frm w w' []) : NoSet w' v := h.elim .inl fun ⟨Z, h1, h2, h3⟩ => .inr ⟨Z, h1, Nat.lt_of_lt_of_le h2 hf.size, (hf.cell (p := ⟨Z, 2, none⟩) h2 (by simp)).trans h3⟩

theorem nilPtr (w : World) (a : Addr) : (binOp .eql 23 (.pointer none) (.pointer (some a))).run Tryd.prog w = .ok (.bool false) w := by
  have h : ∀ d : Nat, (Op.equalIn (d + 1) 23 (.pointer none) (.pointer (some a))).run Tryd.prog w = .ok false w := fun d => by
    simp [Op.equalIn, run_underlying Tryd.underlying23]
  simp only [binOp]
  simp [Op.equal, Op.maxDepth, h 9999]

theorem valid_no (w : World) (v : Value) (h : NoSet w v) :
    Calls Tryd.prog 41 #[v] w fun en w' => en = .returned (.bool false) ∧ w = w' := by
  rcases h with rfl | ⟨Z, rfl, _, c2⟩
  · go_enter Tryd.func41, Tryd.ntmps41
    go_wp2_with fail
    exact ⟨rfl, _, results_tmp rfl _ _ _, rfl, rfl⟩
  · have heq := nilPtr w ⟨Z, 0, none⟩
    go_enter Tryd.func41, Tryd.ntmps41
    go_wp2_with fail
    go_ret
    exact ⟨rfl, rfl⟩

theorem IsSet.valid {w : World} {v : Value} {n : Nat} (h : IsSet w v n) :
    Calls Tryd.prog 41 #[v] w fun en w' => en = .returned (.bool true) ∧ w = w' := by
  obtain ⟨B, ws, rfl, h⟩ := h
  exact valid_set w B n ws h

theorem cap_no (w : World) (v : Value) (h : NoSet w v) :
    Calls Tryd.prog 32 #[v] w fun en w' => en = .returned (.int .i64 0) ∧ w = w' := by
  have HV := hide (valid_no w v h)
  go_enter Tryd.func32, Tryd.ntmps32
  go_wp2_with (go_at_call 41; refine HV.out.mono ?_; rintro en w' ⟨rfl, rfl⟩)
  go_ret
  exact ⟨rfl, rfl⟩

theorem place_no (w : World) (v : Value) (h : NoSet w v) (i : Int) :
    Calls Tryd.prog 34 #[v, .int .i64 i] w fun en w' => en = .returned (.tuple #[.pointer none, .int .u64 0]) ∧ w = w' := by
  have HC := hide (cap_no w v h)
  by_cases h0 : i < 0
  · go_enter Tryd.func34, Tryd.ntmps34
    go_wp2_with fail
    go_ret2
    exact ⟨rfl, rfl⟩
  · have h1 : i ≥ 0 := by omega
    have h1' : 0 ≤ i := by omega
    go_enter Tryd.func34, Tryd.ntmps34
    go_wp2_with (go_at_call 32; refine HC.out.mono ?_; rintro en w' ⟨rfl, rfl⟩)
    go_ret2
    exact ⟨rfl, rfl⟩

theorem has_no (w : World) (v : Value) (h : NoSet w v) (i : Int) :
    Calls Tryd.prog 16 #[v, .int .i64 i] w fun en w' => en = .returned (.bool false) ∧ w = w' := by
  have HP := hide (place_no w v h i)
  go_enter Tryd.func16, Tryd.ntmps16
  go_wp2_with (go_at_call 34; refine HP.out.mono ?_; rintro en w' ⟨rfl, rfl⟩)
  go_ret
  exact ⟨rfl, rfl⟩

theorem add_no (w : World) (v : Value) (h : NoSet w v) (i : Int) :
    Calls Tryd.prog 12 #[v, .int .i64 i] w fun en w' => en = .returned (.bool false) ∧ w = w' := by
  have HP := hide (place_no w v h i)
  go_enter Tryd.func12, Tryd.ntmps12
  go_wp2_with (go_at_call 34; refine HP.out.mono ?_; rintro en w' ⟨rfl, rfl⟩)
  go_ret
  exact ⟨rfl, rfl⟩

theorem remove_no (w : World) (v : Value) (h : NoSet w v) (i : Int) :
    Calls Tryd.prog 14 #[v, .int .i64 i] w fun en w' => en = .returned (.bool false) ∧ w = w' := by
  have HP := hide (place_no w v h i)
  go_enter Tryd.func14, Tryd.ntmps14
  go_wp2_with (go_at_call 34; refine HP.out.mono ?_; rintro en w' ⟨rfl, rfl⟩)
  go_ret
  exact ⟨rfl, rfl⟩

theorem clone_no (w : World) (v : Value) (h : NoSet w v) :
    Calls Tryd.prog 24 #[v] w fun en w' => en = .returned (.pointer none) ∧ w = w' := by
  have HV := hide (valid_no w v h)
  go_enter Tryd.func24, Tryd.ntmps24
  go_wp2_with (go_at_call 41; refine HV.out.mono ?_; rintro en w' ⟨rfl, rfl⟩)
  go_ret
  exact ⟨rfl, rfl⟩

/-- combine says no: the receiver was not made. -/
theorem comb_no (w : World) (s o f : Value) (h : NoSet w s) :
    Calls Tryd.prog 36 #[s, o, f] w fun en w' => en = .returned (.bool false) ∧ Frm w w' [] := by
  have HV : Hid (∀ W : World, Frm w W [] → Calls Tryd.prog 41 #[s] W fun en w' => en = .returned (.bool false) ∧ W = w') := hide (fun W f => valid_no W s (h.frm f))
  go_enter Tryd.func36, Tryd.ntmps36
  go_wp2_with fail
  go_quiet (first | (go_at_call 41; exact Calls.quiet_of_same ((HV.out _ ((Frm.refl _ _).drewN _)).mono fun _ _ ⟨a, b⟩ => ⟨a, b.symm⟩)))
  go_wp2_with fail
  go_ret
  exact ⟨rfl, (Frm.refl w []).drewN _⟩
end Go.Proofs.YtbnikoomgeaboaaDoor

import Derived.Test.YtcenbpjkndhlgabAwake
namespace Go.Proofs.Ytcenbpjkndhlgab
open Go.RowKit Go.Maps

/-- A pointer to no table: nil, or a block of zeros. -/
def NoTbl (w : World) (p : Value) : Prop := p = .pointer none ∨ ∃ g, p = .pointer (some ⟨g, 0, none⟩) ∧ Whole w g 27 #[.int .i64 0, .slice none 0 0, .map none, .pointer none]

theorem ptrNone (w : World) (a : Addr) : (binOp .eql 23 (.pointer none) (.pointer (some a))).run Try.prog w = .ok (.bool false) w := by
  have h : ∀ d : Nat, (Op.equalIn (d + 1) 23 (.pointer none) (.pointer (some a))).run Try.prog w = .ok false w := fun d => by
    simp [Op.equalIn, run_underlying Try.underlying23, sizeOf, typeInfo]
  simp only [binOp]
  simp [Op.equal, Op.maxDepth, h 9999]
theorem valid_none (w : World) (p : Value) (h : NoTbl w p) :
    Calls Try.prog 12 #[p] w fun en w' => en = .returned (.bool false) ∧ w = w' := by
  rcases h with rfl | ⟨g, rfl, h⟩
  · go_enter Try.func12, Try.ntmps12
    go_wp2_with fail
    go_ret
    exact ⟨rfl, rfl⟩
  · have c3 := h.cell 3
    have hp := ptrNone w ⟨g, 0, none⟩
    go_enter Try.func12, Try.ntmps12
    go_wp2_with fail
    go_ret
    exact ⟨rfl, rfl⟩
theorem add_none (w : World) (p kv : Value) (h : NoTbl w p) :
    Calls Try.prog 5 #[p, kv] w fun en w' => en = .returned (.tuple #[.int .i64 0, .bool false, .int .i64 1]) ∧ w = w' := by
  have HV := hide (valid_none w p h)
  go_enter Try.func5, Try.ntmps5
  go_wp2_with (go_at_call 12; refine HV.out.mono ?_; rintro en w' ⟨rfl, rfl⟩)
  go_ret3
  exact ⟨rfl, rfl⟩
theorem find_none (w : World) (p kv : Value) (h : NoTbl w p) :
    Calls Try.prog 6 #[p, kv] w fun en w' => en = .returned (.tuple #[.int .i64 0, .bool false]) ∧ w = w' := by
  have HV := hide (valid_none w p h)
  go_enter Try.func6, Try.ntmps6
  go_wp2_with (go_at_call 12; refine HV.out.mono ?_; rintro en w' ⟨rfl, rfl⟩)
  go_ret2
  exact ⟨rfl, rfl⟩
theorem len_none (w : World) (p : Value) (h : NoTbl w p) :
    Calls Try.prog 7 #[p] w fun en w' => en = .returned (.int .i64 0) ∧ w = w' := by
  have HV := hide (valid_none w p h)
  go_enter Try.func7, Try.ntmps7
  go_wp2_with (go_at_call 12; refine HV.out.mono ?_; rintro en w' ⟨rfl, rfl⟩)
  go_ret
  exact ⟨rfl, rfl⟩
theorem key_none (w : World) (p : Value) (i : Int) (h : NoTbl w p) :
    Calls Try.prog 8 #[p, .int .i64 i] w fun en w' => en = .returned (.slice none 0 0) ∧ w = w' := by
  have HL := hide (len_none w p h)
  by_cases h0 : i < 0
  · go_enter Try.func8, Try.ntmps8
    go_wp2_with fail
    go_ret
    exact ⟨rfl, rfl⟩
  · have h1 : 0 ≤ i := by omega
    go_enter Try.func8, Try.ntmps8
    go_wp2_with (go_at_call 7; refine HL.out.mono ?_; rintro en w' ⟨rfl, rfl⟩)
    go_ret
    exact ⟨rfl, rfl⟩

theorem none_any (b : Value) (n : Int) (bs : List Int) (w : World) (_hb : Rd w .u8 b bs) :
    Calls Try.prog 3 #[b, .int .i64 n] w (LawDone w) := by
  go_enter Try.func3, Try.ntmps3
  go_wp2_with fail
  have hW := (Whole.new w 27 #[.int .i64 0, .slice none 0 0, .map none, .pointer none]).alloc (.cells #[.pointer none, .pointer (some ⟨w.heap.size, 0, none⟩)] 23)
  have hW2 := Whole.new (w.alloc (.cells #[.int .i64 0, .slice none 0 0, .map none, .pointer none] 27)) 23 #[.pointer none, .pointer (some ⟨w.heap.size, 0, none⟩)]
  have hB := ((Below.refl w.heap.size w).alloc (Nat.le_refl _) (.cells #[.int .i64 0, .slice none 0 0, .map none, .pointer none] 27)).alloc (by rw [World.size_alloc]; exact Nat.le_succ _) (.cells #[.pointer none, .pointer (some ⟨w.heap.size, 0, none⟩)] 23)
  rw [World.size_alloc] at hW2
  obtain ⟨w0, hw0⟩ : ∃ x, x = (w.alloc (.cells #[.int .i64 0, .slice none 0 0, .map none, .pointer none] 27)).alloc (.cells #[.pointer none, .pointer (some ⟨w.heap.size, 0, none⟩)] 23) := ⟨_, rfl⟩
  rw [← hw0] at hW hW2 hB ⊢
  have k0 := hW2.cell 0
  have k1 := hW2.cell 1
  have N0 := hide (show NoTbl w0 (.pointer none) from .inl rfl)
  have N1 := hide (show NoTbl w0 (.pointer (some ⟨w.heap.size, 0, none⟩)) from .inr ⟨_, rfl, hW⟩)
  have HB := hide hB
  clear hW hW2 hB hw0
  go_loop [16] (fun i => ∃ k : Nat, k ≤ 2 ∧ i = .int .i64 k) (fun i => 2 - (intOf i).toNat)
  case atStart => exact ⟨0, by omega, rfl⟩
  case round =>
    obtain ⟨k, hk, rfl⟩ := hrel
    have hcase : k = 0 ∨ k = 1 ∨ k = 2 := by omega
    rcases hcase with rfl | rfl | rfl
    · go_wp2_with (first | (go_at_call 5; refine (add_none _ _ _ N0.out).mono ?_; rintro en w' ⟨rfl, rfl⟩) | (go_at_call 6; refine (find_none _ _ _ N0.out).mono ?_; rintro en w' ⟨rfl, rfl⟩) | (go_at_call 7; refine (len_none _ _ N0.out).mono ?_; rintro en w' ⟨rfl, rfl⟩) | (go_at_call 8; refine (key_none _ _ _ N0.out).mono ?_; rintro en w' ⟨rfl, rfl⟩))
      go_round
      case rel => exact ⟨1, by omega, by go_num⟩
      case measure => simp [intOf]
    · go_wp2_with (first | (go_at_call 5; refine (add_none _ _ _ N1.out).mono ?_; rintro en w' ⟨rfl, rfl⟩) | (go_at_call 6; refine (find_none _ _ _ N1.out).mono ?_; rintro en w' ⟨rfl, rfl⟩) | (go_at_call 7; refine (len_none _ _ N1.out).mono ?_; rintro en w' ⟨rfl, rfl⟩) | (go_at_call 8; refine (key_none _ _ _ N1.out).mono ?_; rintro en w' ⟨rfl, rfl⟩))
      go_round
      case rel => exact ⟨2, by omega, by go_num⟩
      case measure => simp [intOf]
    · go_wp2_with fail
      refine (awake_any w0).mono ?_
      rintro en w1 ⟨rfl, hB1⟩
      go_wp2_with fail
      go_ret
      exact ⟨rfl, HB.out.trans (hB1.mono HB.out.size)⟩
end Go.Proofs.Ytcenbpjkndhlgab

import Derived.Test.YtckpjeheodbfaabInt
import Derived.LaidEqlPtr
namespace Go.Proofs.Ytckpjeheodbfaab
open Go.RowKit

theorem ret_bool {p q : Bool} (h : p = q) : Ending.returned (.bool p) = .returned (.bool q) := by rw [h]
theorem infoRdr : ∃ j, Try.prog.info? 48 = some j := ⟨Try.t48, rfl⟩

theorem valid_yes (g : Nat) (B : Nat × Nat) (l : List Int) (e : Int) (w : World) (h : RdrAt w g B l e) :
    Calls Try.prog 34 #[.pointer (some ⟨g, 0, none⟩)] w fun en w' => en = .returned (.bool true) ∧ w = w' := by
  obtain ⟨rv, hw, _, _, _⟩ := h
  have c2 := hw.cell 2
  obtain ⟨j, hj⟩ := infoRdr
  have he := run_eql_ptr_same (P := Try.prog) w (⟨g, 0, none⟩ : Addr) Try.underlying30 hj
  clear hj hw
  go_enter Try.func34, Try.ntmps34
  go_wp2_with fail
  go_ret
  exact ⟨rfl, rfl⟩
theorem valid_nil (w : World) :
    Calls Try.prog 34 #[.pointer none] w fun en w' => en = .returned (.bool false) ∧ w = w' := by
  go_enter Try.func34, Try.ntmps34
  go_wp2_with fail
  go_ret
  exact ⟨rfl, rfl⟩
theorem eql_nil_ptr (a : Addr) (w : World) : (binOp .eql 30 (.pointer none) (.pointer (some a))).run Try.prog w = .ok (.bool false) w := by
  obtain ⟨j, hj⟩ := infoRdr
  have h : ∀ d : Nat, (Op.equalIn (d + 1) 30 (.pointer none) (.pointer (some a))).run Try.prog w = .ok false w := fun d => by
    simp [Op.equalIn, run_underlying Try.underlying30]
  simp only [binOp]
  simp [Op.equal, Op.maxDepth, h 9999]
theorem valid_zero (g : Nat) (rv : Value) (e : Int) (w : World) (h : Whole w g 48 #[rv, .int .i64 e, .pointer none]) :
    Calls Try.prog 34 #[.pointer (some ⟨g, 0, none⟩)] w fun en w' => en = .returned (.bool false) ∧ w = w' := by
  have c2 := h.cell 2
  have he := eql_nil_ptr ⟨g, 0, none⟩ w
  clear h
  go_enter Try.func34, Try.ntmps34
  go_wp2_with fail
  go_ret
  exact ⟨rfl, rfl⟩

theorem readLen_any (g : Nat) (B : Nat × Nat) (l : List Int) (e : Int) (w : World) (h : RdrAt w g B l e) (hl : Bytes l) :
    Calls Try.prog 40 #[.pointer (some ⟨g, 0, none⟩)] w fun en w' => en = .returned (.tuple #[.int .i64 (rL l e).1, .bool (rL l e).2.1]) ∧ RdrAt w' g B (rL l e).2.2.1 (rL l e).2.2.2 ∧ w.grownBy w' (some g) := by
  have hr := hide (readInt_any g B l e w h hl)
  have hok := hide (rI_ok (l := l) (e := e))
  have hdef : Hid (rL l e = if (rI l e).2.1 = false then (0, false, (rI l e).2.2.1, (rI l e).2.2.2)
    else if (rI l e).1 < 0 then (0, false, [], 3) else if ((rI l e).2.2.1.length : Int) < (rI l e).1 then (0, false, [], 4) else ((rI l e).1, true, (rI l e).2.2.1, 0)) := rfl
  generalize rI l e = q at hr hok hdef
  obtain ⟨n, ok, l1, e1⟩ := q
  dsimp only at hr hok hdef
  by_cases h1 : ok = true
  · subst h1
    obtain rfl : e1 = 0 := hok.out rfl
    by_cases h2 : n < 0
    · have HD := hide (show rL l e = (0, false, [], 3) by rw [hdef.out, if_neg (by simp), if_pos h2])
      clear hdef hok
      rw [HD.out]
      go_enter Try.func40, Try.ntmps40
      go_wp2_with fail
      refine hr.out.mono ?_
      rintro en w1 ⟨rfl, ⟨rv, hW, hRd, hap, hib⟩, hg⟩
      have c0 := hW.cell 0
      have c1 := hW.cell 1
      have f0 := hW.free 0
      have f1 := hW.free 1
      have HW := hide hW
      clear hW hap hib
      go_wp2_with (go_at_call 46; refine (fail_any g _ _ _ _ c0 c1 f0 f1).mono ?_; rintro en w' ⟨rfl, rfl⟩)
      go_ret2
      exact ⟨rfl, ⟨_, (HW.out.set 0 _).set 1 _, Rd.nil, Apart.nil, InB.nil⟩, only_set (only_set hg _ _) _ _⟩
    · by_cases h3 : (l1.length : Int) < n
      · have HD := hide (show rL l e = (0, false, [], 4) by rw [hdef.out, if_neg (by simp), if_neg h2, if_pos h3])
        clear hdef hok
        rw [HD.out]
        go_enter Try.func40, Try.ntmps40
        go_wp2_with fail
        refine hr.out.mono ?_
        rintro en w1 ⟨rfl, ⟨rv, hW, hRd, hap, hib⟩, hg⟩
        obtain ⟨A, c, rfl, _, _, _⟩ := hRd
        have c0 := hW.cell 0
        have c1 := hW.cell 1
        have f0 := hW.free 0
        have f1 := hW.free 1
        have HW := hide hW
        clear hW hap hib
        go_wp2_with (go_at_call 46; refine (fail_any g _ _ _ _ c0 c1 f0 f1).mono ?_; rintro en w' ⟨rfl, rfl⟩)
        go_ret2
        exact ⟨rfl, ⟨_, (HW.out.set 0 _).set 1 _, Rd.nil, Apart.nil, InB.nil⟩, only_set (only_set hg _ _) _ _⟩
      · have HD := hide (show rL l e = (n, true, l1, 0) by rw [hdef.out, if_neg (by simp), if_neg h2, if_neg h3])
        clear hdef hok
        rw [HD.out]
        go_enter Try.func40, Try.ntmps40
        go_wp2_with fail
        refine hr.out.mono ?_
        rintro en w1 ⟨rfl, ⟨rv, hW, hRd, hap, hib⟩, hg⟩
        obtain ⟨A, c, rfl, x1, x2, x3⟩ := hRd
        have HR := hide (show RdrAt w1 g B l1 0 from ⟨_, hW, ⟨A, c, rfl, x1, x2, x3⟩, hap, hib⟩)
        have c0 := hW.cell 0
        clear hW hap hib x3
        go_wp2_with fail
        go_ret2
        exact ⟨rfl, HR.out, hg⟩
  · obtain rfl : ok = false := by simpa using h1
    have HD := hide (show rL l e = (0, false, l1, e1) by rw [hdef.out, if_pos rfl])
    clear hdef hok
    rw [HD.out]
    go_enter Try.func40, Try.ntmps40
    go_wp2_with fail
    refine hr.out.mono ?_
    rintro en w1 ⟨rfl, hR, hg⟩
    have HR := hide hR
    clear hR
    go_wp2_with fail
    go_ret2
    exact ⟨rfl, HR.out, hg⟩

/-- NewReader. -/
theorem newReader_any (v : Value) (l : List Int) (w : World) (hv : Rd w .u8 v l) (hl : l.length ≤ 1000000) :
    Calls Try.prog 17 #[v] w fun en w' => ∃ g, en = .returned (.pointer (some ⟨g, 0, none⟩)) ∧ RdrAt w' g (w.heap.size, g) l 0 ∧ Below w.heap.size w w' ∧ w.heap.size ≤ g := by
  go_enter Try.func17, Try.ntmps17
  go_wp2_with fail
  refine (grown_any v l 0 w hv (by omega) (by omega) hl).mono ?_
  rintro en w1 ⟨v1, rfl, ho1, hb1⟩
  obtain ⟨A, c, e1, hr⟩ := ho1.rd
  subst e1
  have HO := hide ho1
  clear hr ho1
  go_wp2_with fail
  go_ret
  refine ⟨_, rfl, ⟨_, (Whole.new w1 _ _), HO.out.rd.alloc _, Apart.fresh HO.out (Nat.le_refl _), InB.of_own HO.out (Nat.le_refl _) (Nat.le_refl _)⟩, hb1.alloc hb1.size _, hb1.size⟩

/-- The methods of a reader that NewReader made. -/
theorem err_any (g : Nat) (B : Nat × Nat) (l : List Int) (e : Int) (w : World) (h : RdrAt w g B l e) :
    Calls Try.prog 26 #[.pointer (some ⟨g, 0, none⟩)] w fun en w' => en = .returned (.int .i64 e) ∧ w = w' := by
  have HV := hide (valid_yes g B l e w h)
  obtain ⟨rv, hw, _, _, _⟩ := h
  have c1 := hw.cell 1
  clear hw
  go_enter Try.func26, Try.ntmps26
  go_wp2_with (go_at_call 34; refine HV.out.mono ?_; rintro en w' ⟨rfl, rfl⟩)
  go_ret
  exact ⟨rfl, rfl⟩
theorem len_any (g : Nat) (B : Nat × Nat) (l : List Int) (e : Int) (w : World) (h : RdrAt w g B l e) :
    Calls Try.prog 28 #[.pointer (some ⟨g, 0, none⟩)] w fun en w' => en = .returned (.int .i64 l.length) ∧ w = w' := by
  have HV := hide (valid_yes g B l e w h)
  obtain ⟨rv, hw, ⟨A, c, rfl, _, _, _⟩, _, _⟩ := h
  have c0 := hw.cell 0
  clear hw
  go_enter Try.func28, Try.ntmps28
  go_wp2_with (go_at_call 34; refine HV.out.mono ?_; rintro en w' ⟨rfl, rfl⟩)
  go_ret
  exact ⟨rfl, rfl⟩
theorem int_any (g : Nat) (B : Nat × Nat) (l : List Int) (e : Int) (w : World) (h : RdrAt w g B l e) (hl : Bytes l) :
    Calls Try.prog 19 #[.pointer (some ⟨g, 0, none⟩)] w fun en w' => en = .returned (.int .i64 (rI l e).1) ∧ RdrAt w' g B (rI l e).2.2.1 (rI l e).2.2.2 ∧ w.grownBy w' (some g) := by
  have HV := hide (valid_yes g B l e w h)
  have HI := hide (readInt_any g B l e w h hl)
  clear h
  go_enter Try.func19, Try.ntmps19
  go_wp2_with (first | (go_at_call 34; refine HV.out.mono ?_; rintro en w' ⟨rfl, rfl⟩) | (go_at_call 35; refine HI.out.mono ?_; rintro en w' ⟨rfl, hr, hg⟩; have HR := hide hr; clear hr))
  go_ret
  exact ⟨rfl, HR.out, hg⟩
end Go.Proofs.Ytckpjeheodbfaab

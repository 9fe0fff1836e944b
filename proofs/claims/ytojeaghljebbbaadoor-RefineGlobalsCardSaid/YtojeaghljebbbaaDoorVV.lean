/-
  Layer 11 (value): Valid of the program.
-/
import Derived.Test.YtojeaghljebbbaaDoorVP
namespace Go.Proofs.YtojeaghljebbbaaDoor
open Go.RowKit

theorem lanet_at {t lt : Int} (h : laneT t = lt) (w : World) : Calls Tryd.prog 37 #[.int .i64 t] w fun e w' => e = .returned (.int .i64 lt) ∧ w = w' := by
  subst h; exact lanet_any t w
theorem vlane_at {t : Int} {l : LaneD} {k : Bool} (h : okLane t l = k) (w : World) (hT : Tab w) : Calls Tryd.prog 51 #[.int .i64 t, .agg #[.int .i64 l.n, .bool l.p, .bool l.u]] w fun e w' => e = .returned (.bool k) ∧ Below w.heap.size w w' := by
  subst h; exact vlane_any t l.n l.p l.u w hT

set_option maxRecDepth 100000 in
set_option maxHeartbeats 8000000 in
theorem valid_n (t o : Int) (a b c d : LaneD) (w : World) (hT : Tab w) (n : Int) (hn : numL t = n) (hn4 : n = 0 ∨ n = 1 ∨ n = 2 ∨ n = 4) :
    Calls Tryd.prog 43 #[.agg #[.int .i64 t, .int .i64 o, .int .i64 a.n, .bool a.p, .bool a.u, .int .i64 b.n, .bool b.p, .bool b.u, .int .i64 c.n, .bool c.p, .bool c.u, .int .i64 d.n, .bool d.p, .bool d.u]] w fun e w' => e = .returned (.bool (validB t o a b c d)) ∧ Below w.heap.size w w' := by
  obtain ⟨q, hq⟩ : ∃ q, w.heap.size = q := ⟨_, rfl⟩
  obtain ⟨w1, hw1⟩ : ∃ x, w.alloc (.cells #[.int .i64 t, .int .i64 o, .int .i64 a.n, .bool a.p, .bool a.u, .int .i64 b.n, .bool b.p, .bool b.u, .int .i64 c.n, .bool c.p, .bool c.u, .int .i64 d.n, .bool d.p, .bool d.u] 27) = x := ⟨_, rfl⟩
  have hs1 : w1.heap.size = q + 1 := by rw [← hw1, World.size_alloc, hq]
  have hR1 : Whole w1 q 27 (vc t o a b c d) := by rw [← hw1, ← hq]; exact Whole.new w _ _
  have hb1 : Below q w w1 := by rw [← hw1, ← hq]; exact (Below.refl _ _).alloc (Nat.le_refl _) _
  have HT1 := hide (hT.below (by rw [hq]; exact hb1))
  have HR := hide hR1
  have HB := hide hb1
  have HN := hide hn
  have c0 : w1.cell? ⟨q, 0, none⟩ = some (.int .i64 t) := hR1.cell 0
  have HS1 := hide hs1
  obtain ⟨r0, r1, r2, r3, r4, r5, r6, r7, r8, r9, r10, r11, r12, r13⟩ := vc_cells hR1
  clear hR1 hb1 hT hn r0
  go_enter Tryd.func43, Tryd.ntmps43
  go_wp2_with fail
  refine (lanes_any _ _).mono ?_
  rintro en w' ⟨rfl, rfl⟩
  rw [HN.out]
  go_wp2_with fail
  clear r1 r2 r3 r4 r5 r6 r7 r8 r9 r10 r11 r12 r13 c0 hw1 hs1
  go_loopw [11] (fun z wr => ∃ i : Nat, i ≤ 4 ∧ z = .int .i64 (i : Nat) ∧ Hid (oks t a b c d i = true) ∧ Hid (Below w1.heap.size w1 wr)) (fun z _ => 4 - (intOf z).toNat)
  case atStart => exact ⟨0, by omega, rfl, hide rfl, hide (Below.refl _ _)⟩
  case round =>
    obtain ⟨wq, rfl⟩ : ∃ x, x = wr := ⟨_, rfl⟩
    obtain ⟨i, hi, rfl, HO, HF⟩ := hrel
    have HTQ := hide (HT1.out.below HF.out)
    have hRQ := HR.out.below' HF.out
    have hqs : q + 1 ≤ wq.heap.size := by have h1 := HF.out.size; rw [HS1.out] at h1; exact h1
    have HBQ : Hid (Below q w wq) := hide (HB.out.trans (HF.out.mono (by rw [HS1.out]; omega)))
    obtain ⟨c0, c1, c2, c3, c4, c5, c6, c7, c8, c9, c10, c11, c12, c13⟩ := vc_cells hRQ
    by_cases hlt : i < 4
    · obtain ⟨l, hl⟩ : ∃ l, [a, b, c, d][i]? = some l := ⟨_, List.getElem?_eq_getElem hlt⟩
      have HG : Hid (oks t a b c d (i + 1) = okAt t i l) := hide (by rw [oks_succ t a b c d i l hl, HO.out, Bool.true_and])
      have hix : ∀ W, Sem.run Tryd.prog (Instr.index 25 (.agg #[.int .i64 a.n, .bool a.p, .bool a.u, .int .i64 b.n, .bool b.p, .bool b.u, .int .i64 c.n, .bool c.p, .bool c.u, .int .i64 d.n, .bool d.p, .bool d.u]) (.int .i64 (i : Nat))) W = .ok (.agg #[.int .i64 l.n, .bool l.p, .bool l.u]) W := by
        intro W
        rcases (show i = 0 ∨ i = 1 ∨ i = 2 ∨ i = 3 by omega) with rfl | rfl | rfl | rfl
        · injection hl with hl; subst hl; kernel_rfl
        · injection hl with hl; subst hl; kernel_rfl
        · injection hl with hl; subst hl; kernel_rfl
        · injection hl with hl; subst hl; kernel_rfl
      obtain ⟨sq, hsq⟩ : ∃ s, wq.heap.size = s := ⟨_, rfl⟩
      have hlt' : (i : Int) < 4 := by omega
      clear hl HO
      by_cases hin : (i : Int) < n
      · have HOK : Hid (okAt t i l = okLane (laneT t) l) := hide (by unfold okAt; rw [if_pos (by rw [HN.out]; exact hin)])
        have t1 : decide ((i : Int) < n) = true := decide_eq_true hin
        have t2 : decide ((i : Int) ≥ n) = false := decide_eq_false (by omega)
        have t3 : decide (n ≤ (i : Int)) = false := decide_eq_false (by omega)
        clear hin
        obtain ⟨lt, hlt⟩ : ∃ x, laneT t = x := ⟨_, rfl⟩
        rw [hlt] at HOK
        obtain ⟨kb, hkb⟩ : ∃ k, okLane lt l = k := ⟨_, rfl⟩
        have HOKF : Hid (okAt t i l = kb) := hide (by rw [HOK.out, hkb])
        have HL1 := hide (fun W => lanet_at (t := t) (lt := lt) hlt W)
        have HL2 := hide (fun W hT => vlane_at (t := lt) (l := l) hkb W hT)
        clear hlt hkb HOK
        cases kb
        rotate_left
        · go_wp2_with fail
          obtain ⟨wa, hwa⟩ : ∃ x, wq.alloc (.cells #[.int .i64 l.n, .bool l.p, .bool l.u] 24) = x := ⟨_, rfl⟩
          rw [hwa]
          have hbA : Below wq.heap.size wq wa := by rw [← hwa]; exact (Below.refl _ _).alloc (Nat.le_refl _) _
          have hL : Whole wa sq 24 #[.int .i64 l.n, .bool l.p, .bool l.u] := by rw [← hwa, ← hsq]; exact Whole.new wq _ _
          have l0 : wa.cell? ⟨sq, 0, none⟩ = some (.int .i64 l.n) := hL.cell 0
          have l1 : wa.cell? ⟨sq, 1, none⟩ = some (.bool l.p) := hL.cell 1
          have l2 : wa.cell? ⟨sq, 2, none⟩ = some (.bool l.u) := hL.cell 2
          have k0 : wa.cell? ⟨q, 0, none⟩ = some (.int .i64 t) := (hRQ.below' hbA).cell 0
          have HTA := hide (HTQ.out.below hbA)
          have HBX : Hid (Below w1.heap.size w1 wa) := hide (HF.out.trans (hbA.mono HF.out.size))
          have HBQA : Hid (Below q w wa) := hide (HBQ.out.trans (hbA.mono (by omega)))
          clear hL hwa hsq hbA
          have cc := And.intro k0 (And.intro l0 (And.intro l1 l2))
          have hsz : q ≤ wa.heap.size := by have := HBQA.out.size; omega
          refine wp_region_held_drew (S := (fun w' => w'.cell? ⟨q, 0, none⟩ = some (.int .i64 t) ∧ w'.cell? ⟨sq, 0, none⟩ = some (.int .i64 l.n) ∧ w'.cell? ⟨sq, 1, none⟩ = some (.bool l.p) ∧ w'.cell? ⟨sq, 2, none⟩ = some (.bool l.u))) (by kernel_rfl) ?_ (fun hHeld => ?_)
          · exact cc
          refine wpAnyH_take (i := 0) (oi := { dst := some 15, op := Op.move (Operand.tmp 4), type := 3, pos := "value.go:81", after := #[], guard := none }) (v := ?v1x0) rfl (by kernel_rfl) (by kernel_rfl) (by kernel_rfl) (fun _ _ _ h => h) (Or.inl ⟨by rfl, ?hy1x0⟩) (by assumption) ?rest1x0
          case hy1x0 => (intro w hSw; (try dsimp only at hSw); (first | (go_simp; done) | (go_simp; with_reducible rfl)))
          (try simp only [Act.put, List.setIfInBounds_toArray, List.set_cons_zero, List.set_cons_succ])
          refine wpAnyH_take (i := 1) (oi := { dst := some 16, op := Op.move (Operand.tmp 3), type := 3, pos := "value.go:81", after := #[], guard := none }) (v := ?v1x1) rfl (by kernel_rfl) (by kernel_rfl) (by kernel_rfl) (fun _ _ _ h => h) (Or.inl ⟨by rfl, ?hy1x1⟩) (by assumption) ?rest1x1
          case hy1x1 => (intro w hSw; (try dsimp only at hSw); (first | (go_simp; done) | (go_simp; with_reducible rfl)))
          (try simp only [Act.put, List.setIfInBounds_toArray, List.set_cons_zero, List.set_cons_succ])
          refine wpAnyH_take (i := 2) (oi := { dst := some 17, op := Op.binOp BinOp.lss 3 (Operand.tmp 15) (Operand.tmp 16) 3, type := 4, pos := "value.go:81", after := #[{ on := 0, ground := Ground.data }, { on := 1, ground := Ground.data }], guard := none }) (v := ?v1x2) rfl (by kernel_rfl) (by kernel_rfl) (by kernel_rfl) (fun _ _ _ h => h) (Or.inl ⟨by rfl, ?hy1x2⟩) (by assumption) ?rest1x2
          case hy1x2 => (intro w hSw; (try dsimp only at hSw); (first | (go_simp; done) | (go_simp; with_reducible rfl)))
          (try simp only [Act.put, List.setIfInBounds_toArray, List.set_cons_zero, List.set_cons_succ])
          refine wpAnyH_take (i := 3) (oi := { dst := some 18, op := Op.move (Operand.tmp 17), type := 4, pos := "value.go:81", after := #[{ on := 2, ground := Ground.data }], guard := none }) (v := ?v1x3) rfl (by kernel_rfl) (by kernel_rfl) (by kernel_rfl) (fun _ _ _ h => h) (Or.inl ⟨by rfl, ?hy1x3⟩) (by assumption) ?rest1x3
          case hy1x3 => (intro w hSw; (try dsimp only at hSw); (first | (go_simp; done) | (go_simp; with_reducible rfl)))
          (try simp only [Act.put, List.setIfInBounds_toArray, List.set_cons_zero, List.set_cons_succ])
          refine wpAnyH_take (i := 4) (oi := { dst := some 19, op := Op.fieldAddr 27 (Operand.tmp 1) 0, type := 0, pos := "value.go:81", after := #[{ on := 3, ground := Ground.guard }], guard := some (3, true) }) (v := ?v1x4) rfl (by kernel_rfl) (by kernel_rfl) (by kernel_rfl) (fun _ _ _ h => h) (Or.inl ⟨by rfl, ?hy1x4⟩) (by assumption) ?rest1x4
          case hy1x4 => (intro w hSw; (try dsimp only at hSw); (first | (go_simp; done) | (go_simp; with_reducible rfl)))
          (try simp only [Act.put, List.setIfInBounds_toArray, List.set_cons_zero, List.set_cons_succ])
          refine wpAnyH_take (i := 5) (oi := { dst := some 20, op := Op.load 22 (Operand.tmp 19), type := 22, pos := "value.go:81", after := #[{ on := 4, ground := Ground.data }, { on := 3, ground := Ground.guard }], guard := some (3, true) }) (v := ?v1x5) rfl (by kernel_rfl) (by kernel_rfl) (by kernel_rfl) (fun _ _ _ h => h) (Or.inl ⟨by rfl, ?hy1x5⟩) (by assumption) ?rest1x5
          case hy1x5 => (intro w hSw; (try dsimp only at hSw); (first | (go_simp; done) | (go_simp; with_reducible rfl)))
          (try simp only [Act.put, List.setIfInBounds_toArray, List.set_cons_zero, List.set_cons_succ])
          refine wpAnyH_take (i := 7) (oi := { dst := some 22, op := Op.load 24 (Operand.tmp 5), type := 24, pos := "value.go:81", after := #[{ on := 3, ground := Ground.guard }], guard := some (3, true) }) (v := ?v1x7) rfl (by kernel_rfl) (by kernel_rfl) (by kernel_rfl) (fun _ _ _ h => h) (Or.inl ⟨by rfl, ?hy1x7⟩) (by assumption) ?rest1x7
          case hy1x7 => (intro w hSw; (try dsimp only at hSw); (first | (go_simp; done) | (go_simp; with_reducible rfl)))
          (try simp only [Act.put, List.setIfInBounds_toArray, List.set_cons_zero, List.set_cons_succ])
          refine wpAnyH_ready (rs := [6]) (by kernel_rfl) (by simp) ?_
          refine AllReadyH.cons (o := { dst := some 21, op := Op.call { callee := Callee.value (Operand.func 37), args := #[Operand.tmp 20], argTypes := #[22] }, type := 22, pos := "value.go:81", after := #[{ on := 5, ground := Ground.data }, { on := 3, ground := Ground.chain }, { on := 3, ground := Ground.guard }], guard := some (3, true) }) rfl (fun K hK => ?_) AllReadyH.nil
          go_simp
          go_at_call 37; refine (HL1.out _).mono ?_; rintro en wx ⟨rfl, rfl⟩
          (try go_wp2_with fail)
          refine hK.out _ _ ?_ (fun hHeld => ?_)
          · exact cc
          clear hK K
          (try simp only [Act.put, List.setIfInBounds_toArray, List.set_cons_zero, List.set_cons_succ])
          refine wpAnyH_ready (rs := [8]) (by kernel_rfl) (by simp) ?_
          refine AllReadyH.cons (o := { dst := some 23, op := Op.call { callee := Callee.value (Operand.func 51), args := #[Operand.tmp 21, Operand.tmp 22], argTypes := #[22, 24] }, type := 4, pos := "value.go:81", after := #[{ on := 6, ground := Ground.data }, { on := 7, ground := Ground.data }, { on := 6, ground := Ground.chain }, { on := 3, ground := Ground.guard }], guard := some (3, true) }) rfl (fun K hK => ?_) AllReadyH.nil
          go_simp
          go_at_call 51; refine (HL2.out _ (by exact ⟨HTA.out.c0, HTA.out.c1, HTA.out.c2, HTA.out.c3, HTA.out.c4⟩)).mono ?_; rintro en wb ⟨rfl, hbb⟩; replace hbb : Below wa.heap.size wa wb := ⟨hbb.os, hbb.tape, hbb.output, hbb.size, hbb.block⟩; have HBY := hide (HBX.out.trans (hbb.mono HBX.out.size)); have HBE := hide (HBQA.out.trans (hbb.mono hsz)); replace cc := And.intro ((hbb.cell (p := ⟨q, 0, none⟩) (lt_of_cell k0)).trans k0) (And.intro ((hbb.cell (p := ⟨sq, 0, none⟩) (lt_of_cell l0)).trans l0) (And.intro ((hbb.cell (p := ⟨sq, 1, none⟩) (lt_of_cell l1)).trans l1) ((hbb.cell (p := ⟨sq, 2, none⟩) (lt_of_cell l2)).trans l2))); clear hbb
          (try go_wp2_with fail)
          refine hK.out _ _ ?_ (fun hHeld => ?_)
          · exact cc
          clear hK K
          (try simp only [Act.put, List.setIfInBounds_toArray, List.set_cons_zero, List.set_cons_succ])
          refine wpAnyH_take (i := 9) (oi := { dst := some 24, op := Op.unOp UnOp.not 4 (Operand.tmp 23), type := 4, pos := "value.go:81", after := #[{ on := 8, ground := Ground.data }, { on := 3, ground := Ground.guard }], guard := some (3, true) }) (v := ?v1x9) rfl (by kernel_rfl) (by kernel_rfl) (by kernel_rfl) (fun _ _ _ h => h) (Or.inl ⟨by rfl, ?hy1x9⟩) (by assumption) ?rest1x9
          case hy1x9 => (intro w hSw; (try dsimp only at hSw); (first | (go_simp; done) | (go_simp; with_reducible rfl)))
          (try simp only [Act.put, List.setIfInBounds_toArray, List.set_cons_zero, List.set_cons_succ])
          refine wpAnyH_take (i := 10) (oi := { dst := some 25, op := Op.pick (Operand.tmp 18) (Operand.tmp 24) (Operand.const (Value.bool false)), type := 4, pos := "value.go:81", after := #[{ on := 3, ground := Ground.data }, { on := 9, ground := Ground.data }], guard := none }) (v := ?v1x10) rfl (by kernel_rfl) (by kernel_rfl) (by kernel_rfl) (fun _ _ _ h => h) (Or.inl ⟨by rfl, ?hy1x10⟩) (by assumption) ?rest1x10
          case hy1x10 => (intro w hSw; (try dsimp only at hSw); (first | (go_simp; done) | (go_simp; with_reducible rfl)))
          (try simp only [Act.put, List.setIfInBounds_toArray, List.set_cons_zero, List.set_cons_succ])
          refine wpAnyH_take (i := 11) (oi := { dst := some 26, op := Op.move (Operand.tmp 25), type := 4, pos := "value.go:81", after := #[{ on := 10, ground := Ground.data }, { on := 8, ground := Ground.chain }], guard := none }) (v := ?v1x11) rfl (by kernel_rfl) (by kernel_rfl) (by kernel_rfl) (fun _ _ _ h => h) (Or.inl ⟨by rfl, ?hy1x11⟩) (by assumption) ?rest1x11
          case hy1x11 => (intro w hSw; (try dsimp only at hSw); (first | (go_simp; done) | (go_simp; with_reducible rfl)))
          (try simp only [Act.put, List.setIfInBounds_toArray, List.set_cons_zero, List.set_cons_succ])
          refine wpAnyH_take (i := 12) (oi := { dst := some 27, op := Op.move (Operand.tmp 4), type := 3, pos := "value.go:81", after := #[{ on := 11, ground := Ground.guard }], guard := some (11, false) }) (v := ?v1x12) rfl (by kernel_rfl) (by kernel_rfl) (by kernel_rfl) (fun _ _ _ h => h) (Or.inl ⟨by rfl, ?hy1x12⟩) (by assumption) ?rest1x12
          case hy1x12 => (intro w hSw; (try dsimp only at hSw); (first | (go_simp; done) | (go_simp; with_reducible rfl)))
          (try simp only [Act.put, List.setIfInBounds_toArray, List.set_cons_zero, List.set_cons_succ])
          refine wpAnyH_take (i := 13) (oi := { dst := some 28, op := Op.move (Operand.tmp 3), type := 3, pos := "value.go:81", after := #[{ on := 11, ground := Ground.guard }], guard := some (11, false) }) (v := ?v1x13) rfl (by kernel_rfl) (by kernel_rfl) (by kernel_rfl) (fun _ _ _ h => h) (Or.inl ⟨by rfl, ?hy1x13⟩) (by assumption) ?rest1x13
          case hy1x13 => (intro w hSw; (try dsimp only at hSw); (first | (go_simp; done) | (go_simp; with_reducible rfl)))
          (try simp only [Act.put, List.setIfInBounds_toArray, List.set_cons_zero, List.set_cons_succ])
          refine wpAnyH_take (i := 14) (oi := { dst := some 29, op := Op.binOp BinOp.geq 3 (Operand.tmp 27) (Operand.tmp 28) 3, type := 4, pos := "value.go:81", after := #[{ on := 12, ground := Ground.data }, { on := 13, ground := Ground.data }, { on := 11, ground := Ground.guard }], guard := some (11, false) }) (v := ?v1x14) rfl (by kernel_rfl) (by kernel_rfl) (by kernel_rfl) (fun _ _ _ h => h) (Or.inl ⟨by rfl, ?hy1x14⟩) (by assumption) ?rest1x14
          case hy1x14 => (intro w hSw; (try dsimp only at hSw); (first | (go_simp; done) | (go_simp; with_reducible rfl)))
          (try simp only [Act.put, List.setIfInBounds_toArray, List.set_cons_zero, List.set_cons_succ])
          refine wpAnyH_take (i := 15) (oi := { dst := some 30, op := Op.move (Operand.tmp 29), type := 4, pos := "value.go:81", after := #[{ on := 14, ground := Ground.data }, { on := 11, ground := Ground.chain }, { on := 11, ground := Ground.guard }], guard := some (11, false) }) (v := ?v1x15) rfl (by kernel_rfl) (by kernel_rfl) (by kernel_rfl) (fun _ _ _ h => h) (Or.inl ⟨by rfl, ?hy1x15⟩) (by assumption) ?rest1x15
          case hy1x15 => (intro w hSw; (try dsimp only at hSw); (first | (go_simp; done) | (go_simp; with_reducible rfl)))
          (try simp only [Act.put, List.setIfInBounds_toArray, List.set_cons_zero, List.set_cons_succ])
          refine wpAnyH_take (i := 16) (oi := { dst := some 31, op := Op.load 24 (Operand.tmp 5), type := 24, pos := "value.go:81", after := #[{ on := 15, ground := Ground.guard }], guard := some (15, true) }) (v := undef) rfl (by kernel_rfl) (by kernel_rfl) (by kernel_rfl) (fun _ _ _ h => h) (Or.inr ⟨by rfl, rfl⟩) (by assumption) ?_
          (try simp only [Act.put, List.setIfInBounds_toArray, List.set_cons_zero, List.set_cons_succ])
          refine wpAnyH_take (i := 17) (oi := { dst := some 32, op := Op.build 24 #[], type := 24, pos := "value.go:81", after := #[{ on := 15, ground := Ground.guard }], guard := some (15, true) }) (v := undef) rfl (by kernel_rfl) (by kernel_rfl) (by kernel_rfl) (fun _ _ _ h => h) (Or.inr ⟨by rfl, rfl⟩) (by assumption) ?_
          (try simp only [Act.put, List.setIfInBounds_toArray, List.set_cons_zero, List.set_cons_succ])
          refine wpAnyH_take (i := 18) (oi := { dst := some 33, op := Op.binOp BinOp.neq 24 (Operand.tmp 31) (Operand.tmp 32) 24, type := 4, pos := "value.go:81", after := #[{ on := 16, ground := Ground.data }, { on := 17, ground := Ground.data }, { on := 15, ground := Ground.guard }], guard := some (15, true) }) (v := undef) rfl (by kernel_rfl) (by kernel_rfl) (by kernel_rfl) (fun _ _ _ h => h) (Or.inr ⟨by rfl, rfl⟩) (by assumption) ?_
          (try simp only [Act.put, List.setIfInBounds_toArray, List.set_cons_zero, List.set_cons_succ])
          refine wpAnyH_take (i := 19) (oi := { dst := some 34, op := Op.pick (Operand.tmp 30) (Operand.tmp 33) (Operand.const (Value.bool false)), type := 4, pos := "value.go:81", after := #[{ on := 15, ground := Ground.data }, { on := 18, ground := Ground.data }, { on := 11, ground := Ground.guard }], guard := some (11, false) }) (v := ?v1x19) rfl (by kernel_rfl) (by kernel_rfl) (by kernel_rfl) (fun _ _ _ h => h) (Or.inl ⟨by rfl, ?hy1x19⟩) (by assumption) ?rest1x19
          case hy1x19 => (intro w hSw; (try dsimp only at hSw); (first | (go_simp; done) | (go_simp; with_reducible rfl)))
          (try simp only [Act.put, List.setIfInBounds_toArray, List.set_cons_zero, List.set_cons_succ])
          refine wpAnyH_take (i := 20) (oi := { dst := some 35, op := Op.pick (Operand.tmp 26) (Operand.const (Value.bool true)) (Operand.tmp 34), type := 4, pos := "value.go:81", after := #[{ on := 11, ground := Ground.data }, { on := 19, ground := Ground.data }], guard := none }) (v := ?v1x20) rfl (by kernel_rfl) (by kernel_rfl) (by kernel_rfl) (fun _ _ _ h => h) (Or.inl ⟨by rfl, ?hy1x20⟩) (by assumption) ?rest1x20
          case hy1x20 => (intro w hSw; (try dsimp only at hSw); (first | (go_simp; done) | (go_simp; with_reducible rfl)))
          (try simp only [Act.put, List.setIfInBounds_toArray, List.set_cons_zero, List.set_cons_succ])
          refine wpAnyH_done (by kernel_rfl) ?_ _
          all_goals
            go_wp2_with fail
            go_roundw
            case rel => exact ⟨i + 1, by omega, by go_num, hide (by rw [HG.out]; exact HOKF.out), HBY⟩
            case measure => simp [intOf]; omega
        · go_wp2_with fail
          obtain ⟨wa, hwa⟩ : ∃ x, wq.alloc (.cells #[.int .i64 l.n, .bool l.p, .bool l.u] 24) = x := ⟨_, rfl⟩
          rw [hwa]
          have hbA : Below wq.heap.size wq wa := by rw [← hwa]; exact (Below.refl _ _).alloc (Nat.le_refl _) _
          have hL : Whole wa sq 24 #[.int .i64 l.n, .bool l.p, .bool l.u] := by rw [← hwa, ← hsq]; exact Whole.new wq _ _
          have l0 : wa.cell? ⟨sq, 0, none⟩ = some (.int .i64 l.n) := hL.cell 0
          have l1 : wa.cell? ⟨sq, 1, none⟩ = some (.bool l.p) := hL.cell 1
          have l2 : wa.cell? ⟨sq, 2, none⟩ = some (.bool l.u) := hL.cell 2
          have k0 : wa.cell? ⟨q, 0, none⟩ = some (.int .i64 t) := (hRQ.below' hbA).cell 0
          have HTA := hide (HTQ.out.below hbA)
          have HBX : Hid (Below w1.heap.size w1 wa) := hide (HF.out.trans (hbA.mono HF.out.size))
          have HBQA : Hid (Below q w wa) := hide (HBQ.out.trans (hbA.mono (by omega)))
          clear hL hwa hsq hbA
          have cc := And.intro k0 (And.intro l0 (And.intro l1 l2))
          have hsz : q ≤ wa.heap.size := by have := HBQA.out.size; omega
          refine wp_region_held_drew (S := (fun w' => w'.cell? ⟨q, 0, none⟩ = some (.int .i64 t) ∧ w'.cell? ⟨sq, 0, none⟩ = some (.int .i64 l.n) ∧ w'.cell? ⟨sq, 1, none⟩ = some (.bool l.p) ∧ w'.cell? ⟨sq, 2, none⟩ = some (.bool l.u))) (by kernel_rfl) ?_ (fun hHeld => ?_)
          · exact cc
          refine wpAnyH_take (i := 0) (oi := { dst := some 15, op := Op.move (Operand.tmp 4), type := 3, pos := "value.go:81", after := #[], guard := none }) (v := ?v2x0) rfl (by kernel_rfl) (by kernel_rfl) (by kernel_rfl) (fun _ _ _ h => h) (Or.inl ⟨by rfl, ?hy2x0⟩) (by assumption) ?rest2x0
          case hy2x0 => (intro w hSw; (try dsimp only at hSw); (first | (go_simp; done) | (go_simp; with_reducible rfl)))
          (try simp only [Act.put, List.setIfInBounds_toArray, List.set_cons_zero, List.set_cons_succ])
          refine wpAnyH_take (i := 1) (oi := { dst := some 16, op := Op.move (Operand.tmp 3), type := 3, pos := "value.go:81", after := #[], guard := none }) (v := ?v2x1) rfl (by kernel_rfl) (by kernel_rfl) (by kernel_rfl) (fun _ _ _ h => h) (Or.inl ⟨by rfl, ?hy2x1⟩) (by assumption) ?rest2x1
          case hy2x1 => (intro w hSw; (try dsimp only at hSw); (first | (go_simp; done) | (go_simp; with_reducible rfl)))
          (try simp only [Act.put, List.setIfInBounds_toArray, List.set_cons_zero, List.set_cons_succ])
          refine wpAnyH_take (i := 2) (oi := { dst := some 17, op := Op.binOp BinOp.lss 3 (Operand.tmp 15) (Operand.tmp 16) 3, type := 4, pos := "value.go:81", after := #[{ on := 0, ground := Ground.data }, { on := 1, ground := Ground.data }], guard := none }) (v := ?v2x2) rfl (by kernel_rfl) (by kernel_rfl) (by kernel_rfl) (fun _ _ _ h => h) (Or.inl ⟨by rfl, ?hy2x2⟩) (by assumption) ?rest2x2
          case hy2x2 => (intro w hSw; (try dsimp only at hSw); (first | (go_simp; done) | (go_simp; with_reducible rfl)))
          (try simp only [Act.put, List.setIfInBounds_toArray, List.set_cons_zero, List.set_cons_succ])
          refine wpAnyH_take (i := 3) (oi := { dst := some 18, op := Op.move (Operand.tmp 17), type := 4, pos := "value.go:81", after := #[{ on := 2, ground := Ground.data }], guard := none }) (v := ?v2x3) rfl (by kernel_rfl) (by kernel_rfl) (by kernel_rfl) (fun _ _ _ h => h) (Or.inl ⟨by rfl, ?hy2x3⟩) (by assumption) ?rest2x3
          case hy2x3 => (intro w hSw; (try dsimp only at hSw); (first | (go_simp; done) | (go_simp; with_reducible rfl)))
          (try simp only [Act.put, List.setIfInBounds_toArray, List.set_cons_zero, List.set_cons_succ])
          refine wpAnyH_take (i := 4) (oi := { dst := some 19, op := Op.fieldAddr 27 (Operand.tmp 1) 0, type := 0, pos := "value.go:81", after := #[{ on := 3, ground := Ground.guard }], guard := some (3, true) }) (v := ?v2x4) rfl (by kernel_rfl) (by kernel_rfl) (by kernel_rfl) (fun _ _ _ h => h) (Or.inl ⟨by rfl, ?hy2x4⟩) (by assumption) ?rest2x4
          case hy2x4 => (intro w hSw; (try dsimp only at hSw); (first | (go_simp; done) | (go_simp; with_reducible rfl)))
          (try simp only [Act.put, List.setIfInBounds_toArray, List.set_cons_zero, List.set_cons_succ])
          refine wpAnyH_take (i := 5) (oi := { dst := some 20, op := Op.load 22 (Operand.tmp 19), type := 22, pos := "value.go:81", after := #[{ on := 4, ground := Ground.data }, { on := 3, ground := Ground.guard }], guard := some (3, true) }) (v := ?v2x5) rfl (by kernel_rfl) (by kernel_rfl) (by kernel_rfl) (fun _ _ _ h => h) (Or.inl ⟨by rfl, ?hy2x5⟩) (by assumption) ?rest2x5
          case hy2x5 => (intro w hSw; (try dsimp only at hSw); (first | (go_simp; done) | (go_simp; with_reducible rfl)))
          (try simp only [Act.put, List.setIfInBounds_toArray, List.set_cons_zero, List.set_cons_succ])
          refine wpAnyH_take (i := 7) (oi := { dst := some 22, op := Op.load 24 (Operand.tmp 5), type := 24, pos := "value.go:81", after := #[{ on := 3, ground := Ground.guard }], guard := some (3, true) }) (v := ?v2x7) rfl (by kernel_rfl) (by kernel_rfl) (by kernel_rfl) (fun _ _ _ h => h) (Or.inl ⟨by rfl, ?hy2x7⟩) (by assumption) ?rest2x7
          case hy2x7 => (intro w hSw; (try dsimp only at hSw); (first | (go_simp; done) | (go_simp; with_reducible rfl)))
          (try simp only [Act.put, List.setIfInBounds_toArray, List.set_cons_zero, List.set_cons_succ])
          refine wpAnyH_ready (rs := [6]) (by kernel_rfl) (by simp) ?_
          refine AllReadyH.cons (o := { dst := some 21, op := Op.call { callee := Callee.value (Operand.func 37), args := #[Operand.tmp 20], argTypes := #[22] }, type := 22, pos := "value.go:81", after := #[{ on := 5, ground := Ground.data }, { on := 3, ground := Ground.chain }, { on := 3, ground := Ground.guard }], guard := some (3, true) }) rfl (fun K hK => ?_) AllReadyH.nil
          go_simp
          go_at_call 37; refine (HL1.out _).mono ?_; rintro en wx ⟨rfl, rfl⟩
          (try go_wp2_with fail)
          refine hK.out _ _ ?_ (fun hHeld => ?_)
          · exact cc
          clear hK K
          (try simp only [Act.put, List.setIfInBounds_toArray, List.set_cons_zero, List.set_cons_succ])
          refine wpAnyH_ready (rs := [8]) (by kernel_rfl) (by simp) ?_
          refine AllReadyH.cons (o := { dst := some 23, op := Op.call { callee := Callee.value (Operand.func 51), args := #[Operand.tmp 21, Operand.tmp 22], argTypes := #[22, 24] }, type := 4, pos := "value.go:81", after := #[{ on := 6, ground := Ground.data }, { on := 7, ground := Ground.data }, { on := 6, ground := Ground.chain }, { on := 3, ground := Ground.guard }], guard := some (3, true) }) rfl (fun K hK => ?_) AllReadyH.nil
          go_simp
          go_at_call 51; refine (HL2.out _ (by exact ⟨HTA.out.c0, HTA.out.c1, HTA.out.c2, HTA.out.c3, HTA.out.c4⟩)).mono ?_; rintro en wb ⟨rfl, hbb⟩; replace hbb : Below wa.heap.size wa wb := ⟨hbb.os, hbb.tape, hbb.output, hbb.size, hbb.block⟩; have HBY := hide (HBX.out.trans (hbb.mono HBX.out.size)); have HBE := hide (HBQA.out.trans (hbb.mono hsz)); replace cc := And.intro ((hbb.cell (p := ⟨q, 0, none⟩) (lt_of_cell k0)).trans k0) (And.intro ((hbb.cell (p := ⟨sq, 0, none⟩) (lt_of_cell l0)).trans l0) (And.intro ((hbb.cell (p := ⟨sq, 1, none⟩) (lt_of_cell l1)).trans l1) ((hbb.cell (p := ⟨sq, 2, none⟩) (lt_of_cell l2)).trans l2))); clear hbb
          (try go_wp2_with fail)
          refine hK.out _ _ ?_ (fun hHeld => ?_)
          · exact cc
          clear hK K
          (try simp only [Act.put, List.setIfInBounds_toArray, List.set_cons_zero, List.set_cons_succ])
          refine wpAnyH_take (i := 9) (oi := { dst := some 24, op := Op.unOp UnOp.not 4 (Operand.tmp 23), type := 4, pos := "value.go:81", after := #[{ on := 8, ground := Ground.data }, { on := 3, ground := Ground.guard }], guard := some (3, true) }) (v := ?v2x9) rfl (by kernel_rfl) (by kernel_rfl) (by kernel_rfl) (fun _ _ _ h => h) (Or.inl ⟨by rfl, ?hy2x9⟩) (by assumption) ?rest2x9
          case hy2x9 => (intro w hSw; (try dsimp only at hSw); (first | (go_simp; done) | (go_simp; with_reducible rfl)))
          (try simp only [Act.put, List.setIfInBounds_toArray, List.set_cons_zero, List.set_cons_succ])
          refine wpAnyH_take (i := 10) (oi := { dst := some 25, op := Op.pick (Operand.tmp 18) (Operand.tmp 24) (Operand.const (Value.bool false)), type := 4, pos := "value.go:81", after := #[{ on := 3, ground := Ground.data }, { on := 9, ground := Ground.data }], guard := none }) (v := ?v2x10) rfl (by kernel_rfl) (by kernel_rfl) (by kernel_rfl) (fun _ _ _ h => h) (Or.inl ⟨by rfl, ?hy2x10⟩) (by assumption) ?rest2x10
          case hy2x10 => (intro w hSw; (try dsimp only at hSw); (first | (go_simp; done) | (go_simp; with_reducible rfl)))
          (try simp only [Act.put, List.setIfInBounds_toArray, List.set_cons_zero, List.set_cons_succ])
          refine wpAnyH_take (i := 11) (oi := { dst := some 26, op := Op.move (Operand.tmp 25), type := 4, pos := "value.go:81", after := #[{ on := 10, ground := Ground.data }, { on := 8, ground := Ground.chain }], guard := none }) (v := ?v2x11) rfl (by kernel_rfl) (by kernel_rfl) (by kernel_rfl) (fun _ _ _ h => h) (Or.inl ⟨by rfl, ?hy2x11⟩) (by assumption) ?rest2x11
          case hy2x11 => (intro w hSw; (try dsimp only at hSw); (first | (go_simp; done) | (go_simp; with_reducible rfl)))
          (try simp only [Act.put, List.setIfInBounds_toArray, List.set_cons_zero, List.set_cons_succ])
          refine wpAnyH_take (i := 12) (oi := { dst := some 27, op := Op.move (Operand.tmp 4), type := 3, pos := "value.go:81", after := #[{ on := 11, ground := Ground.guard }], guard := some (11, false) }) (v := undef) rfl (by kernel_rfl) (by kernel_rfl) (by kernel_rfl) (fun _ _ _ h => h) (Or.inr ⟨by rfl, rfl⟩) (by assumption) ?_
          (try simp only [Act.put, List.setIfInBounds_toArray, List.set_cons_zero, List.set_cons_succ])
          refine wpAnyH_take (i := 13) (oi := { dst := some 28, op := Op.move (Operand.tmp 3), type := 3, pos := "value.go:81", after := #[{ on := 11, ground := Ground.guard }], guard := some (11, false) }) (v := undef) rfl (by kernel_rfl) (by kernel_rfl) (by kernel_rfl) (fun _ _ _ h => h) (Or.inr ⟨by rfl, rfl⟩) (by assumption) ?_
          (try simp only [Act.put, List.setIfInBounds_toArray, List.set_cons_zero, List.set_cons_succ])
          refine wpAnyH_take (i := 14) (oi := { dst := some 29, op := Op.binOp BinOp.geq 3 (Operand.tmp 27) (Operand.tmp 28) 3, type := 4, pos := "value.go:81", after := #[{ on := 12, ground := Ground.data }, { on := 13, ground := Ground.data }, { on := 11, ground := Ground.guard }], guard := some (11, false) }) (v := undef) rfl (by kernel_rfl) (by kernel_rfl) (by kernel_rfl) (fun _ _ _ h => h) (Or.inr ⟨by rfl, rfl⟩) (by assumption) ?_
          (try simp only [Act.put, List.setIfInBounds_toArray, List.set_cons_zero, List.set_cons_succ])
          refine wpAnyH_take (i := 15) (oi := { dst := some 30, op := Op.move (Operand.tmp 29), type := 4, pos := "value.go:81", after := #[{ on := 14, ground := Ground.data }, { on := 11, ground := Ground.chain }, { on := 11, ground := Ground.guard }], guard := some (11, false) }) (v := undef) rfl (by kernel_rfl) (by kernel_rfl) (by kernel_rfl) (fun _ _ _ h => h) (Or.inr ⟨by rfl, rfl⟩) (by assumption) ?_
          (try simp only [Act.put, List.setIfInBounds_toArray, List.set_cons_zero, List.set_cons_succ])
          refine wpAnyH_take (i := 16) (oi := { dst := some 31, op := Op.load 24 (Operand.tmp 5), type := 24, pos := "value.go:81", after := #[{ on := 15, ground := Ground.guard }], guard := some (15, true) }) (v := undef) rfl (by kernel_rfl) (by kernel_rfl) (by kernel_rfl) (fun _ _ _ h => h) (Or.inr ⟨by rfl, rfl⟩) (by assumption) ?_
          (try simp only [Act.put, List.setIfInBounds_toArray, List.set_cons_zero, List.set_cons_succ])
          refine wpAnyH_take (i := 17) (oi := { dst := some 32, op := Op.build 24 #[], type := 24, pos := "value.go:81", after := #[{ on := 15, ground := Ground.guard }], guard := some (15, true) }) (v := undef) rfl (by kernel_rfl) (by kernel_rfl) (by kernel_rfl) (fun _ _ _ h => h) (Or.inr ⟨by rfl, rfl⟩) (by assumption) ?_
          (try simp only [Act.put, List.setIfInBounds_toArray, List.set_cons_zero, List.set_cons_succ])
          refine wpAnyH_take (i := 18) (oi := { dst := some 33, op := Op.binOp BinOp.neq 24 (Operand.tmp 31) (Operand.tmp 32) 24, type := 4, pos := "value.go:81", after := #[{ on := 16, ground := Ground.data }, { on := 17, ground := Ground.data }, { on := 15, ground := Ground.guard }], guard := some (15, true) }) (v := undef) rfl (by kernel_rfl) (by kernel_rfl) (by kernel_rfl) (fun _ _ _ h => h) (Or.inr ⟨by rfl, rfl⟩) (by assumption) ?_
          (try simp only [Act.put, List.setIfInBounds_toArray, List.set_cons_zero, List.set_cons_succ])
          refine wpAnyH_take (i := 19) (oi := { dst := some 34, op := Op.pick (Operand.tmp 30) (Operand.tmp 33) (Operand.const (Value.bool false)), type := 4, pos := "value.go:81", after := #[{ on := 15, ground := Ground.data }, { on := 18, ground := Ground.data }, { on := 11, ground := Ground.guard }], guard := some (11, false) }) (v := undef) rfl (by kernel_rfl) (by kernel_rfl) (by kernel_rfl) (fun _ _ _ h => h) (Or.inr ⟨by rfl, rfl⟩) (by assumption) ?_
          (try simp only [Act.put, List.setIfInBounds_toArray, List.set_cons_zero, List.set_cons_succ])
          refine wpAnyH_take (i := 20) (oi := { dst := some 35, op := Op.pick (Operand.tmp 26) (Operand.const (Value.bool true)) (Operand.tmp 34), type := 4, pos := "value.go:81", after := #[{ on := 11, ground := Ground.data }, { on := 19, ground := Ground.data }], guard := none }) (v := ?v2x20) rfl (by kernel_rfl) (by kernel_rfl) (by kernel_rfl) (fun _ _ _ h => h) (Or.inl ⟨by rfl, ?hy2x20⟩) (by assumption) ?rest2x20
          case hy2x20 => (intro w hSw; (try dsimp only at hSw); (first | (go_simp; done) | (go_simp; with_reducible rfl)))
          (try simp only [Act.put, List.setIfInBounds_toArray, List.set_cons_zero, List.set_cons_succ])
          refine wpAnyH_done (by kernel_rfl) ?_ _
          all_goals
            have HVF : Hid (validB t o a b c d = false) := hide (by unfold validB; rw [oks_end (i := i + 1) (by omega) (by rw [HG.out]; exact HOKF.out), Bool.and_false, Bool.false_and])
            go_wp2_with fail
            go_ret
            refine ⟨?_, by first | exact HBE.out | (rw [hq]; exact HBE.out)⟩
            rw [HVF.out]
            (try rfl)
      · have HOKF0 : Hid (okAt t i l = zeroL l) := hide (by unfold okAt; rw [if_neg (by rw [HN.out]; exact hin)])
        have t1 : decide ((i : Int) < n) = false := decide_eq_false hin
        have t2 : decide ((i : Int) ≥ n) = true := decide_eq_true (by omega)
        have t3 : decide (n ≤ (i : Int)) = true := decide_eq_true (by omega)
        clear hin
        obtain ⟨ln, lp, lu⟩ := l
        obtain ⟨z, hz⟩ : ∃ z, (ln == 0) = z := ⟨_, rfl⟩
        have HOKF : Hid (okAt t i ⟨ln, lp, lu⟩ = (!lp && !lu && z)) := hide (by rw [HOKF0.out]; unfold zeroL; rw [hz])
        have hz2 : (ln != 0) = !z := by rw [← hz]; rfl
        clear HOKF0
        cases lp <;> cases lu <;> cases z
        · go_wp2_with fail
          obtain ⟨wa, hwa⟩ : ∃ x, wq.alloc (.cells #[.int .i64 ln, .bool false, .bool false] 24) = x := ⟨_, rfl⟩
          rw [hwa]
          have hbA : Below wq.heap.size wq wa := by rw [← hwa]; exact (Below.refl _ _).alloc (Nat.le_refl _) _
          have hL : Whole wa sq 24 #[.int .i64 ln, .bool false, .bool false] := by rw [← hwa, ← hsq]; exact Whole.new wq _ _
          have l0 : wa.cell? ⟨sq, 0, none⟩ = some (.int .i64 ln) := hL.cell 0
          have l1 : wa.cell? ⟨sq, 1, none⟩ = some (.bool false) := hL.cell 1
          have l2 : wa.cell? ⟨sq, 2, none⟩ = some (.bool false) := hL.cell 2
          have k0 : wa.cell? ⟨q, 0, none⟩ = some (.int .i64 t) := (hRQ.below' hbA).cell 0
          have HTA := hide (HTQ.out.below hbA)
          have HBX : Hid (Below w1.heap.size w1 wa) := hide (HF.out.trans (hbA.mono HF.out.size))
          have HBQA : Hid (Below q w wa) := hide (HBQ.out.trans (hbA.mono (by omega)))
          clear hL hwa hsq hbA
          go_quiet (fail)
          have HBY := hide (Below.drewN' HBX.out nq)
          have HBE := hide (Below.drewN' HBQA.out nq)
          have HVF : Hid (validB t o a b c d = false) := hide (by unfold validB; rw [oks_end (i := i + 1) (by omega) (by rw [HG.out]; exact HOKF.out), Bool.and_false, Bool.false_and])
          go_wp2_with fail
          go_ret
          refine ⟨?_, by first | exact HBE.out | (rw [hq]; exact HBE.out)⟩
          rw [HVF.out]
          (try rfl)
        · go_wp2_with fail
          obtain ⟨wa, hwa⟩ : ∃ x, wq.alloc (.cells #[.int .i64 ln, .bool false, .bool false] 24) = x := ⟨_, rfl⟩
          rw [hwa]
          have hbA : Below wq.heap.size wq wa := by rw [← hwa]; exact (Below.refl _ _).alloc (Nat.le_refl _) _
          have hL : Whole wa sq 24 #[.int .i64 ln, .bool false, .bool false] := by rw [← hwa, ← hsq]; exact Whole.new wq _ _
          have l0 : wa.cell? ⟨sq, 0, none⟩ = some (.int .i64 ln) := hL.cell 0
          have l1 : wa.cell? ⟨sq, 1, none⟩ = some (.bool false) := hL.cell 1
          have l2 : wa.cell? ⟨sq, 2, none⟩ = some (.bool false) := hL.cell 2
          have k0 : wa.cell? ⟨q, 0, none⟩ = some (.int .i64 t) := (hRQ.below' hbA).cell 0
          have HTA := hide (HTQ.out.below hbA)
          have HBX : Hid (Below w1.heap.size w1 wa) := hide (HF.out.trans (hbA.mono HF.out.size))
          have HBQA : Hid (Below q w wa) := hide (HBQ.out.trans (hbA.mono (by omega)))
          clear hL hwa hsq hbA
          go_quiet (fail)
          have HBY := hide (Below.drewN' HBX.out nq)
          have HBE := hide (Below.drewN' HBQA.out nq)
          go_wp2_with fail
          go_roundw
          case rel => exact ⟨i + 1, by omega, by go_num, hide (by rw [HG.out]; exact HOKF.out), HBY⟩
          case measure => simp [intOf]; omega
        · go_wp2_with fail
          obtain ⟨wa, hwa⟩ : ∃ x, wq.alloc (.cells #[.int .i64 ln, .bool false, .bool true] 24) = x := ⟨_, rfl⟩
          rw [hwa]
          have hbA : Below wq.heap.size wq wa := by rw [← hwa]; exact (Below.refl _ _).alloc (Nat.le_refl _) _
          have hL : Whole wa sq 24 #[.int .i64 ln, .bool false, .bool true] := by rw [← hwa, ← hsq]; exact Whole.new wq _ _
          have l0 : wa.cell? ⟨sq, 0, none⟩ = some (.int .i64 ln) := hL.cell 0
          have l1 : wa.cell? ⟨sq, 1, none⟩ = some (.bool false) := hL.cell 1
          have l2 : wa.cell? ⟨sq, 2, none⟩ = some (.bool true) := hL.cell 2
          have k0 : wa.cell? ⟨q, 0, none⟩ = some (.int .i64 t) := (hRQ.below' hbA).cell 0
          have HTA := hide (HTQ.out.below hbA)
          have HBX : Hid (Below w1.heap.size w1 wa) := hide (HF.out.trans (hbA.mono HF.out.size))
          have HBQA : Hid (Below q w wa) := hide (HBQ.out.trans (hbA.mono (by omega)))
          clear hL hwa hsq hbA
          go_quiet (fail)
          have HBY := hide (Below.drewN' HBX.out nq)
          have HBE := hide (Below.drewN' HBQA.out nq)
          have HVF : Hid (validB t o a b c d = false) := hide (by unfold validB; rw [oks_end (i := i + 1) (by omega) (by rw [HG.out]; exact HOKF.out), Bool.and_false, Bool.false_and])
          go_wp2_with fail
          go_ret
          refine ⟨?_, by first | exact HBE.out | (rw [hq]; exact HBE.out)⟩
          rw [HVF.out]
          (try rfl)
        · go_wp2_with fail
          obtain ⟨wa, hwa⟩ : ∃ x, wq.alloc (.cells #[.int .i64 ln, .bool false, .bool true] 24) = x := ⟨_, rfl⟩
          rw [hwa]
          have hbA : Below wq.heap.size wq wa := by rw [← hwa]; exact (Below.refl _ _).alloc (Nat.le_refl _) _
          have hL : Whole wa sq 24 #[.int .i64 ln, .bool false, .bool true] := by rw [← hwa, ← hsq]; exact Whole.new wq _ _
          have l0 : wa.cell? ⟨sq, 0, none⟩ = some (.int .i64 ln) := hL.cell 0
          have l1 : wa.cell? ⟨sq, 1, none⟩ = some (.bool false) := hL.cell 1
          have l2 : wa.cell? ⟨sq, 2, none⟩ = some (.bool true) := hL.cell 2
          have k0 : wa.cell? ⟨q, 0, none⟩ = some (.int .i64 t) := (hRQ.below' hbA).cell 0
          have HTA := hide (HTQ.out.below hbA)
          have HBX : Hid (Below w1.heap.size w1 wa) := hide (HF.out.trans (hbA.mono HF.out.size))
          have HBQA : Hid (Below q w wa) := hide (HBQ.out.trans (hbA.mono (by omega)))
          clear hL hwa hsq hbA
          go_quiet (fail)
          have HBY := hide (Below.drewN' HBX.out nq)
          have HBE := hide (Below.drewN' HBQA.out nq)
          have HVF : Hid (validB t o a b c d = false) := hide (by unfold validB; rw [oks_end (i := i + 1) (by omega) (by rw [HG.out]; exact HOKF.out), Bool.and_false, Bool.false_and])
          go_wp2_with fail
          go_ret
          refine ⟨?_, by first | exact HBE.out | (rw [hq]; exact HBE.out)⟩
          rw [HVF.out]
          (try rfl)
        · go_wp2_with fail
          obtain ⟨wa, hwa⟩ : ∃ x, wq.alloc (.cells #[.int .i64 ln, .bool true, .bool false] 24) = x := ⟨_, rfl⟩
          rw [hwa]
          have hbA : Below wq.heap.size wq wa := by rw [← hwa]; exact (Below.refl _ _).alloc (Nat.le_refl _) _
          have hL : Whole wa sq 24 #[.int .i64 ln, .bool true, .bool false] := by rw [← hwa, ← hsq]; exact Whole.new wq _ _
          have l0 : wa.cell? ⟨sq, 0, none⟩ = some (.int .i64 ln) := hL.cell 0
          have l1 : wa.cell? ⟨sq, 1, none⟩ = some (.bool true) := hL.cell 1
          have l2 : wa.cell? ⟨sq, 2, none⟩ = some (.bool false) := hL.cell 2
          have k0 : wa.cell? ⟨q, 0, none⟩ = some (.int .i64 t) := (hRQ.below' hbA).cell 0
          have HTA := hide (HTQ.out.below hbA)
          have HBX : Hid (Below w1.heap.size w1 wa) := hide (HF.out.trans (hbA.mono HF.out.size))
          have HBQA : Hid (Below q w wa) := hide (HBQ.out.trans (hbA.mono (by omega)))
          clear hL hwa hsq hbA
          go_quiet (fail)
          have HBY := hide (Below.drewN' HBX.out nq)
          have HBE := hide (Below.drewN' HBQA.out nq)
          have HVF : Hid (validB t o a b c d = false) := hide (by unfold validB; rw [oks_end (i := i + 1) (by omega) (by rw [HG.out]; exact HOKF.out), Bool.and_false, Bool.false_and])
          go_wp2_with fail
          go_ret
          refine ⟨?_, by first | exact HBE.out | (rw [hq]; exact HBE.out)⟩
          rw [HVF.out]
          (try rfl)
        · go_wp2_with fail
          obtain ⟨wa, hwa⟩ : ∃ x, wq.alloc (.cells #[.int .i64 ln, .bool true, .bool false] 24) = x := ⟨_, rfl⟩
          rw [hwa]
          have hbA : Below wq.heap.size wq wa := by rw [← hwa]; exact (Below.refl _ _).alloc (Nat.le_refl _) _
          have hL : Whole wa sq 24 #[.int .i64 ln, .bool true, .bool false] := by rw [← hwa, ← hsq]; exact Whole.new wq _ _
          have l0 : wa.cell? ⟨sq, 0, none⟩ = some (.int .i64 ln) := hL.cell 0
          have l1 : wa.cell? ⟨sq, 1, none⟩ = some (.bool true) := hL.cell 1
          have l2 : wa.cell? ⟨sq, 2, none⟩ = some (.bool false) := hL.cell 2
          have k0 : wa.cell? ⟨q, 0, none⟩ = some (.int .i64 t) := (hRQ.below' hbA).cell 0
          have HTA := hide (HTQ.out.below hbA)
          have HBX : Hid (Below w1.heap.size w1 wa) := hide (HF.out.trans (hbA.mono HF.out.size))
          have HBQA : Hid (Below q w wa) := hide (HBQ.out.trans (hbA.mono (by omega)))
          clear hL hwa hsq hbA
          go_quiet (fail)
          have HBY := hide (Below.drewN' HBX.out nq)
          have HBE := hide (Below.drewN' HBQA.out nq)
          have HVF : Hid (validB t o a b c d = false) := hide (by unfold validB; rw [oks_end (i := i + 1) (by omega) (by rw [HG.out]; exact HOKF.out), Bool.and_false, Bool.false_and])
          go_wp2_with fail
          go_ret
          refine ⟨?_, by first | exact HBE.out | (rw [hq]; exact HBE.out)⟩
          rw [HVF.out]
          (try rfl)
        · go_wp2_with fail
          obtain ⟨wa, hwa⟩ : ∃ x, wq.alloc (.cells #[.int .i64 ln, .bool true, .bool true] 24) = x := ⟨_, rfl⟩
          rw [hwa]
          have hbA : Below wq.heap.size wq wa := by rw [← hwa]; exact (Below.refl _ _).alloc (Nat.le_refl _) _
          have hL : Whole wa sq 24 #[.int .i64 ln, .bool true, .bool true] := by rw [← hwa, ← hsq]; exact Whole.new wq _ _
          have l0 : wa.cell? ⟨sq, 0, none⟩ = some (.int .i64 ln) := hL.cell 0
          have l1 : wa.cell? ⟨sq, 1, none⟩ = some (.bool true) := hL.cell 1
          have l2 : wa.cell? ⟨sq, 2, none⟩ = some (.bool true) := hL.cell 2
          have k0 : wa.cell? ⟨q, 0, none⟩ = some (.int .i64 t) := (hRQ.below' hbA).cell 0
          have HTA := hide (HTQ.out.below hbA)
          have HBX : Hid (Below w1.heap.size w1 wa) := hide (HF.out.trans (hbA.mono HF.out.size))
          have HBQA : Hid (Below q w wa) := hide (HBQ.out.trans (hbA.mono (by omega)))
          clear hL hwa hsq hbA
          go_quiet (fail)
          have HBY := hide (Below.drewN' HBX.out nq)
          have HBE := hide (Below.drewN' HBQA.out nq)
          have HVF : Hid (validB t o a b c d = false) := hide (by unfold validB; rw [oks_end (i := i + 1) (by omega) (by rw [HG.out]; exact HOKF.out), Bool.and_false, Bool.false_and])
          go_wp2_with fail
          go_ret
          refine ⟨?_, by first | exact HBE.out | (rw [hq]; exact HBE.out)⟩
          rw [HVF.out]
          (try rfl)
        · go_wp2_with fail
          obtain ⟨wa, hwa⟩ : ∃ x, wq.alloc (.cells #[.int .i64 ln, .bool true, .bool true] 24) = x := ⟨_, rfl⟩
          rw [hwa]
          have hbA : Below wq.heap.size wq wa := by rw [← hwa]; exact (Below.refl _ _).alloc (Nat.le_refl _) _
          have hL : Whole wa sq 24 #[.int .i64 ln, .bool true, .bool true] := by rw [← hwa, ← hsq]; exact Whole.new wq _ _
          have l0 : wa.cell? ⟨sq, 0, none⟩ = some (.int .i64 ln) := hL.cell 0
          have l1 : wa.cell? ⟨sq, 1, none⟩ = some (.bool true) := hL.cell 1
          have l2 : wa.cell? ⟨sq, 2, none⟩ = some (.bool true) := hL.cell 2
          have k0 : wa.cell? ⟨q, 0, none⟩ = some (.int .i64 t) := (hRQ.below' hbA).cell 0
          have HTA := hide (HTQ.out.below hbA)
          have HBX : Hid (Below w1.heap.size w1 wa) := hide (HF.out.trans (hbA.mono HF.out.size))
          have HBQA : Hid (Below q w wa) := hide (HBQ.out.trans (hbA.mono (by omega)))
          clear hL hwa hsq hbA
          go_quiet (fail)
          have HBY := hide (Below.drewN' HBX.out nq)
          have HBE := hide (Below.drewN' HBQA.out nq)
          have HVF : Hid (validB t o a b c d = false) := hide (by unfold validB; rw [oks_end (i := i + 1) (by omega) (by rw [HG.out]; exact HOKF.out), Bool.and_false, Bool.false_and])
          go_wp2_with fail
          go_ret
          refine ⟨?_, by first | exact HBE.out | (rw [hq]; exact HBE.out)⟩
          rw [HVF.out]
          (try rfl)
    · obtain rfl : i = 4 := by omega
      clear hlt
      have HKP := hide (points_any t o a b c d wq)
      go_wp2_with fail
      refine HKP.out.mono ?_
      rintro en wz ⟨rfl, hbz⟩
      have hRz := hRQ.below' hbz
      obtain ⟨z0, z1, z2, z3, z4, z5, z6, z7, z8, z9, z10, z11, z12, z13⟩ := vc_cells hRz
      have HBZ : Hid (Below q w wz) := hide (HBQ.out.trans (hbz.mono (by omega)))
      have hnn : 0 < n ∨ n = 0 := by omega
      have HVB : Hid (validB t o a b c d = (decide (0 < n) && (if points t a.p = true then decide (-1 ≤ o) else o == 0))) := hide (by unfold validB; rw [HO.out, HN.out, Bool.and_true])
      have HPN : Hid (n = 0 → points t a.p = false) := hide (fun h => by
        unfold points
        cases h5 : (t == 5) with
        | false => rfl
        | true => rw [eq_of_beq h5] at HN; have := HN.out; unfold numL at this; simp at this; omega)
      obtain ⟨pp, hpp⟩ : ∃ p, points t a.p = p := ⟨_, rfl⟩
      have HPP := hide hpp
      rw [hpp]
      obtain ⟨x1, hx1⟩ : ∃ x, decide (-1 ≤ o) = x := ⟨_, rfl⟩
      have hx1' : decide (o ≥ -1) = x1 := hx1
      obtain ⟨x2, hx2⟩ : ∃ x, (o == 0) = x := ⟨_, rfl⟩
      obtain ⟨x3, hx3⟩ : ∃ x, decide (0 < n) = x := ⟨_, rfl⟩
      have hx3' : decide (n > 0) = x3 := hx3
      have HX3 : Hid (x3 = false → pp = false) := hide (fun h => by rw [← hpp]; refine HPN.out ?_; rw [h] at hx3; have := of_decide_eq_false hx3; omega)
      have HX := hide (And.intro hx1 (And.intro hx2 hx3))
      clear hbz hRz hpp hnn hn4 c0 c1 c2 c3 c4 c5 c6 c7 c8 c9 c10 c11 c12 c13 HKP hRQ hqs
      cases pp <;> cases x1 <;> cases x2 <;> cases x3
      all_goals first
        | exact Bool.noConfusion (HX3.out rfl)
        | (go_wp2_with fail
           go_ret
           refine ⟨?_, by first | exact HBZ.out | (rw [hq]; exact HBZ.out)⟩
           rw [HVB.out, HPP.out, HX.out.1, HX.out.2.1, HX.out.2.2]
           rfl)
end Go.Proofs.YtojeaghljebbbaaDoor

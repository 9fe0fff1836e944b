/-
  Layer 12 (opcode): Check, for what is no call.
-/
import Derived.Test.YtnhaanjpcnnifaaDoorOpI
namespace Go.Proofs.YtnhaanjpcnnifaaDoor
open Go.RowKit

/-- What Check answers: the operation, stray fields, the symbol, the number of operands, the registers, the types, the result, the cell type, the immediate. -/
def chkM (isop stray sym cnt regs typ dst cell imm : Bool) : Int :=
  if isop = false then 8 else if stray = true then 3 else if sym = false then 8 else if cnt = false then 3 else if regs = false then 10
  else if typ = false then 9 else if dst = false then 9 else if cell = false then 9 else if imm = false then 10 else 0
/-- How many operands there may be, of what is no call. -/
def cntB (k : Nat) (n : Nat) : Bool := if k = 32 then decide (n = 2 ∨ n = 4) else decide (n = cntOf k)
/-- Check's answer for operation op, no call. -/
def checkM (op ty dst imm sym el : Int) (nw : Bool) (l rl : List Int) (gn fn : Nat) : Int :=
  chkM (isOp op) (strayM op imm sym el nw) (symM op sym gn fn) (cntB op.toNat l.length) (regsM l dst rl.length) (acceptsB op.toNat ty (tysOf rl l)) (dstM op ty dst rl) (!decide (op = 26) || hasB 60 el) (immM op ty imm (rl.getD (l.headD 0).toNat 0))
theorem cnt_small : ∀ k, k < 34 → cntOf k ≤ 4 := by decide
theorem cnt_want : ∀ k, k < 34 → relWants (ruleM k).2.2 = true → 0 < cntOf k := by decide
structure ChkS (w wn : World) (I F M : Array Value) (Av Rv : Value) (l rl : List Int) : Prop where
  i : Whole wn w.heap.size 78 I
  f : Whole wn (w.heap.size + 1) 28 F
  m : Whole wn (w.heap.size + 2) 32 M
  b : Below w.heap.size w wn
  t : Tab wn
  o : OpTab wn
  l : Rd wn .i64 Av l
  r : Rd wn .i64 Rv rl
theorem ChkS.next {w wn wm : World} {I F M : Array Value} {Av Rv : Value} {l rl : List Int} (h : ChkS w wn I F M Av Rv l rl) (hb : Below wn.heap.size wn wm) : ChkS w wm I F M Av Rv l rl :=
  ⟨h.i.below' hb, h.f.below' hb, h.m.below' hb, h.b.trans (hb.mono h.b.size), h.t.below hb, h.o.below hb, h.l.below' hb, h.r.below' hb⟩
theorem ChkS.new (w : World) (I F M : Array Value) {Av Rv : Value} {l rl : List Int} (ht : Tab w) (ho : OpTab w) (hl : Rd w .i64 Av l) (hr : Rd w .i64 Rv rl) :
    ChkS w (((w.alloc (.cells I 78)).alloc (.cells F 28)).alloc (.cells M 32)) I F M Av Rv l rl := by
  have hb : Below w.heap.size w (((w.alloc (.cells I 78)).alloc (.cells F 28)).alloc (.cells M 32)) := (((Below.refl _ _).alloc (Nat.le_refl _) _).alloc (by simp [go_sem]) _).alloc (by simp [go_sem]; omega) _
  exact ⟨((Whole.new w _ _).alloc _).alloc _, by have h0 := (Whole.new (w.alloc (.cells I 78)) 28 F).alloc (.cells M 32); simpa [go_sem] using h0, by have h0 := Whole.new ((w.alloc (.cells I 78)).alloc (.cells F 28)) 32 M; simpa [go_sem] using h0, hb, ht.below hb, ho.below hb, hl.below' hb, hr.below' hb⟩
set_option maxRecDepth 100000 in
set_option maxHeartbeats 16000000 in
theorem check_row (op ty dst imm sym el : Int) (h30 : op ≠ 30) (A RA GA FA : Option Addr) (c rc gn gc fn fc : Nat) (l rl : List Int) (hm : l.length ≤ 1000) (nw : Bool) (v0 v1 v4 : Value) (res : Int) (w : World) (hT : Tab w) (hO : OpTab w) (hl : Rd w .i64 (.slice A l.length c) l) (hr : Rd w .i64 (.slice RA rl.length rc) rl) :
    Calls Tryd.prog 41 #[.agg #[.int .i64 op, .int .i64 ty, .int .i64 dst, .slice A l.length c, .int .i64 imm, .int .i64 sym, .int .i64 el, .bool nw], .agg #[v0, v1, .int .i64 res, .slice RA rl.length rc, v4], .agg #[.slice GA gn gc, .slice FA fn fc]] w fun e w' => e = .returned (.int .i64 (checkM op ty dst imm sym el nw l rl gn fn)) ∧ Below w.heap.size w w' := by
  obtain ⟨w1, hw1⟩ : ∃ z, ((w.alloc (.cells #[.int .i64 op, .int .i64 ty, .int .i64 dst, .slice A l.length c, .int .i64 imm, .int .i64 sym, .int .i64 el, .bool nw] 78)).alloc (.cells #[v0, v1, .int .i64 res, .slice RA rl.length rc, v4] 28)).alloc (.cells #[.slice GA gn gc, .slice FA fn fc] 32) = z := ⟨_, rfl⟩
  have HS : Hid (ChkS w w1 #[.int .i64 op, .int .i64 ty, .int .i64 dst, .slice A l.length c, .int .i64 imm, .int .i64 sym, .int .i64 el, .bool nw] #[v0, v1, .int .i64 res, .slice RA rl.length rc, v4] #[.slice GA gn gc, .slice FA fn fc] (.slice A l.length c) (.slice RA rl.length rc) l rl) := hide (by rw [← hw1]; exact ChkS.new w _ _ _ hT hO hl hr)
  unfold checkM
  clear hT hO hl hr
  have i0 : w1.cell? ⟨w.heap.size, 0, none⟩ = some (.int .i64 op) := HS.out.i.cell 0
  have i1 : w1.cell? ⟨w.heap.size, 1, none⟩ = some (.int .i64 ty) := HS.out.i.cell 1
  have i2 : w1.cell? ⟨w.heap.size, 2, none⟩ = some (.int .i64 dst) := HS.out.i.cell 2
  have i3 : w1.cell? ⟨w.heap.size, 3, none⟩ = some (.slice A l.length c) := HS.out.i.cell 3
  have i4 : w1.cell? ⟨w.heap.size, 4, none⟩ = some (.int .i64 imm) := HS.out.i.cell 4
  have i5 : w1.cell? ⟨w.heap.size, 5, none⟩ = some (.int .i64 sym) := HS.out.i.cell 5
  have i6 : w1.cell? ⟨w.heap.size, 6, none⟩ = some (.int .i64 el) := HS.out.i.cell 6
  have i7 : w1.cell? ⟨w.heap.size, 7, none⟩ = some (.bool nw) := HS.out.i.cell 7
  have f0 : w1.cell? ⟨w.heap.size + 1, 0, none⟩ = some (v0) := HS.out.f.cell 0
  have f1 : w1.cell? ⟨w.heap.size + 1, 1, none⟩ = some (v1) := HS.out.f.cell 1
  have f2 : w1.cell? ⟨w.heap.size + 1, 2, none⟩ = some (.int .i64 res) := HS.out.f.cell 2
  have f3 : w1.cell? ⟨w.heap.size + 1, 3, none⟩ = some (.slice RA rl.length rc) := HS.out.f.cell 3
  have f4 : w1.cell? ⟨w.heap.size + 1, 4, none⟩ = some (v4) := HS.out.f.cell 4
  have m0 : w1.cell? ⟨w.heap.size + 2, 0, none⟩ = some (.slice GA gn gc) := HS.out.m.cell 0
  have m1 : w1.cell? ⟨w.heap.size + 2, 1, none⟩ = some (.slice FA fn fc) := HS.out.m.cell 1
  cases e1 : isOp op with
  | false =>
    go_enter Tryd.func41, Tryd.ntmps41
    go_upto_region 1 with fail
    clear hw1
    go_wp2_with fail
    refine (isop_any op _).mono ?_
    rintro en wn ⟨rfl, rfl⟩
    rw [e1]
    go_wp2_with fail
    go_ret
    exact ⟨by simp only [chkM, *]; rfl, HS.out.b⟩
  | true =>
    have hop : 1 ≤ op ∧ op ≤ 33 := by simpa [isOp] using e1
    obtain ⟨k, rfl⟩ : ∃ k : Nat, op = k := ⟨op.toNat, by omega⟩
    have hk : k < 34 := by omega
    have hk30 : k ≠ 30 := by omega
    have HK1 : Hid (1 ≤ k) := hide (by omega)
    rw [Int.toNat_natCast]
    obtain ⟨b26, hb26⟩ : ∃ b, decide ((k : Int) = 26) = b := ⟨_, rfl⟩
    rw [hb26]
    have HB26 := hide hb26
    clear hop h30 hb26
    go_enter Tryd.func41, Tryd.ntmps41
    go_upto_region 1 with fail
    clear hw1
    go_wp2_with fail
    refine (isop_any k _).mono ?_
    rintro en wn ⟨rfl, rfl⟩
    rw [e1]
    go_wp2_with fail
    refine (stray_any k ty dst imm sym el A l.length c nw _).mono ?_
    rintro en x1 ⟨rfl, hb⟩
    clear i0 i1 i2 i3 i4 i5 i6 i7 f0 f1 f2 f3 f4 m0 m1
    replace HS := hide (HS.out.next hb)
    clear hb
    have i0 : x1.cell? ⟨w.heap.size, 0, none⟩ = some (.int .i64 k) := HS.out.i.cell 0
    have i1 : x1.cell? ⟨w.heap.size, 1, none⟩ = some (.int .i64 ty) := HS.out.i.cell 1
    have i2 : x1.cell? ⟨w.heap.size, 2, none⟩ = some (.int .i64 dst) := HS.out.i.cell 2
    have i3 : x1.cell? ⟨w.heap.size, 3, none⟩ = some (.slice A l.length c) := HS.out.i.cell 3
    have i4 : x1.cell? ⟨w.heap.size, 4, none⟩ = some (.int .i64 imm) := HS.out.i.cell 4
    have i5 : x1.cell? ⟨w.heap.size, 5, none⟩ = some (.int .i64 sym) := HS.out.i.cell 5
    have i6 : x1.cell? ⟨w.heap.size, 6, none⟩ = some (.int .i64 el) := HS.out.i.cell 6
    have i7 : x1.cell? ⟨w.heap.size, 7, none⟩ = some (.bool nw) := HS.out.i.cell 7
    have f0 : x1.cell? ⟨w.heap.size + 1, 0, none⟩ = some (v0) := HS.out.f.cell 0
    have f1 : x1.cell? ⟨w.heap.size + 1, 1, none⟩ = some (v1) := HS.out.f.cell 1
    have f2 : x1.cell? ⟨w.heap.size + 1, 2, none⟩ = some (.int .i64 res) := HS.out.f.cell 2
    have f3 : x1.cell? ⟨w.heap.size + 1, 3, none⟩ = some (.slice RA rl.length rc) := HS.out.f.cell 3
    have f4 : x1.cell? ⟨w.heap.size + 1, 4, none⟩ = some (v4) := HS.out.f.cell 4
    have m0 : x1.cell? ⟨w.heap.size + 2, 0, none⟩ = some (.slice GA gn gc) := HS.out.m.cell 0
    have m1 : x1.cell? ⟨w.heap.size + 2, 1, none⟩ = some (.slice FA fn fc) := HS.out.m.cell 1
    cases e2 : strayM k imm sym el nw with
    | true =>
      go_wp2_with fail
      go_ret
      exact ⟨by simp only [chkM, *]; rfl, HS.out.b⟩
    | false =>
      go_wp2_with fail
      refine (symex_any k ty dst imm sym el A GA FA l.length c gn gc fn fc nw _).mono ?_
      rintro en x2 ⟨rfl, hb⟩
      clear i0 i1 i2 i3 i4 i5 i6 i7 f0 f1 f2 f3 f4 m0 m1
      replace HS := hide (HS.out.next hb)
      clear hb
      have i0 : x2.cell? ⟨w.heap.size, 0, none⟩ = some (.int .i64 k) := HS.out.i.cell 0
      have i1 : x2.cell? ⟨w.heap.size, 1, none⟩ = some (.int .i64 ty) := HS.out.i.cell 1
      have i2 : x2.cell? ⟨w.heap.size, 2, none⟩ = some (.int .i64 dst) := HS.out.i.cell 2
      have i3 : x2.cell? ⟨w.heap.size, 3, none⟩ = some (.slice A l.length c) := HS.out.i.cell 3
      have i4 : x2.cell? ⟨w.heap.size, 4, none⟩ = some (.int .i64 imm) := HS.out.i.cell 4
      have i5 : x2.cell? ⟨w.heap.size, 5, none⟩ = some (.int .i64 sym) := HS.out.i.cell 5
      have i6 : x2.cell? ⟨w.heap.size, 6, none⟩ = some (.int .i64 el) := HS.out.i.cell 6
      have i7 : x2.cell? ⟨w.heap.size, 7, none⟩ = some (.bool nw) := HS.out.i.cell 7
      have f0 : x2.cell? ⟨w.heap.size + 1, 0, none⟩ = some (v0) := HS.out.f.cell 0
      have f1 : x2.cell? ⟨w.heap.size + 1, 1, none⟩ = some (v1) := HS.out.f.cell 1
      have f2 : x2.cell? ⟨w.heap.size + 1, 2, none⟩ = some (.int .i64 res) := HS.out.f.cell 2
      have f3 : x2.cell? ⟨w.heap.size + 1, 3, none⟩ = some (.slice RA rl.length rc) := HS.out.f.cell 3
      have f4 : x2.cell? ⟨w.heap.size + 1, 4, none⟩ = some (v4) := HS.out.f.cell 4
      have m0 : x2.cell? ⟨w.heap.size + 2, 0, none⟩ = some (.slice GA gn gc) := HS.out.m.cell 0
      have m1 : x2.cell? ⟨w.heap.size + 2, 1, none⟩ = some (.slice FA fn fc) := HS.out.m.cell 1
      cases e3 : symM k sym gn fn with
      | false =>
        go_wp2_with fail
        go_ret
        exact ⟨by simp only [chkM, *]; rfl, HS.out.b⟩
      | true =>
        go_wp2_with fail
        have HCNT : Hid (∀ W, OpTab W → Calls Tryd.prog 60 #[.agg #[.int .i64 (k : Int), .int .i64 ty, .int .i64 dst, .slice A l.length c, .int .i64 imm, .int .i64 sym, .int .i64 el, .bool nw], .agg #[.slice GA gn gc, .slice FA fn fc]] W fun e w' => e = .returned (.bool (cntB k l.length)) ∧ Below W.heap.size W w') := hide (fun W hOW => by
          by_cases h32 : k = 32
          · subst h32; exact count_pack ty dst imm sym el A GA FA l.length c gn gc fn fc nw W
          · rw [show cntB k l.length = decide (l.length = cntOf k) from if_neg h32]
            exact count_row k hk hk30 h32 ty dst imm sym el A GA FA l.length c gn gc fn fc (by omega) nw W hOW)
        refine (HCNT.out _ HS.out.o).mono ?_
        rintro en x3 ⟨rfl, hb⟩
        clear i0 i1 i2 i3 i4 i5 i6 i7 f0 f1 f2 f3 f4 m0 m1
        replace HS := hide (HS.out.next hb)
        clear hb
        have i0 : x3.cell? ⟨w.heap.size, 0, none⟩ = some (.int .i64 k) := HS.out.i.cell 0
        have i1 : x3.cell? ⟨w.heap.size, 1, none⟩ = some (.int .i64 ty) := HS.out.i.cell 1
        have i2 : x3.cell? ⟨w.heap.size, 2, none⟩ = some (.int .i64 dst) := HS.out.i.cell 2
        have i3 : x3.cell? ⟨w.heap.size, 3, none⟩ = some (.slice A l.length c) := HS.out.i.cell 3
        have i4 : x3.cell? ⟨w.heap.size, 4, none⟩ = some (.int .i64 imm) := HS.out.i.cell 4
        have i5 : x3.cell? ⟨w.heap.size, 5, none⟩ = some (.int .i64 sym) := HS.out.i.cell 5
        have i6 : x3.cell? ⟨w.heap.size, 6, none⟩ = some (.int .i64 el) := HS.out.i.cell 6
        have i7 : x3.cell? ⟨w.heap.size, 7, none⟩ = some (.bool nw) := HS.out.i.cell 7
        have f0 : x3.cell? ⟨w.heap.size + 1, 0, none⟩ = some (v0) := HS.out.f.cell 0
        have f1 : x3.cell? ⟨w.heap.size + 1, 1, none⟩ = some (v1) := HS.out.f.cell 1
        have f2 : x3.cell? ⟨w.heap.size + 1, 2, none⟩ = some (.int .i64 res) := HS.out.f.cell 2
        have f3 : x3.cell? ⟨w.heap.size + 1, 3, none⟩ = some (.slice RA rl.length rc) := HS.out.f.cell 3
        have f4 : x3.cell? ⟨w.heap.size + 1, 4, none⟩ = some (v4) := HS.out.f.cell 4
        have m0 : x3.cell? ⟨w.heap.size + 2, 0, none⟩ = some (.slice GA gn gc) := HS.out.m.cell 0
        have m1 : x3.cell? ⟨w.heap.size + 2, 1, none⟩ = some (.slice FA fn fc) := HS.out.m.cell 1
        cases e4 : cntB k l.length with
        | false =>
          go_wp2_with fail
          go_ret
          exact ⟨by simp only [chkM, *]; rfl, HS.out.b⟩
        | true =>
          go_wp2_with fail
          refine (regs_any k ty dst imm sym el A RA c rl.length rc l (by omega) nw v0 v1 v4 res _ HS.out.l).mono ?_
          rintro en x4 ⟨rfl, hb⟩
          clear i0 i1 i2 i3 i4 i5 i6 i7 f0 f1 f2 f3 f4 m0 m1
          replace HS := hide (HS.out.next hb)
          clear hb
          have i0 : x4.cell? ⟨w.heap.size, 0, none⟩ = some (.int .i64 k) := HS.out.i.cell 0
          have i1 : x4.cell? ⟨w.heap.size, 1, none⟩ = some (.int .i64 ty) := HS.out.i.cell 1
          have i2 : x4.cell? ⟨w.heap.size, 2, none⟩ = some (.int .i64 dst) := HS.out.i.cell 2
          have i3 : x4.cell? ⟨w.heap.size, 3, none⟩ = some (.slice A l.length c) := HS.out.i.cell 3
          have i4 : x4.cell? ⟨w.heap.size, 4, none⟩ = some (.int .i64 imm) := HS.out.i.cell 4
          have i5 : x4.cell? ⟨w.heap.size, 5, none⟩ = some (.int .i64 sym) := HS.out.i.cell 5
          have i6 : x4.cell? ⟨w.heap.size, 6, none⟩ = some (.int .i64 el) := HS.out.i.cell 6
          have i7 : x4.cell? ⟨w.heap.size, 7, none⟩ = some (.bool nw) := HS.out.i.cell 7
          have f0 : x4.cell? ⟨w.heap.size + 1, 0, none⟩ = some (v0) := HS.out.f.cell 0
          have f1 : x4.cell? ⟨w.heap.size + 1, 1, none⟩ = some (v1) := HS.out.f.cell 1
          have f2 : x4.cell? ⟨w.heap.size + 1, 2, none⟩ = some (.int .i64 res) := HS.out.f.cell 2
          have f3 : x4.cell? ⟨w.heap.size + 1, 3, none⟩ = some (.slice RA rl.length rc) := HS.out.f.cell 3
          have f4 : x4.cell? ⟨w.heap.size + 1, 4, none⟩ = some (v4) := HS.out.f.cell 4
          have m0 : x4.cell? ⟨w.heap.size + 2, 0, none⟩ = some (.slice GA gn gc) := HS.out.m.cell 0
          have m1 : x4.cell? ⟨w.heap.size + 2, 1, none⟩ = some (.slice FA fn fc) := HS.out.m.cell 1
          cases e5 : regsM l dst rl.length with
          | false =>
            go_wp2_with fail
            go_ret
            exact ⟨by simp only [chkM, *]; rfl, HS.out.b⟩
          | true =>
            have hin : ∀ z ∈ l, 0 ≤ z ∧ z < rl.length := fun z hz => by
              simp only [regsM, Bool.and_eq_true, List.all_eq_true] at e5
              simpa using e5.1 z hz
            have hdst : dst = -1 ∨ 0 ≤ dst ∧ dst < rl.length := by
              simp only [regsM, Bool.and_eq_true, Bool.or_eq_true, decide_eq_true_eq] at e5
              exact e5.2
            have hl4 : l.length ≤ 4 := by
              by_cases h32 : k = 32
              · subst h32
                have : l.length = 2 ∨ l.length = 4 := by simpa [cntB] using e4
                omega
              · have : l.length = cntOf k := by simpa [cntB, h32] using e4
                have := cnt_small k hk
                omega
            have hwant : relWants (ruleM k).2.2 = true → l ≠ [] := fun h e => by
              have h1 := cnt_want k hk h
              have h32 : k ≠ 32 := fun h' => by subst h'; exact absurd h (by decide)
              have : l.length = cntOf k := by simpa [cntB, h32] using e4
              rw [e] at this; simp at this; omega
            have h33 : (k : Int) = 33 → l ≠ [] := fun h e => by
              obtain rfl : k = 33 := by omega
              have : l.length = cntOf 33 := by simpa [cntB] using e4
              rw [e] at this; exact absurd this (by decide)
            have HTY := hide (fun W hT hO hL hR => types_row k hk hk30 ty dst imm sym el A RA c rc l rl hl4 hin hwant nw v0 v1 v4 (.slice GA gn gc) (.slice FA fn fc) res W hT hO hL hR)
            have HDS := hide (fun W hR => dst_any k ty dst imm sym el A RA c rc l rl hdst nw v0 v1 v4 res W hR)
            have HIM := hide (fun W hT hL hR => imm_any k ty dst imm sym el A RA c rc l rl hin h33 nw v0 v1 v4 res W hT hL hR)
            clear hin hdst hl4 hwant h33
            cases e6 : acceptsB k ty (tysOf rl l) with
            | false =>
              go_wp2_with fail
              refine (HTY.out _ HS.out.t HS.out.o HS.out.l HS.out.r).mono ?_
              rintro en x5 ⟨rfl, hb⟩
              clear i0 i1 i2 i3 i4 i5 i6 i7 f0 f1 f2 f3 f4 m0 m1
              replace HS := hide (HS.out.next hb)
              clear hb
              have i0 : x5.cell? ⟨w.heap.size, 0, none⟩ = some (.int .i64 k) := HS.out.i.cell 0
              have i1 : x5.cell? ⟨w.heap.size, 1, none⟩ = some (.int .i64 ty) := HS.out.i.cell 1
              have i2 : x5.cell? ⟨w.heap.size, 2, none⟩ = some (.int .i64 dst) := HS.out.i.cell 2
              have i3 : x5.cell? ⟨w.heap.size, 3, none⟩ = some (.slice A l.length c) := HS.out.i.cell 3
              have i4 : x5.cell? ⟨w.heap.size, 4, none⟩ = some (.int .i64 imm) := HS.out.i.cell 4
              have i5 : x5.cell? ⟨w.heap.size, 5, none⟩ = some (.int .i64 sym) := HS.out.i.cell 5
              have i6 : x5.cell? ⟨w.heap.size, 6, none⟩ = some (.int .i64 el) := HS.out.i.cell 6
              have i7 : x5.cell? ⟨w.heap.size, 7, none⟩ = some (.bool nw) := HS.out.i.cell 7
              have f0 : x5.cell? ⟨w.heap.size + 1, 0, none⟩ = some (v0) := HS.out.f.cell 0
              have f1 : x5.cell? ⟨w.heap.size + 1, 1, none⟩ = some (v1) := HS.out.f.cell 1
              have f2 : x5.cell? ⟨w.heap.size + 1, 2, none⟩ = some (.int .i64 res) := HS.out.f.cell 2
              have f3 : x5.cell? ⟨w.heap.size + 1, 3, none⟩ = some (.slice RA rl.length rc) := HS.out.f.cell 3
              have f4 : x5.cell? ⟨w.heap.size + 1, 4, none⟩ = some (v4) := HS.out.f.cell 4
              have m0 : x5.cell? ⟨w.heap.size + 2, 0, none⟩ = some (.slice GA gn gc) := HS.out.m.cell 0
              have m1 : x5.cell? ⟨w.heap.size + 2, 1, none⟩ = some (.slice FA fn fc) := HS.out.m.cell 1
              rw [e6]
              go_wp2_with fail
              go_ret
              exact ⟨by simp only [chkM, *]; rfl, HS.out.b⟩
            | true =>
              go_wp2_with fail
              refine (HTY.out _ HS.out.t HS.out.o HS.out.l HS.out.r).mono ?_
              rintro en x6 ⟨rfl, hb⟩
              clear i0 i1 i2 i3 i4 i5 i6 i7 f0 f1 f2 f3 f4 m0 m1
              replace HS := hide (HS.out.next hb)
              clear hb
              have i0 : x6.cell? ⟨w.heap.size, 0, none⟩ = some (.int .i64 k) := HS.out.i.cell 0
              have i1 : x6.cell? ⟨w.heap.size, 1, none⟩ = some (.int .i64 ty) := HS.out.i.cell 1
              have i2 : x6.cell? ⟨w.heap.size, 2, none⟩ = some (.int .i64 dst) := HS.out.i.cell 2
              have i3 : x6.cell? ⟨w.heap.size, 3, none⟩ = some (.slice A l.length c) := HS.out.i.cell 3
              have i4 : x6.cell? ⟨w.heap.size, 4, none⟩ = some (.int .i64 imm) := HS.out.i.cell 4
              have i5 : x6.cell? ⟨w.heap.size, 5, none⟩ = some (.int .i64 sym) := HS.out.i.cell 5
              have i6 : x6.cell? ⟨w.heap.size, 6, none⟩ = some (.int .i64 el) := HS.out.i.cell 6
              have i7 : x6.cell? ⟨w.heap.size, 7, none⟩ = some (.bool nw) := HS.out.i.cell 7
              have f0 : x6.cell? ⟨w.heap.size + 1, 0, none⟩ = some (v0) := HS.out.f.cell 0
              have f1 : x6.cell? ⟨w.heap.size + 1, 1, none⟩ = some (v1) := HS.out.f.cell 1
              have f2 : x6.cell? ⟨w.heap.size + 1, 2, none⟩ = some (.int .i64 res) := HS.out.f.cell 2
              have f3 : x6.cell? ⟨w.heap.size + 1, 3, none⟩ = some (.slice RA rl.length rc) := HS.out.f.cell 3
              have f4 : x6.cell? ⟨w.heap.size + 1, 4, none⟩ = some (v4) := HS.out.f.cell 4
              have m0 : x6.cell? ⟨w.heap.size + 2, 0, none⟩ = some (.slice GA gn gc) := HS.out.m.cell 0
              have m1 : x6.cell? ⟨w.heap.size + 2, 1, none⟩ = some (.slice FA fn fc) := HS.out.m.cell 1
              rw [e6]
              cases e7 : dstM k ty dst rl with
              | false =>
                go_wp2_with fail
                refine (HDS.out _ HS.out.r).mono ?_
                rintro en x7 ⟨rfl, hb⟩
                clear i0 i1 i2 i3 i4 i5 i6 i7 f0 f1 f2 f3 f4 m0 m1
                replace HS := hide (HS.out.next hb)
                clear hb
                have i0 : x7.cell? ⟨w.heap.size, 0, none⟩ = some (.int .i64 k) := HS.out.i.cell 0
                have i1 : x7.cell? ⟨w.heap.size, 1, none⟩ = some (.int .i64 ty) := HS.out.i.cell 1
                have i2 : x7.cell? ⟨w.heap.size, 2, none⟩ = some (.int .i64 dst) := HS.out.i.cell 2
                have i3 : x7.cell? ⟨w.heap.size, 3, none⟩ = some (.slice A l.length c) := HS.out.i.cell 3
                have i4 : x7.cell? ⟨w.heap.size, 4, none⟩ = some (.int .i64 imm) := HS.out.i.cell 4
                have i5 : x7.cell? ⟨w.heap.size, 5, none⟩ = some (.int .i64 sym) := HS.out.i.cell 5
                have i6 : x7.cell? ⟨w.heap.size, 6, none⟩ = some (.int .i64 el) := HS.out.i.cell 6
                have i7 : x7.cell? ⟨w.heap.size, 7, none⟩ = some (.bool nw) := HS.out.i.cell 7
                have f0 : x7.cell? ⟨w.heap.size + 1, 0, none⟩ = some (v0) := HS.out.f.cell 0
                have f1 : x7.cell? ⟨w.heap.size + 1, 1, none⟩ = some (v1) := HS.out.f.cell 1
                have f2 : x7.cell? ⟨w.heap.size + 1, 2, none⟩ = some (.int .i64 res) := HS.out.f.cell 2
                have f3 : x7.cell? ⟨w.heap.size + 1, 3, none⟩ = some (.slice RA rl.length rc) := HS.out.f.cell 3
                have f4 : x7.cell? ⟨w.heap.size + 1, 4, none⟩ = some (v4) := HS.out.f.cell 4
                have m0 : x7.cell? ⟨w.heap.size + 2, 0, none⟩ = some (.slice GA gn gc) := HS.out.m.cell 0
                have m1 : x7.cell? ⟨w.heap.size + 2, 1, none⟩ = some (.slice FA fn fc) := HS.out.m.cell 1
                rw [e7]
                go_wp2_with fail
                go_ret
                exact ⟨by simp only [chkM, *]; rfl, HS.out.b⟩
              | true =>
                go_wp2_with fail
                refine (HDS.out _ HS.out.r).mono ?_
                rintro en x8 ⟨rfl, hb⟩
                clear i0 i1 i2 i3 i4 i5 i6 i7 f0 f1 f2 f3 f4 m0 m1
                replace HS := hide (HS.out.next hb)
                clear hb
                have i0 : x8.cell? ⟨w.heap.size, 0, none⟩ = some (.int .i64 k) := HS.out.i.cell 0
                have i1 : x8.cell? ⟨w.heap.size, 1, none⟩ = some (.int .i64 ty) := HS.out.i.cell 1
                have i2 : x8.cell? ⟨w.heap.size, 2, none⟩ = some (.int .i64 dst) := HS.out.i.cell 2
                have i3 : x8.cell? ⟨w.heap.size, 3, none⟩ = some (.slice A l.length c) := HS.out.i.cell 3
                have i4 : x8.cell? ⟨w.heap.size, 4, none⟩ = some (.int .i64 imm) := HS.out.i.cell 4
                have i5 : x8.cell? ⟨w.heap.size, 5, none⟩ = some (.int .i64 sym) := HS.out.i.cell 5
                have i6 : x8.cell? ⟨w.heap.size, 6, none⟩ = some (.int .i64 el) := HS.out.i.cell 6
                have i7 : x8.cell? ⟨w.heap.size, 7, none⟩ = some (.bool nw) := HS.out.i.cell 7
                have f0 : x8.cell? ⟨w.heap.size + 1, 0, none⟩ = some (v0) := HS.out.f.cell 0
                have f1 : x8.cell? ⟨w.heap.size + 1, 1, none⟩ = some (v1) := HS.out.f.cell 1
                have f2 : x8.cell? ⟨w.heap.size + 1, 2, none⟩ = some (.int .i64 res) := HS.out.f.cell 2
                have f3 : x8.cell? ⟨w.heap.size + 1, 3, none⟩ = some (.slice RA rl.length rc) := HS.out.f.cell 3
                have f4 : x8.cell? ⟨w.heap.size + 1, 4, none⟩ = some (v4) := HS.out.f.cell 4
                have m0 : x8.cell? ⟨w.heap.size + 2, 0, none⟩ = some (.slice GA gn gc) := HS.out.m.cell 0
                have m1 : x8.cell? ⟨w.heap.size + 2, 1, none⟩ = some (.slice FA fn fc) := HS.out.m.cell 1
                rw [e7]
                by_cases h26 : k = 26
                · have g26 : ((k : Int) == 26) = true := by simp; omega
                  have d26 : decide ((k : Int) = 26) = true := by simp; omega
                  obtain rfl := d26.symm.trans HB26.out
                  clear d26 h26 HB26
                  go_wp2_with fail
                  refine (has_any 60 (by omega) el _).mono ?_
                  rintro en wn ⟨rfl, rfl⟩
                  cases e8 : hasB 60 el with
                  | false =>
                    go_wp2_with fail
                    go_ret
                    exact ⟨by simp only [chkM, *]; rfl, HS.out.b⟩
                  | true =>
                    go_wp2_with fail
                    refine (HIM.out _ HS.out.t HS.out.l HS.out.r).mono ?_
                    rintro en x9 ⟨rfl, hb⟩
                    clear i0 i1 i2 i3 i4 i5 i6 i7 f0 f1 f2 f3 f4 m0 m1
                    replace HS := hide (HS.out.next hb)
                    clear hb
                    have i0 : x9.cell? ⟨w.heap.size, 0, none⟩ = some (.int .i64 k) := HS.out.i.cell 0
                    have i1 : x9.cell? ⟨w.heap.size, 1, none⟩ = some (.int .i64 ty) := HS.out.i.cell 1
                    have i2 : x9.cell? ⟨w.heap.size, 2, none⟩ = some (.int .i64 dst) := HS.out.i.cell 2
                    have i3 : x9.cell? ⟨w.heap.size, 3, none⟩ = some (.slice A l.length c) := HS.out.i.cell 3
                    have i4 : x9.cell? ⟨w.heap.size, 4, none⟩ = some (.int .i64 imm) := HS.out.i.cell 4
                    have i5 : x9.cell? ⟨w.heap.size, 5, none⟩ = some (.int .i64 sym) := HS.out.i.cell 5
                    have i6 : x9.cell? ⟨w.heap.size, 6, none⟩ = some (.int .i64 el) := HS.out.i.cell 6
                    have i7 : x9.cell? ⟨w.heap.size, 7, none⟩ = some (.bool nw) := HS.out.i.cell 7
                    have f0 : x9.cell? ⟨w.heap.size + 1, 0, none⟩ = some (v0) := HS.out.f.cell 0
                    have f1 : x9.cell? ⟨w.heap.size + 1, 1, none⟩ = some (v1) := HS.out.f.cell 1
                    have f2 : x9.cell? ⟨w.heap.size + 1, 2, none⟩ = some (.int .i64 res) := HS.out.f.cell 2
                    have f3 : x9.cell? ⟨w.heap.size + 1, 3, none⟩ = some (.slice RA rl.length rc) := HS.out.f.cell 3
                    have f4 : x9.cell? ⟨w.heap.size + 1, 4, none⟩ = some (v4) := HS.out.f.cell 4
                    have m0 : x9.cell? ⟨w.heap.size + 2, 0, none⟩ = some (.slice GA gn gc) := HS.out.m.cell 0
                    have m1 : x9.cell? ⟨w.heap.size + 2, 1, none⟩ = some (.slice FA fn fc) := HS.out.m.cell 1
                    cases e9 : immM k ty imm (rl.getD (l.headD 0).toNat 0) with
                    | false =>
                      go_wp2_with fail
                      go_ret
                      exact ⟨by simp only [chkM, *]; rfl, HS.out.b⟩
                    | true =>
                      go_wp2_with fail
                      go_ret
                      exact ⟨by simp only [chkM, *]; rfl, HS.out.b⟩
                · have g26 : ((k : Int) == 26) = false := by simp; omega
                  have d26 : decide ((k : Int) = 26) = false := by simp; omega
                  obtain rfl := d26.symm.trans HB26.out
                  clear d26 h26 HB26
                  go_wp2_with fail
                  refine (HIM.out _ HS.out.t HS.out.l HS.out.r).mono ?_
                  rintro en x10 ⟨rfl, hb⟩
                  clear i0 i1 i2 i3 i4 i5 i6 i7 f0 f1 f2 f3 f4 m0 m1
                  replace HS := hide (HS.out.next hb)
                  clear hb
                  have i0 : x10.cell? ⟨w.heap.size, 0, none⟩ = some (.int .i64 k) := HS.out.i.cell 0
                  have i1 : x10.cell? ⟨w.heap.size, 1, none⟩ = some (.int .i64 ty) := HS.out.i.cell 1
                  have i2 : x10.cell? ⟨w.heap.size, 2, none⟩ = some (.int .i64 dst) := HS.out.i.cell 2
                  have i3 : x10.cell? ⟨w.heap.size, 3, none⟩ = some (.slice A l.length c) := HS.out.i.cell 3
                  have i4 : x10.cell? ⟨w.heap.size, 4, none⟩ = some (.int .i64 imm) := HS.out.i.cell 4
                  have i5 : x10.cell? ⟨w.heap.size, 5, none⟩ = some (.int .i64 sym) := HS.out.i.cell 5
                  have i6 : x10.cell? ⟨w.heap.size, 6, none⟩ = some (.int .i64 el) := HS.out.i.cell 6
                  have i7 : x10.cell? ⟨w.heap.size, 7, none⟩ = some (.bool nw) := HS.out.i.cell 7
                  have f0 : x10.cell? ⟨w.heap.size + 1, 0, none⟩ = some (v0) := HS.out.f.cell 0
                  have f1 : x10.cell? ⟨w.heap.size + 1, 1, none⟩ = some (v1) := HS.out.f.cell 1
                  have f2 : x10.cell? ⟨w.heap.size + 1, 2, none⟩ = some (.int .i64 res) := HS.out.f.cell 2
                  have f3 : x10.cell? ⟨w.heap.size + 1, 3, none⟩ = some (.slice RA rl.length rc) := HS.out.f.cell 3
                  have f4 : x10.cell? ⟨w.heap.size + 1, 4, none⟩ = some (v4) := HS.out.f.cell 4
                  have m0 : x10.cell? ⟨w.heap.size + 2, 0, none⟩ = some (.slice GA gn gc) := HS.out.m.cell 0
                  have m1 : x10.cell? ⟨w.heap.size + 2, 1, none⟩ = some (.slice FA fn fc) := HS.out.m.cell 1
                  cases e9 : immM k ty imm (rl.getD (l.headD 0).toNat 0) with
                  | false =>
                    go_wp2_with fail
                    go_ret
                    exact ⟨by simp only [chkM, *]; rfl, HS.out.b⟩
                  | true =>
                    go_wp2_with fail
                    go_ret
                    exact ⟨by simp only [chkM, *]; rfl, HS.out.b⟩
end Go.Proofs.YtnhaanjpcnnifaaDoor

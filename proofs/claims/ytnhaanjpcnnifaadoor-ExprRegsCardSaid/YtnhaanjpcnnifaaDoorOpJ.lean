/-
  Layer 12 (opcode): callFits.
-/
import Derived.Deep.RegionHeld3
import Derived.Test.YtnhaanjpcnnifaaDoorOpK
namespace Go.Proofs.YtnhaanjpcnnifaaDoor
open Go.RowKit

/-- A parameter p of the callee takes the register r. -/
def fitsAt (rl cl : List Int) (p r : Int) : Bool := decide (0 ≤ p ∧ p < cl.length) && (cl.getD p.toNat 0 == rl.getD r.toNat 0)
def callM (ty cres : Int) (l rl pl cl : List Int) : Bool := (pl.zip l).all (fun x => fitsAt rl cl x.1 x.2) && decide (ty = cres)
structure CallS (w wn : World) (I F G : Array Value) (Av Rv Pv Cv : Value) (l rl pl cl : List Int) : Prop where
  i : Whole wn w.heap.size 78 I
  f : Whole wn (w.heap.size + 1) 28 F
  g : Whole wn (w.heap.size + 2) 28 G
  b : Below w.heap.size w wn
  l : Rd wn .i64 Av l
  r : Rd wn .i64 Rv rl
  p : Rd wn .i64 Pv pl
  c : Rd wn .i64 Cv cl
theorem CallS.next {w wn wm : World} {I F G : Array Value} {Av Rv Pv Cv : Value} {l rl pl cl : List Int} (h : CallS w wn I F G Av Rv Pv Cv l rl pl cl) (hb : Below wn.heap.size wn wm) : CallS w wm I F G Av Rv Pv Cv l rl pl cl :=
  ⟨h.i.below' hb, h.f.below' hb, h.g.below' hb, h.b.trans (hb.mono h.b.size), h.l.below' hb, h.r.below' hb, h.p.below' hb, h.c.below' hb⟩
theorem CallS.new (w : World) (I F G : Array Value) {Av Rv Pv Cv : Value} {l rl pl cl : List Int} (hl : Rd w .i64 Av l) (hr : Rd w .i64 Rv rl) (hp : Rd w .i64 Pv pl) (hc : Rd w .i64 Cv cl) :
    CallS w (((w.alloc (.cells I 78)).alloc (.cells F 28)).alloc (.cells G 28)) I F G Av Rv Pv Cv l rl pl cl := by
  have hb : Below w.heap.size w (((w.alloc (.cells I 78)).alloc (.cells F 28)).alloc (.cells G 28)) := (((Below.refl _ _).alloc (Nat.le_refl _) _).alloc (by simp [go_sem]) _).alloc (by simp [go_sem]; omega) _
  exact ⟨((Whole.new w _ _).alloc _).alloc _, by have h0 := (Whole.new (w.alloc (.cells I 78)) 28 F).alloc (.cells G 28); simpa [go_sem] using h0, by have h0 := Whole.new ((w.alloc (.cells I 78)).alloc (.cells F 28)) 28 G; simpa [go_sem] using h0, hb, hl.below' hb, hr.below' hb, hp.below' hb, hc.below' hb⟩
set_option maxRecDepth 100000 in
set_option maxHeartbeats 8000000 in
theorem callfits_any (ty dst imm sym el : Int) (A RA PA CA : Option Addr) (c rc pc cc : Nat) (l rl pl cl : List Int) (hm : l.length ≤ 1000) (hpl : l.length = pl.length) (hin : ∀ z ∈ l, 0 ≤ z ∧ z < rl.length) (nw : Bool) (v0 v1 v4 u0 u4 : Value) (res cres : Int) (w : World)
    (hl : Rd w .i64 (.slice A l.length c) l) (hr : Rd w .i64 (.slice RA rl.length rc) rl) (hp : Rd w .i64 (.slice PA pl.length pc) pl) (hc : Rd w .i64 (.slice CA cl.length cc) cl) :
    Calls Tryd.prog 87 #[.agg #[.int .i64 30, .int .i64 ty, .int .i64 dst, .slice A l.length c, .int .i64 imm, .int .i64 sym, .int .i64 el, .bool nw], .agg #[v0, v1, .int .i64 res, .slice RA rl.length rc, v4], .agg #[u0, .slice PA pl.length pc, .int .i64 cres, .slice CA cl.length cc, u4]] w fun e w' => e = .returned (.bool (callM ty cres l rl pl cl)) ∧ Below w.heap.size w w' := by
  obtain ⟨w1, hw1⟩ : ∃ z, ((w.alloc (.cells #[.int .i64 30, .int .i64 ty, .int .i64 dst, .slice A l.length c, .int .i64 imm, .int .i64 sym, .int .i64 el, .bool nw] 78)).alloc (.cells #[v0, v1, .int .i64 res, .slice RA rl.length rc, v4] 28)).alloc (.cells #[u0, .slice PA pl.length pc, .int .i64 cres, .slice CA cl.length cc, u4] 28) = z := ⟨_, rfl⟩
  have HS : Hid (CallS w w1 #[.int .i64 30, .int .i64 ty, .int .i64 dst, .slice A l.length c, .int .i64 imm, .int .i64 sym, .int .i64 el, .bool nw] #[v0, v1, .int .i64 res, .slice RA rl.length rc, v4] #[u0, .slice PA pl.length pc, .int .i64 cres, .slice CA cl.length cc, u4] (.slice A l.length c) (.slice RA rl.length rc) (.slice PA pl.length pc) (.slice CA cl.length cc) l rl pl cl) := hide (by rw [← hw1]; exact CallS.new w _ _ _ hl hr hp hc)
  obtain ⟨R, hR⟩ : ∃ R, callM ty cres l rl pl cl = R := ⟨_, rfl⟩
  rw [hR]
  have HR := hide hR
  have HPL := hide hpl
  clear hl hr hp hc hR hpl
  have i3 : w1.cell? ⟨w.heap.size, 3, none⟩ = some (.slice A l.length c) := HS.out.i.cell 3
  go_enter Tryd.func87, Tryd.ntmps87
  go_upto_region 1 with fail
  clear hw1
  go_wp2_with fail
  clear i3
  go_loopw [13] (fun v W => ∃ k : Nat, v = .int .i64 (k : Int) ∧ k ≤ l.length ∧ Below w1.heap.size w1 W ∧ ∀ (i : Nat) (p r : Int), i < k → pl[i]? = some p → l[i]? = some r → fitsAt rl cl p r = true) (fun v _ => l.length - (intOf v).toNat)
  case atStart => exact ⟨0, rfl, by omega, Below.refl _ _, fun i p r h => absurd h (by omega)⟩
  case round =>
    obtain ⟨k, rfl, hk, hbk, hI⟩ := hrel
    rename_i wr _
    have HS2 := hide (HS.out.next hbk)
    have HBK := hide hbk
    clear hbk HS
    rcases Nat.lt_or_ge k l.length with hlt | hge
    · obtain ⟨r, hr⟩ : ∃ r, l[k]? = some r := ⟨_, List.getElem?_eq_getElem hlt⟩
      obtain ⟨z, hz⟩ : ∃ z, pl[k]? = some z := ⟨_, List.getElem?_eq_getElem (by have := HPL.out; omega)⟩
      obtain ⟨b1, off1, rfl, hc1⟩ := HS2.out.l.at (by omega)
      have hcell1 := hc1 k r hr
      obtain ⟨b4, off4, rfl, hc4⟩ := HS2.out.p.at (by have := HPL.out; omega)
      have hcell4 := hc4 k z hz
      have g1 : wr.cell? ⟨w.heap.size + 2, 1, none⟩ = some (.slice (some ⟨b4, off4, none⟩) pl.length pc) := HS2.out.g.cell 1
      have hlp : (k : Int) < (pl.length : Int) := by have := HPL.out; omega
      clear hc1 hc4
      cases hh : decide (0 ≤ z ∧ z < cl.length) with
      | false =>
        have hres : callM ty cres l rl pl cl = false := by
          simp only [callM, Bool.and_eq_false_iff, List.all_eq_false]
          exact .inl ⟨(z, r), List.mem_of_getElem? (i := k) (by rw [List.getElem?_zip_eq_some]; exact ⟨hz, hr⟩), by simp [fitsAt, hh]⟩
        obtain rfl := hres.symm.trans HR.out
        clear hI hz hr hres
        go_upto_region 5 with fail
        have HBL : Hid (Below w.heap.size w wr.drew) := hide HS2.out.b.drew
        have HG : Hid (Whole wr.drew (w.heap.size + 2) 28 #[u0, .slice (some ⟨b4, off4, none⟩) pl.length pc, .int .i64 cres, .slice CA cl.length cc, u4]) := hide (HS2.out.g.drewN 1)
        clear HS2 HBK g1 hcell1 hcell4 hlp hin
        refine wp_region_held_drew (S := (fun w' => w'.cell? ⟨w.heap.size + 2, 0, none⟩ = some (u0) ∧ w'.cell? ⟨w.heap.size + 2, 1, none⟩ = some (.slice (some ⟨b4, off4, none⟩) pl.length pc) ∧ w'.cell? ⟨w.heap.size + 2, 2, none⟩ = some (.int .i64 cres) ∧ w'.cell? ⟨w.heap.size + 2, 3, none⟩ = some (.slice CA cl.length cc) ∧ w'.cell? ⟨w.heap.size + 2, 4, none⟩ = some (u4))) (by kernel_rfl) ?_ (fun hHeld => ?_)
        · exact ⟨HG.out.cell 0, HG.out.cell 1, HG.out.cell 2, HG.out.cell 3, HG.out.cell 4⟩
        refine wpAnyH_take (i := 0) (oi := { dst := some 23, op := Op.move (Operand.tmp 9), type := 3, pos := "check.go:104", after := #[], guard := none }) (v := ?v1x0) rfl (by kernel_rfl) (by kernel_rfl) (by kernel_rfl) (fun _ _ _ h => h) (Or.inl ⟨by rfl, ?hy1x0⟩) (by assumption) ?rest1x0
        case hy1x0 => (intro w hSw; (try dsimp only at hSw); (first | (go_simp; done) | (go_simp; with_reducible rfl)))
        (try simp only [Act.put, List.setIfInBounds_toArray, List.set_cons_zero, List.set_cons_succ])
        refine wpAnyH_take (i := 1) (oi := { dst := some 24, op := Op.load 28 (Operand.tmp 5), type := 28, pos := "check.go:104", after := #[], guard := none }) (v := ?v1x1) rfl (by kernel_rfl) (by kernel_rfl) (by kernel_rfl) (fun _ _ _ h => h) (Or.inl ⟨by rfl, ?hy1x1⟩) (by assumption) ?rest1x1
        case hy1x1 => (intro w hSw; (try dsimp only at hSw); (first | (go_simp; done) | (go_simp; with_reducible rfl)))
        (try simp only [Act.put, List.setIfInBounds_toArray, List.set_cons_zero, List.set_cons_succ])
        refine wpAnyH_ready (rs := [2]) (by kernel_rfl) (by simp) ?_
        refine AllReadyH.cons (o := { dst := some 25, op := Op.call { callee := Callee.value (Operand.func 86), args := #[Operand.tmp 23, Operand.tmp 24], argTypes := #[3, 28] }, type := 4, pos := "check.go:104", after := #[{ on := 0, ground := Ground.data }, { on := 1, ground := Ground.data }], guard := none }) rfl (fun K hK => ?_) AllReadyH.nil
        go_simp
        go_at_call 86; refine (isreg_any z _ _ _ _ _ _ _ _).mono ?_; rintro en wn ⟨rfl, hb⟩; rw [hh]; replace HG := hide (HG.out.below' hb); replace HBL := hide (Below.all HBL.out hb); clear hb
        (try go_wp2_with fail)
        refine hK.out _ _ ?_ (fun hHeld => ?_)
        · exact ⟨HG.out.cell 0, HG.out.cell 1, HG.out.cell 2, HG.out.cell 3, HG.out.cell 4⟩
        clear hK K
        (try simp only [Act.put, List.setIfInBounds_toArray, List.set_cons_zero, List.set_cons_succ])
        refine wpAnyH_take (i := 3) (oi := { dst := some 26, op := Op.unOp UnOp.not 4 (Operand.tmp 25), type := 4, pos := "check.go:104", after := #[{ on := 2, ground := Ground.data }], guard := none }) (v := ?v1x3) rfl (by kernel_rfl) (by kernel_rfl) (by kernel_rfl) (fun _ _ _ h => h) (Or.inl ⟨by rfl, ?hy1x3⟩) (by assumption) ?rest1x3
        case hy1x3 => (intro w hSw; (try dsimp only at hSw); (first | (go_simp; done) | (go_simp; with_reducible rfl)))
        (try simp only [Act.put, List.setIfInBounds_toArray, List.set_cons_zero, List.set_cons_succ])
        refine wpAnyH_take (i := 4) (oi := { dst := some 27, op := Op.move (Operand.tmp 26), type := 4, pos := "check.go:104", after := #[{ on := 3, ground := Ground.data }, { on := 2, ground := Ground.chain }], guard := none }) (v := ?v1x4) rfl (by kernel_rfl) (by kernel_rfl) (by kernel_rfl) (fun _ _ _ h => h) (Or.inl ⟨by rfl, ?hy1x4⟩) (by assumption) ?rest1x4
        case hy1x4 => (intro w hSw; (try dsimp only at hSw); (first | (go_simp; done) | (go_simp; with_reducible rfl)))
        (try simp only [Act.put, List.setIfInBounds_toArray, List.set_cons_zero, List.set_cons_succ])
        refine wpAnyH_take (i := 5) (oi := { dst := some 28, op := Op.fieldAddr 28 (Operand.tmp 5) 3, type := 0, pos := "check.go:104", after := #[{ on := 4, ground := Ground.guard }], guard := some (4, false) }) (v := undef) rfl (by kernel_rfl) (by kernel_rfl) (by kernel_rfl) (fun _ _ _ h => h) (Or.inr ⟨by rfl, rfl⟩) (by assumption) ?_
        (try simp only [Act.put, List.setIfInBounds_toArray, List.set_cons_zero, List.set_cons_succ])
        refine wpAnyH_take (i := 6) (oi := { dst := some 29, op := Op.load 25 (Operand.tmp 28), type := 25, pos := "check.go:104", after := #[{ on := 5, ground := Ground.data }, { on := 4, ground := Ground.guard }], guard := some (4, false) }) (v := undef) rfl (by kernel_rfl) (by kernel_rfl) (by kernel_rfl) (fun _ _ _ h => h) (Or.inr ⟨by rfl, rfl⟩) (by assumption) ?_
        (try simp only [Act.put, List.setIfInBounds_toArray, List.set_cons_zero, List.set_cons_succ])
        refine wpAnyH_take (i := 7) (oi := { dst := some 30, op := Op.move (Operand.tmp 9), type := 3, pos := "check.go:104", after := #[{ on := 4, ground := Ground.guard }], guard := some (4, false) }) (v := undef) rfl (by kernel_rfl) (by kernel_rfl) (by kernel_rfl) (fun _ _ _ h => h) (Or.inr ⟨by rfl, rfl⟩) (by assumption) ?_
        (try simp only [Act.put, List.setIfInBounds_toArray, List.set_cons_zero, List.set_cons_succ])
        refine wpAnyH_take (i := 8) (oi := { dst := some 31, op := Op.indexAddr 25 (Operand.tmp 29) (Operand.tmp 30), type := 0, pos := "check.go:104", after := #[{ on := 6, ground := Ground.data }, { on := 7, ground := Ground.data }, { on := 4, ground := Ground.guard }], guard := some (4, false) }) (v := undef) rfl (by kernel_rfl) (by kernel_rfl) (by kernel_rfl) (fun _ _ _ h => h) (Or.inr ⟨by rfl, rfl⟩) (by assumption) ?_
        (try simp only [Act.put, List.setIfInBounds_toArray, List.set_cons_zero, List.set_cons_succ])
        refine wpAnyH_take (i := 9) (oi := { dst := some 32, op := Op.load 24 (Operand.tmp 31), type := 24, pos := "check.go:104", after := #[{ on := 8, ground := Ground.data }, { on := 4, ground := Ground.guard }], guard := some (4, false) }) (v := undef) rfl (by kernel_rfl) (by kernel_rfl) (by kernel_rfl) (fun _ _ _ h => h) (Or.inr ⟨by rfl, rfl⟩) (by assumption) ?_
        (try simp only [Act.put, List.setIfInBounds_toArray, List.set_cons_zero, List.set_cons_succ])
        refine wpAnyH_take (i := 10) (oi := { dst := some 33, op := Op.fieldAddr 28 (Operand.tmp 4) 3, type := 0, pos := "check.go:104", after := #[{ on := 4, ground := Ground.guard }], guard := some (4, false) }) (v := undef) rfl (by kernel_rfl) (by kernel_rfl) (by kernel_rfl) (fun _ _ _ h => h) (Or.inr ⟨by rfl, rfl⟩) (by assumption) ?_
        (try simp only [Act.put, List.setIfInBounds_toArray, List.set_cons_zero, List.set_cons_succ])
        refine wpAnyH_take (i := 11) (oi := { dst := some 34, op := Op.load 25 (Operand.tmp 33), type := 25, pos := "check.go:104", after := #[{ on := 10, ground := Ground.data }, { on := 4, ground := Ground.guard }], guard := some (4, false) }) (v := undef) rfl (by kernel_rfl) (by kernel_rfl) (by kernel_rfl) (fun _ _ _ h => h) (Or.inr ⟨by rfl, rfl⟩) (by assumption) ?_
        (try simp only [Act.put, List.setIfInBounds_toArray, List.set_cons_zero, List.set_cons_succ])
        refine wpAnyH_take (i := 12) (oi := { dst := some 35, op := Op.move (Operand.tmp 8), type := 3, pos := "check.go:104", after := #[{ on := 4, ground := Ground.guard }], guard := some (4, false) }) (v := undef) rfl (by kernel_rfl) (by kernel_rfl) (by kernel_rfl) (fun _ _ _ h => h) (Or.inr ⟨by rfl, rfl⟩) (by assumption) ?_
        (try simp only [Act.put, List.setIfInBounds_toArray, List.set_cons_zero, List.set_cons_succ])
        refine wpAnyH_take (i := 13) (oi := { dst := some 36, op := Op.indexAddr 25 (Operand.tmp 34) (Operand.tmp 35), type := 0, pos := "check.go:104", after := #[{ on := 11, ground := Ground.data }, { on := 12, ground := Ground.data }, { on := 4, ground := Ground.guard }], guard := some (4, false) }) (v := undef) rfl (by kernel_rfl) (by kernel_rfl) (by kernel_rfl) (fun _ _ _ h => h) (Or.inr ⟨by rfl, rfl⟩) (by assumption) ?_
        (try simp only [Act.put, List.setIfInBounds_toArray, List.set_cons_zero, List.set_cons_succ])
        refine wpAnyH_take (i := 14) (oi := { dst := some 37, op := Op.load 24 (Operand.tmp 36), type := 24, pos := "check.go:104", after := #[{ on := 13, ground := Ground.data }, { on := 4, ground := Ground.guard }], guard := some (4, false) }) (v := undef) rfl (by kernel_rfl) (by kernel_rfl) (by kernel_rfl) (fun _ _ _ h => h) (Or.inr ⟨by rfl, rfl⟩) (by assumption) ?_
        (try simp only [Act.put, List.setIfInBounds_toArray, List.set_cons_zero, List.set_cons_succ])
        refine wpAnyH_take (i := 15) (oi := { dst := some 38, op := Op.binOp BinOp.neq 24 (Operand.tmp 32) (Operand.tmp 37) 24, type := 4, pos := "check.go:104", after := #[{ on := 9, ground := Ground.data }, { on := 14, ground := Ground.data }, { on := 4, ground := Ground.guard }], guard := some (4, false) }) (v := undef) rfl (by kernel_rfl) (by kernel_rfl) (by kernel_rfl) (fun _ _ _ h => h) (Or.inr ⟨by rfl, rfl⟩) (by assumption) ?_
        (try simp only [Act.put, List.setIfInBounds_toArray, List.set_cons_zero, List.set_cons_succ])
        refine wpAnyH_take (i := 16) (oi := { dst := some 39, op := Op.pick (Operand.tmp 27) (Operand.const (Value.bool true)) (Operand.tmp 38), type := 4, pos := "check.go:104", after := #[{ on := 4, ground := Ground.data }, { on := 15, ground := Ground.data }], guard := none }) (v := ?v1x16) rfl (by kernel_rfl) (by kernel_rfl) (by kernel_rfl) (fun _ _ _ h => h) (Or.inl ⟨by rfl, ?hy1x16⟩) (by assumption) ?rest1x16
        case hy1x16 => (intro w hSw; (try dsimp only at hSw); (first | (go_simp; done) | (go_simp; with_reducible rfl)))
        (try simp only [Act.put, List.setIfInBounds_toArray, List.set_cons_zero, List.set_cons_succ])
        refine wpAnyH_done (by kernel_rfl) ?_ _
        all_goals
          go_wp2_with fail
          go_ret
          exact ⟨rfl, HBL.out⟩
      | true =>
        have hzz : 0 ≤ z ∧ z < cl.length := by simpa using hh
        obtain ⟨j, rfl⟩ : ∃ j : Nat, z = j := ⟨z.toNat, by omega⟩
        obtain ⟨y, hy⟩ : ∃ y, cl[j]? = some y := ⟨_, List.getElem?_eq_getElem (by omega)⟩
        obtain ⟨hr0, hr1⟩ := hin r (List.mem_of_getElem? hr)
        obtain ⟨m, rfl⟩ : ∃ m : Nat, r = m := ⟨r.toNat, by omega⟩
        obtain ⟨x, hx⟩ : ∃ x, rl[m]? = some x := ⟨_, List.getElem?_eq_getElem (by omega)⟩
        obtain ⟨b2, off2, rfl, hc2⟩ := HS2.out.r.at (by omega)
        obtain ⟨b3, off3, rfl, hc3⟩ := HS2.out.c.at (by omega)
        have hfit : fitsAt rl cl j m = (y == x) := by
          unfold fitsAt
          rw [hh, Int.toNat_natCast, Int.toNat_natCast, List.getD_eq_getElem?_getD, List.getD_eq_getElem?_getD, hy, hx]; rfl
        have HX : Hid (wr.drew.cell? ⟨b3, off3 + j, none⟩ = some (.int .i64 y) ∧ wr.drew.cell? ⟨b2, off2 + m, none⟩ = some (.int .i64 x)) := hide ⟨hc3 j y hy, hc2 m x hx⟩
        have hjc : (j : Int) < (cl.length : Int) := by omega
        have hmr : (m : Int) < (rl.length : Int) := by omega
        have HNX := hide (fun (hyx : y = x) => (show ∀ (i : Nat) (p r : Int), i < k + 1 → pl[i]? = some p → l[i]? = some r → fitsAt rl cl p r = true from fun i p r hi h1 h2 => by
          rcases Nat.lt_or_ge i k with h | h
          · exact hI i p r h h1 h2
          · obtain rfl : i = k := by omega
            rw [hz] at h1; rw [hr] at h2
            injection h1 with h1; injection h2 with h2
            subst h1 h2
            rw [hfit]; simpa using hyx))
        have HBAD := hide (fun (hyx : (y == x) = false) => (show callM ty cres l rl pl cl = false by
          simp only [callM, Bool.and_eq_false_iff, List.all_eq_false]
          exact .inl ⟨((j : Int), (m : Int)), List.mem_of_getElem? (i := k) (by rw [List.getElem?_zip_eq_some]; exact ⟨hz, hr⟩), by rw [hfit, hyx]; simp⟩))
        clear hI hz hr hc2 hc3 hy hx hfit hzz hr0 hr1 hin
        go_upto_region 5 with fail
        have HBL : Hid (Below w.heap.size w wr.drew) := hide HS2.out.b.drew
        have HWL : Hid (Below w1.heap.size w1 wr.drew) := hide HBK.out.drew
        have HG : Hid (Whole wr.drew (w.heap.size + 2) 28 #[u0, .slice (some ⟨b4, off4, none⟩) pl.length pc, .int .i64 cres, .slice (some ⟨b3, off3, none⟩) cl.length cc, u4]) := hide (HS2.out.g.drewN 1)
        have HF : Hid (Whole wr.drew (w.heap.size + 1) 28 #[v0, v1, .int .i64 res, .slice (some ⟨b2, off2, none⟩) rl.length rc, v4]) := hide (HS2.out.f.drewN 1)
        clear HS2 HBK g1 hcell1 hcell4 hlp
        cases hyx : (y == x) with
        | true =>
          have gx : (y != x) = false := by simp [bne, hyx]
          have HN := hide (HNX.out (by simpa using hyx))
          clear hyx HNX HBAD
          go_region_held3 (fun w' => w'.cell? ⟨w.heap.size + 2, 0, none⟩ = some (u0) ∧ w'.cell? ⟨w.heap.size + 2, 1, none⟩ = some (.slice (some ⟨b4, off4, none⟩) pl.length pc) ∧ w'.cell? ⟨w.heap.size + 2, 2, none⟩ = some (.int .i64 cres) ∧ w'.cell? ⟨w.heap.size + 2, 3, none⟩ = some (.slice (some ⟨b3, off3, none⟩) cl.length cc) ∧ w'.cell? ⟨w.heap.size + 2, 4, none⟩ = some (u4) ∧ w'.cell? ⟨w.heap.size + 1, 3, none⟩ = some (.slice (some ⟨b2, off2, none⟩) rl.length rc) ∧ w'.cell? ⟨b3, off3 + j, none⟩ = some (.int .i64 y) ∧ w'.cell? ⟨b2, off2 + m, none⟩ = some (.int .i64 x)) (exact ⟨HG.out.cell 0, HG.out.cell 1, HG.out.cell 2, HG.out.cell 3, HG.out.cell 4, HF.out.cell 3, HX.out.1, HX.out.2⟩) (first | (go_at_call 86; refine (isreg_any (j : Int) _ _ _ _ _ _ _ _).mono ?_; rintro en wn ⟨rfl, hb⟩; rw [hh]; replace HG := hide (HG.out.below' hb); replace HF := hide (HF.out.below' hb); replace HX := hide (And.intro (cell_below hb HX.out.1) (cell_below hb HX.out.2)); replace HBL := hide (Below.all HBL.out hb); replace HWL := hide (Below.all HWL.out hb); clear hb))
          all_goals
            go_wp2_with fail
            go_roundw
            case rel => exact ⟨k + 1, by go_num, by omega, HWL.out, HN.out⟩
            case measure => simp [intOf]; omega
        | false =>
          have gx : (y != x) = true := by simp [bne, hyx]
          obtain rfl := (HBAD.out hyx).symm.trans HR.out
          clear hyx HNX HBAD
          go_region_held3 (fun w' => w'.cell? ⟨w.heap.size + 2, 0, none⟩ = some (u0) ∧ w'.cell? ⟨w.heap.size + 2, 1, none⟩ = some (.slice (some ⟨b4, off4, none⟩) pl.length pc) ∧ w'.cell? ⟨w.heap.size + 2, 2, none⟩ = some (.int .i64 cres) ∧ w'.cell? ⟨w.heap.size + 2, 3, none⟩ = some (.slice (some ⟨b3, off3, none⟩) cl.length cc) ∧ w'.cell? ⟨w.heap.size + 2, 4, none⟩ = some (u4) ∧ w'.cell? ⟨w.heap.size + 1, 3, none⟩ = some (.slice (some ⟨b2, off2, none⟩) rl.length rc) ∧ w'.cell? ⟨b3, off3 + j, none⟩ = some (.int .i64 y) ∧ w'.cell? ⟨b2, off2 + m, none⟩ = some (.int .i64 x)) (exact ⟨HG.out.cell 0, HG.out.cell 1, HG.out.cell 2, HG.out.cell 3, HG.out.cell 4, HF.out.cell 3, HX.out.1, HX.out.2⟩) (first | (go_at_call 86; refine (isreg_any (j : Int) _ _ _ _ _ _ _ _).mono ?_; rintro en wn ⟨rfl, hb⟩; rw [hh]; replace HG := hide (HG.out.below' hb); replace HF := hide (HF.out.below' hb); replace HX := hide (And.intro (cell_below hb HX.out.1) (cell_below hb HX.out.2)); replace HBL := hide (Below.all HBL.out hb); replace HWL := hide (Below.all HWL.out hb); clear hb))
          all_goals
            go_wp2_with fail
            go_ret
            exact ⟨rfl, HBL.out⟩
    · obtain rfl : k = l.length := by omega
      have hall : (pl.zip l).all (fun x => fitsAt rl cl x.1 x.2) = true := by
        rw [List.all_eq_true]
        rintro ⟨p, r⟩ hx
        obtain ⟨i, hi⟩ := List.getElem?_of_mem hx
        rw [List.getElem?_zip_eq_some] at hi
        exact hI i p r (List.getElem?_eq_some_iff.1 hi.2).1 hi.1 hi.2
      have hfin : (ty == cres) = R := by have := HR.out; unfold callM at this; rw [hall] at this; rw [← this]; by_cases h : ty = cres <;> simp [h]
      have i1 : wr.cell? ⟨w.heap.size, 1, none⟩ = some (.int .i64 ty) := HS2.out.i.cell 1
      have g2 : wr.cell? ⟨w.heap.size + 2, 2, none⟩ = some (.int .i64 cres) := HS2.out.g.cell 2
      clear hI hall HR
      go_wp2_with fail
      go_ret
      exact ⟨by first | rfl | (rw [← hfin]; rfl), HS2.out.b⟩
end Go.Proofs.YtnhaanjpcnnifaaDoor

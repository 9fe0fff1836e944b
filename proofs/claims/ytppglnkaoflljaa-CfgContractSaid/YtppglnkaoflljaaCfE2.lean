/-
  Layer 14 (the reference): equalBlock, of what says the same.
-/
import Derived.Test.YtppglnkaoflljaaCfE1
import Derived.Test.YtppglnkaoflljaaCfH
import Derived.Test.YtppglnkaoflljaaCfFbk
import Derived.Deep.RegionHeld3
import Derived.Deep.Cut
namespace Go.Proofs.Ytppglnkaoflljaa
open Go.RowKit Go.Deep

theorem TmD.all1' {x : TmD} : x.cells.toArray.all (·.oneCell') = true := all_oneCell_toArray (fun v hv => List.all_eq_true.1 (show x.cells.all (·.oneCell') = true by rfl) v hv)
theorem at_pure {D P : Type} {p : D → P} {l m : List D} (h : l.map p = m.map p) {i : Nat} {x : D} (hx : l[i]? = some x) : ∃ y, m[i]? = some y ∧ p x = p y := by
  have h1 := congrArg (fun l => l[i]?) h
  simp only [List.getElem?_map, hx, Option.map_some] at h1
  cases hy : m[i]? with
  | none => rw [hy] at h1; cases h1
  | some y => rw [hy] at h1; injection h1 with h1; exact ⟨y, rfl, h1⟩
/-- Behind the first statement: the two terminators in variables of their own. -/
structure EbS (w W : World) (q xb yb : Nat) (a b : BkD) : Prop where
  A : Whole W q 54 a.cells.toArray
  C : Whole W (q + 1) 54 b.cells.toArray
  X : Whole W xb 51 a.term.cells.toArray
  Y : Whole W yb 51 b.term.cells.toArray
  B : Below w.heap.size w W
theorem EbS.next {w W W' : World} {q xb yb : Nat} {a b : BkD} (h : EbS w W q xb yb a b) (hb : Below W.heap.size W W') : EbS w W' q xb yb a b :=
  ⟨h.A.below' hb, h.C.below' hb, h.X.below' hb, h.Y.below' hb, Below.all h.B hb⟩
set_option maxRecDepth 100000 in
set_option maxHeartbeats 8000000 in
theorem eqblk_any (a b : BkD) (w : World) (ha : a.ok w) (hb : b.ok w) (he : a.pure = b.pure) : Calls Try.prog 45 #[.agg a.cells.toArray, .agg b.cells.toArray] w fun e w' => e = .returned (.bool true) ∧ Below w.heap.size w w' := by
  have hpp : b.params = a.params := (congrArg BkP.params he).symm
  have hpi : a.ins.map InD.pure = b.ins.map InD.pure := congrArg BkP.ins he
  have hpt : a.term.pure = b.term.pure := congrArg BkP.term he
  have hil : b.ins.length = a.ins.length := by have := congrArg List.length hpi; simpa using this.symm
  have hps : a.term.succs.map EdD.pure = b.term.succs.map EdD.pure := congrArg TmP.succs hpt
  have hsl : b.term.succs.length = a.term.succs.length := by have := congrArg List.length hps; simpa using this.symm
  have hta : b.term.args = a.term.args := (congrArg TmP.args hpt).symm
  have htc : b.term.cases = a.term.cases := (congrArg TmP.cases hpt).symm
  have htk : b.term.kind = a.term.kind := (congrArg TmP.kind hpt).symm
  have hty : b.term.sym = a.term.sym := (congrArg TmP.sym hpt).symm
  obtain ⟨q, hq⟩ : ∃ q, w.heap.size = q := ⟨_, rfl⟩
  obtain ⟨w1, hw1⟩ : ∃ z, (w.alloc (.cells a.cells.toArray 54)).alloc (.cells b.cells.toArray 54) = z := ⟨_, rfl⟩
  have HB : Hid (Below w.heap.size w w1) := hide (by rw [← hw1]; exact ((Below.refl _ _).alloc (Nat.le_refl _) _).alloc (by simp) _)
  have HA : Hid (Whole w1 q 54 a.cells.toArray) := hide (by rw [← hw1, ← hq]; exact (Whole.new w _ _).alloc _)
  have HC : Hid (Whole w1 (q + 1) 54 b.cells.toArray) := hide (by
    rw [← hw1, ← hq, show w.heap.size + 1 = (w.alloc (.cells a.cells.toArray 54)).heap.size by simp]; exact Whole.new _ _ _)
  have hQ : Hid (w.heap.size = q) := hide hq
  have HX := hide ha
  have HY := hide hb
  have HPI := hide hpi
  have HPS := hide hps
  have HIL := hide hil
  have HSL := hide hsl
  have HPP := hide hpp
  have HT := hide (And.intro hta (And.intro htc (And.intro htk hty)))
  have hS : ∀ W, Below w1.heap.size w1 W → W.cell? ⟨q, 2, none⟩ = some (.int .i64 a.term.kind) ∧ W.cell? ⟨q, 3, none⟩ = some (.slice a.term.argsA a.term.args.length a.term.argsc) ∧ W.cell? ⟨q, 4, none⟩ = some (.slice a.term.casesA a.term.cases.length a.term.casesc) ∧ W.cell? ⟨q, 5, none⟩ = some (.slice a.term.succsA a.term.succs.length a.term.succsc) ∧ W.cell? ⟨q, 6, none⟩ = some (.int .i64 a.term.sym) ∧ W.cell? ⟨q + 1, 2, none⟩ = some (.int .i64 b.term.kind) ∧ W.cell? ⟨q + 1, 3, none⟩ = some (.slice b.term.argsA b.term.args.length b.term.argsc) ∧ W.cell? ⟨q + 1, 4, none⟩ = some (.slice b.term.casesA b.term.cases.length b.term.casesc) ∧ W.cell? ⟨q + 1, 5, none⟩ = some (.slice b.term.succsA b.term.succs.length b.term.succsc) ∧ W.cell? ⟨q + 1, 6, none⟩ = some (.int .i64 b.term.sym) := fun W hW =>
    ⟨(HA.out.below' hW).cell 2, (HA.out.below' hW).cell 3, (HA.out.below' hW).cell 4, (HA.out.below' hW).cell 5, (HA.out.below' hW).cell 6, (HC.out.below' hW).cell 2, (HC.out.below' hW).cell 3, (HC.out.below' hW).cell 4, (HC.out.below' hW).cell 5, (HC.out.below' hW).cell 6⟩
  have HS := hide hS
  have K0 := hide (hS w1 (Below.refl _ _))
  have K1 := hide (fun o => hS (w1.alloc o) ((Below.refl _ _).alloc (Nat.le_refl _) o))
  have K2 := hide (fun o o' => hS ((w1.alloc o).alloc o') (((Below.refl _ _).alloc (Nat.le_refl _) o).alloc (by simp) o'))
  have E1 : Hid (EbS w ((w1.alloc (.cells a.term.cells.toArray 51)).alloc (.cells b.term.cells.toArray 51)) q w1.heap.size (w1.heap.size + 1) a b) := hide ⟨(HA.out.alloc _).alloc _, (HC.out.alloc _).alloc _, (Whole.new w1 _ _).alloc _, (by have := Whole.new (w1.alloc (.cells a.term.cells.toArray 51)) 51 b.term.cells.toArray; rw [World.size_alloc] at this; exact this), (HB.out.alloc HB.out.size _).alloc (by rw [World.size_alloc]; exact Nat.le_succ_of_le HB.out.size) _⟩
  have E2 : Hid (EbS w ((w1.alloc (.cells b.term.cells.toArray 51)).alloc (.cells a.term.cells.toArray 51)) q (w1.heap.size + 1) w1.heap.size a b) := hide ⟨(HA.out.alloc _).alloc _, (HC.out.alloc _).alloc _, (by have := Whole.new (w1.alloc (.cells b.term.cells.toArray 51)) 51 a.term.cells.toArray; rw [World.size_alloc] at this; exact this), (Whole.new w1 _ _).alloc _, (HB.out.alloc HB.out.size _).alloc (by rw [World.size_alloc]; exact Nat.le_succ_of_le HB.out.size) _⟩
  have E3 := E1
  have E4 := E2
  clear ha hb he hpp hpi hpt hil hps hsl hta htc htk hty hS
  go_enter Try.func45, Try.ntmps45
  go_upto_region 1 with fail
  clear hw1 hq
  go_cut [5, 6] from 10 (fun x y wx => ∃ xb yb, x = .pointer (some ⟨xb, 0, none⟩) ∧ y = .pointer (some ⟨yb, 0, none⟩) ∧ Hid (EbS w wx q xb yb a b))
  case first =>
    go_region_held3 (fun w' => w'.cell? ⟨q, 2, none⟩ = some (.int .i64 a.term.kind) ∧ w'.cell? ⟨q, 3, none⟩ = some (.slice a.term.argsA a.term.args.length a.term.argsc) ∧ w'.cell? ⟨q, 4, none⟩ = some (.slice a.term.casesA a.term.cases.length a.term.casesc) ∧ w'.cell? ⟨q, 5, none⟩ = some (.slice a.term.succsA a.term.succs.length a.term.succsc) ∧ w'.cell? ⟨q, 6, none⟩ = some (.int .i64 a.term.sym) ∧ w'.cell? ⟨q + 1, 2, none⟩ = some (.int .i64 b.term.kind) ∧ w'.cell? ⟨q + 1, 3, none⟩ = some (.slice b.term.argsA b.term.args.length b.term.argsc) ∧ w'.cell? ⟨q + 1, 4, none⟩ = some (.slice b.term.casesA b.term.cases.length b.term.casesc) ∧ w'.cell? ⟨q + 1, 5, none⟩ = some (.slice b.term.succsA b.term.succs.length b.term.succsc) ∧ w'.cell? ⟨q + 1, 6, none⟩ = some (.int .i64 b.term.sym)) (first | with_reducible exact K0.out | with_reducible exact K1.out _ | with_reducible exact K2.out _ _ | exact K0.out | exact K1.out _ | exact K2.out _ _) (fail)
    all_goals
      go_wp2_with fail
      go_meet
      case rel => first | exact ⟨_, _, rfl, rfl, hide ⟨E1.out.A, E1.out.C, E1.out.X, E1.out.Y, ⟨E1.out.B.os, E1.out.B.tape, E1.out.B.output, E1.out.B.size, E1.out.B.block⟩⟩⟩ | exact ⟨_, _, rfl, rfl, hide ⟨E2.out.A, E2.out.C, E2.out.X, E2.out.Y, ⟨E2.out.B.os, E2.out.B.tape, E2.out.B.output, E2.out.B.size, E2.out.B.block⟩⟩⟩ | exact ⟨_, _, rfl, rfl, hide ⟨E3.out.A, E3.out.C, E3.out.X, E3.out.Y, ⟨E3.out.B.os, E3.out.B.tape, E3.out.B.output, E3.out.B.size, E3.out.B.block⟩⟩⟩ | exact ⟨_, _, rfl, rfl, hide ⟨E4.out.A, E4.out.C, E4.out.X, E4.out.Y, ⟨E4.out.B.os, E4.out.B.tape, E4.out.B.output, E4.out.B.size, E4.out.B.block⟩⟩⟩
  case rest =>
    clear HA HC HS K0 K1 K2 E1 E2 E3 E4 HB
    obtain ⟨xb, yb, rfl, rfl, HE⟩ := hcut
    have FACT : Hid (∀ W, EbS w W q xb yb a b → (W.cell? ⟨q, 0, none⟩ = some (.slice a.paramsA a.params.length a.paramsc) ∧ W.cell? ⟨q + 1, 0, none⟩ = some (.slice b.paramsA a.params.length b.paramsc) ∧ W.cell? ⟨q, 1, none⟩ = some (.slice a.insA a.ins.length a.insc) ∧ W.cell? ⟨q + 1, 1, none⟩ = some (.slice b.insA a.ins.length b.insc)) ∧
        (W.cell? ⟨xb, 0, none⟩ = some (.int .i64 a.term.kind) ∧ W.cell? ⟨xb, 1, none⟩ = some (.slice a.term.argsA a.term.args.length a.term.argsc) ∧ W.cell? ⟨xb, 2, none⟩ = some (.slice a.term.casesA a.term.cases.length a.term.casesc) ∧ W.cell? ⟨xb, 3, none⟩ = some (.slice a.term.succsA a.term.succs.length a.term.succsc) ∧ W.cell? ⟨xb, 4, none⟩ = some (.int .i64 a.term.sym)) ∧
        (W.cell? ⟨yb, 0, none⟩ = some (.int .i64 a.term.kind) ∧ W.cell? ⟨yb, 1, none⟩ = some (.slice b.term.argsA a.term.args.length b.term.argsc) ∧ W.cell? ⟨yb, 2, none⟩ = some (.slice b.term.casesA a.term.cases.length b.term.casesc) ∧ W.cell? ⟨yb, 3, none⟩ = some (.slice b.term.succsA a.term.succs.length b.term.succsc) ∧ W.cell? ⟨yb, 4, none⟩ = some (.int .i64 a.term.sym))) := hide (fun W h =>
      ⟨⟨h.A.cell 0, by rw [← HPP.out]; exact h.C.cell 0, h.A.cell 1, by rw [← HIL.out]; exact h.C.cell 1⟩, ⟨h.X.cell 0, h.X.cell 1, h.X.cell 2, h.X.cell 3, h.X.cell 4⟩,
       ⟨by rw [← HT.out.2.2.1]; exact h.Y.cell 0, by rw [← HT.out.1]; exact h.Y.cell 1, by rw [← HT.out.2.1]; exact h.Y.cell 2, by rw [← HSL.out]; exact h.Y.cell 3, by rw [← HT.out.2.2.2]; exact h.Y.cell 4⟩⟩)
    have RD : Hid (∀ W, EbS w W q xb yb a b → (Rd W .i64 (.slice a.paramsA a.params.length a.paramsc) a.params ∧ Rd W .i64 (.slice b.paramsA a.params.length b.paramsc) a.params) ∧ (Rd W .i64 (.slice a.term.argsA a.term.args.length a.term.argsc) a.term.args ∧ Rd W .i64 (.slice b.term.argsA a.term.args.length b.term.argsc) a.term.args) ∧ (Rd W .i64 (.slice a.term.casesA a.term.cases.length a.term.casesc) a.term.cases ∧ Rd W .i64 (.slice b.term.casesA a.term.cases.length b.term.casesc) a.term.cases)) := hide (fun W h =>
      ⟨⟨HX.out.params.below' h.B, by have := HY.out.params.below' h.B; rwa [HPP.out] at this⟩, ⟨HX.out.term.args.below' h.B, by have := HY.out.term.args.below' h.B; rwa [HT.out.1] at this⟩, ⟨HX.out.term.cases.below' h.B, by have := HY.out.term.cases.below' h.B; rwa [HT.out.2.1] at this⟩⟩)
    have hcap1 : a.insc ≤ 9223372036854775807 := by have h := HX.out.ins.room.2; unfold maxLen at h; omega
    have hcap2 : b.insc ≤ 9223372036854775807 := by have h := HY.out.ins.room.2; unfold maxLen at h; omega
    have hcap3 : a.term.succsc ≤ 9223372036854775807 := by have h := HX.out.term.succs.room.2; unfold maxLen at h; omega
    have hcap4 : b.term.succsc ≤ 9223372036854775807 := by have h := HY.out.term.succs.room.2; unfold maxLen at h; omega
    have hl1 : a.ins.length ≤ 17592186044416 := HX.out.insB
    have hl2 : a.term.succs.length ≤ 17592186044416 := HX.out.term.succsB
    obtain ⟨SA, hSA⟩ : ∃ SA, a.term.succsA = SA := ⟨_, rfl⟩
    rw [hSA] at FACT
    have HSA := hide hSA
    clear hSA
    have hf := FACT.out _ HE.out
    obtain ⟨⟨a0, b0, a1, b1⟩, ⟨x0, x1, x2, x3, x4⟩, ⟨y0, y1, y2, y3, y4⟩⟩ := hf
    go_upto_region 4 with (first
      | (go_at_call 19; (first | ((with_reducible refine (eqsame_int _ _ a.params _ (RD.out _ HE.out).1.1 (RD.out _ HE.out).1.2).mono ?_)) | ((with_reducible refine (eqsame_int _ _ a.term.args _ (RD.out _ HE.out).2.1.1 (RD.out _ HE.out).2.1.2).mono ?_))); rintro en w2 ⟨rfl, hb⟩; replace HE := hide (HE.out.next hb); clear hb a0 b0 a1 b1 x0 x1 x2 x3 x4 y0 y1 y2 y3 y4; obtain ⟨⟨a0, b0, a1, b1⟩, ⟨x0, x1, x2, x3, x4⟩, ⟨y0, y1, y2, y3, y4⟩⟩ := FACT.out _ HE.out)
      | (go_at_call 55; refine (eqsame_i64 _ _ a.term.cases _ (RD.out _ HE.out).2.2.1 (RD.out _ HE.out).2.2.2).mono ?_; rintro en w2 ⟨rfl, hb⟩; replace HE := hide (HE.out.next hb); clear hb a0 b0 a1 b1 x0 x1 x2 x3 x4 y0 y1 y2 y3 y4; obtain ⟨⟨a0, b0, a1, b1⟩, ⟨x0, x1, x2, x3, x4⟩, ⟨y0, y1, y2, y3, y4⟩⟩ := FACT.out _ HE.out))
    go_wp2_with fail
    clear a0 b0 a1 b1 x0 x1 x2 x3 x4 y0 y1 y2 y3 y4
    go_loopw [71] (fun z wr => ∃ k : Nat, k ≤ a.ins.length ∧ z = .int .i64 k ∧ Hid (EbS w wr q xb yb a b)) (fun z _ => a.ins.length - (intOf z).toNat)
    case atStart => exact ⟨0, Nat.zero_le _, rfl, HE⟩
    case round =>
      clear HE
      obtain ⟨wq, rfl⟩ : ∃ x, x = wr := ⟨_, rfl⟩
      obtain ⟨k, hk, rfl, HE⟩ := hrel
      by_cases hlt : k < a.ins.length
      · obtain ⟨x, hx⟩ : ∃ x, a.ins[k]? = some x := ⟨_, List.getElem?_eq_getElem hlt⟩
        obtain ⟨y, hy, hxy⟩ := at_pure HPI.out hx
        obtain ⟨ba, oa, hA1, hla, hra⟩ := (HX.out.ins.below' HE.out.B).row (i := k) (r := x.cells) (by rw [List.getElem?_map, hx]; rfl)
        obtain ⟨bb, ob, hB1, hlb, hrb⟩ := (HY.out.ins.below' HE.out.B).row (i := k) (r := y.cells) (by rw [List.getElem?_map, hy]; rfl)
        have hf := FACT.out _ HE.out
        have a1 : wq.cell? ⟨q, 1, none⟩ = some (.slice (some ⟨ba, oa, none⟩) a.ins.length a.insc) := by rw [← hA1]; exact hf.1.2.2.1
        have b1 : wq.cell? ⟨q + 1, 1, none⟩ = some (.slice (some ⟨bb, ob, none⟩) a.ins.length b.insc) := by rw [← hB1]; exact hf.1.2.2.2
        have HXo := hide ((HX.out.insO x (List.mem_of_getElem? hx)).below HE.out.B)
        have HYo := hide ((HY.out.insO y (List.mem_of_getElem? hy)).below HE.out.B)
        have HXY := hide hxy
        have K : Hid (wq.cell? ⟨q, 1, none⟩ = some (.slice (some ⟨ba, oa, none⟩) a.ins.length a.insc) ∧ wq.cell? ⟨q + 1, 1, none⟩ = some (.slice (some ⟨bb, ob, none⟩) a.ins.length b.insc) ∧ wq.cell? ⟨ba, oa + k * 8, none⟩ = some (.int .i64 x.op) ∧ wq.cell? ⟨ba, oa + k * 8 + 1, none⟩ = some (.int .i64 x.ty) ∧ wq.cell? ⟨ba, oa + k * 8 + 2, none⟩ = some (.int .i64 x.dst) ∧ wq.cell? ⟨ba, oa + k * 8 + 3, none⟩ = some (.slice x.argsA x.args.length x.argsc) ∧ wq.cell? ⟨ba, oa + k * 8 + 4, none⟩ = some (.int .i64 x.imm) ∧ wq.cell? ⟨ba, oa + k * 8 + 5, none⟩ = some (.int .i64 x.sym) ∧ wq.cell? ⟨ba, oa + k * 8 + 6, none⟩ = some (.int .i64 x.el) ∧ wq.cell? ⟨ba, oa + k * 8 + 7, none⟩ = some (.bool x.nw) ∧ wq.cell? ⟨bb, ob + k * 8, none⟩ = some (.int .i64 y.op) ∧ wq.cell? ⟨bb, ob + k * 8 + 1, none⟩ = some (.int .i64 y.ty) ∧ wq.cell? ⟨bb, ob + k * 8 + 2, none⟩ = some (.int .i64 y.dst) ∧ wq.cell? ⟨bb, ob + k * 8 + 3, none⟩ = some (.slice y.argsA y.args.length y.argsc) ∧ wq.cell? ⟨bb, ob + k * 8 + 4, none⟩ = some (.int .i64 y.imm) ∧ wq.cell? ⟨bb, ob + k * 8 + 5, none⟩ = some (.int .i64 y.sym) ∧ wq.cell? ⟨bb, ob + k * 8 + 6, none⟩ = some (.int .i64 y.el) ∧ wq.cell? ⟨bb, ob + k * 8 + 7, none⟩ = some (.bool y.nw)) := hide ⟨a1, b1, hra 0 _ rfl, hra 1 _ rfl, hra 2 _ rfl, hra 3 _ rfl, hra 4 _ rfl, hra 5 _ rfl, hra 6 _ rfl, hra 7 _ rfl, hrb 0 _ rfl, hrb 1 _ rfl, hrb 2 _ rfl, hrb 3 _ rfl, hrb 4 _ rfl, hrb 5 _ rfl, hrb 6 _ rfl, hrb 7 _ rfl⟩
        clear hx hy hxy hA1 hB1 hla hlb hra hrb hf a1 b1
        go_upto_region 7 with fail
        go_region_held3 (fun w' => w'.cell? ⟨q, 1, none⟩ = some (.slice (some ⟨ba, oa, none⟩) a.ins.length a.insc) ∧ w'.cell? ⟨q + 1, 1, none⟩ = some (.slice (some ⟨bb, ob, none⟩) a.ins.length b.insc) ∧ w'.cell? ⟨ba, oa + k * 8, none⟩ = some (.int .i64 x.op) ∧ w'.cell? ⟨ba, oa + k * 8 + 1, none⟩ = some (.int .i64 x.ty) ∧ w'.cell? ⟨ba, oa + k * 8 + 2, none⟩ = some (.int .i64 x.dst) ∧ w'.cell? ⟨ba, oa + k * 8 + 3, none⟩ = some (.slice x.argsA x.args.length x.argsc) ∧ w'.cell? ⟨ba, oa + k * 8 + 4, none⟩ = some (.int .i64 x.imm) ∧ w'.cell? ⟨ba, oa + k * 8 + 5, none⟩ = some (.int .i64 x.sym) ∧ w'.cell? ⟨ba, oa + k * 8 + 6, none⟩ = some (.int .i64 x.el) ∧ w'.cell? ⟨ba, oa + k * 8 + 7, none⟩ = some (.bool x.nw) ∧ w'.cell? ⟨bb, ob + k * 8, none⟩ = some (.int .i64 y.op) ∧ w'.cell? ⟨bb, ob + k * 8 + 1, none⟩ = some (.int .i64 y.ty) ∧ w'.cell? ⟨bb, ob + k * 8 + 2, none⟩ = some (.int .i64 y.dst) ∧ w'.cell? ⟨bb, ob + k * 8 + 3, none⟩ = some (.slice y.argsA y.args.length y.argsc) ∧ w'.cell? ⟨bb, ob + k * 8 + 4, none⟩ = some (.int .i64 y.imm) ∧ w'.cell? ⟨bb, ob + k * 8 + 5, none⟩ = some (.int .i64 y.sym) ∧ w'.cell? ⟨bb, ob + k * 8 + 6, none⟩ = some (.int .i64 y.el) ∧ w'.cell? ⟨bb, ob + k * 8 + 7, none⟩ = some (.bool y.nw)) (first | exact K.out | exact KB.out) ((go_at_call 56; refine (eqins_any x y _ (HXo.out.below (Below.refl _ _).drew) (HYo.out.below (Below.refl _ _).drew) HXY.out).mono ?_; rintro en w3 ⟨rfl, hb⟩; have hb : Below wq.heap.size wq w3 := ⟨hb.os, hb.tape, hb.output, hb.size, hb.block⟩; have KB : Hid (_) := hide (show w3.cell? ⟨q, 1, none⟩ = some (.slice (some ⟨ba, oa, none⟩) a.ins.length a.insc) ∧ w3.cell? ⟨q + 1, 1, none⟩ = some (.slice (some ⟨bb, ob, none⟩) a.ins.length b.insc) ∧ w3.cell? ⟨ba, oa + k * 8, none⟩ = some (.int .i64 x.op) ∧ w3.cell? ⟨ba, oa + k * 8 + 1, none⟩ = some (.int .i64 x.ty) ∧ w3.cell? ⟨ba, oa + k * 8 + 2, none⟩ = some (.int .i64 x.dst) ∧ w3.cell? ⟨ba, oa + k * 8 + 3, none⟩ = some (.slice x.argsA x.args.length x.argsc) ∧ w3.cell? ⟨ba, oa + k * 8 + 4, none⟩ = some (.int .i64 x.imm) ∧ w3.cell? ⟨ba, oa + k * 8 + 5, none⟩ = some (.int .i64 x.sym) ∧ w3.cell? ⟨ba, oa + k * 8 + 6, none⟩ = some (.int .i64 x.el) ∧ w3.cell? ⟨ba, oa + k * 8 + 7, none⟩ = some (.bool x.nw) ∧ w3.cell? ⟨bb, ob + k * 8, none⟩ = some (.int .i64 y.op) ∧ w3.cell? ⟨bb, ob + k * 8 + 1, none⟩ = some (.int .i64 y.ty) ∧ w3.cell? ⟨bb, ob + k * 8 + 2, none⟩ = some (.int .i64 y.dst) ∧ w3.cell? ⟨bb, ob + k * 8 + 3, none⟩ = some (.slice y.argsA y.args.length y.argsc) ∧ w3.cell? ⟨bb, ob + k * 8 + 4, none⟩ = some (.int .i64 y.imm) ∧ w3.cell? ⟨bb, ob + k * 8 + 5, none⟩ = some (.int .i64 y.sym) ∧ w3.cell? ⟨bb, ob + k * 8 + 6, none⟩ = some (.int .i64 y.el) ∧ w3.cell? ⟨bb, ob + k * 8 + 7, none⟩ = some (.bool y.nw) from ⟨cell_below hb (K.out.1), cell_below hb (K.out.2.1), cell_below hb (K.out.2.2.1), cell_below hb (K.out.2.2.2.1), cell_below hb (K.out.2.2.2.2.1), cell_below hb (K.out.2.2.2.2.2.1), cell_below hb (K.out.2.2.2.2.2.2.1), cell_below hb (K.out.2.2.2.2.2.2.2.1), cell_below hb (K.out.2.2.2.2.2.2.2.2.1), cell_below hb (K.out.2.2.2.2.2.2.2.2.2.1), cell_below hb (K.out.2.2.2.2.2.2.2.2.2.2.1), cell_below hb (K.out.2.2.2.2.2.2.2.2.2.2.2.1), cell_below hb (K.out.2.2.2.2.2.2.2.2.2.2.2.2.1), cell_below hb (K.out.2.2.2.2.2.2.2.2.2.2.2.2.2.1), cell_below hb (K.out.2.2.2.2.2.2.2.2.2.2.2.2.2.2.1), cell_below hb (K.out.2.2.2.2.2.2.2.2.2.2.2.2.2.2.2.1), cell_below hb (K.out.2.2.2.2.2.2.2.2.2.2.2.2.2.2.2.2.1), cell_below hb (K.out.2.2.2.2.2.2.2.2.2.2.2.2.2.2.2.2.2)⟩); replace HE := hide (HE.out.next hb); clear hb))
        all_goals
          go_wp2_with fail
          go_roundw
          case rel => exact ⟨k + 1, by omega, by go_num, HE⟩
          case measure => simp [intOf]; omega
      · have hkl : k = a.ins.length := by omega
        clear hkl
        have x3 := (FACT.out _ HE.out).2.1.2.2.2.1
        go_wp2_with fail
        clear x3
        have HSx : Hid (RdN w 2 (.slice SA a.term.succs.length a.term.succsc) (a.term.succs.map EdD.cells)) := hide (by rw [← HSA.out]; exact HX.out.term.succs)
        go_loopw [90] (fun z wr => ∃ k : Nat, k ≤ a.term.succs.length ∧ z = .int .i64 k ∧ Hid (EbS w wr q xb yb a b)) (fun z _ => a.term.succs.length - (intOf z).toNat)
        case atStart => exact ⟨0, Nat.zero_le _, rfl, HE⟩
        case round =>
          clear HE
          obtain ⟨wp, rfl⟩ : ∃ x, x = wr := ⟨_, rfl⟩
          obtain ⟨j, hj, rfl, HE⟩ := hrel
          by_cases hlt2 : j < a.term.succs.length
          · obtain ⟨e, hx⟩ : ∃ e, a.term.succs[j]? = some e := ⟨_, List.getElem?_eq_getElem hlt2⟩
            obtain ⟨e2, hy, hxy⟩ := at_pure HPS.out hx
            obtain ⟨b1, o1, rfl, hl1', hr1⟩ := (HSx.out.below' HE.out.B).row (i := j) (r := e.cells) (by rw [List.getElem?_map, hx]; rfl)
            obtain ⟨b2, o2, hB1, hlb, hrb⟩ := (HY.out.term.succs.below' HE.out.B).row (i := j) (r := e2.cells) (by rw [List.getElem?_map, hy]; rfl)
            have HRow : Hid (wp.rangeAt b1 (o1 + j * 2) e.cells) := hide hr1
            have y3 := (FACT.out _ HE.out).2.2.2.2.2.1
            rw [hB1] at y3
            have hea : e2.args = e.args := (congrArg EdP.args hxy).symm
            have heb : e2.blk = e.blk := (congrArg EdP.blk hxy).symm
            have k0 : wp.cell? ⟨b2, o2 + j * 2, none⟩ = some (.int .i64 e.blk) := by rw [← heb]; exact hrb 0 _ rfl
            have k1 : wp.cell? ⟨b2, o2 + j * 2 + 1, none⟩ = some (.slice e2.argsA e.args.length e2.argsc) := by rw [← hea]; exact hrb 1 _ rfl
            have HRe : Hid (Rd w .i64 (.slice e.argsA e.args.length e.argsc) e.args ∧ Rd w .i64 (.slice e2.argsA e.args.length e2.argsc) e.args) := hide ⟨(HX.out.term.succsO e (List.mem_of_getElem? hx)).args, by have := (HY.out.term.succsO e2 (List.mem_of_getElem? hy)).args; rwa [hea] at this⟩
            have HU2 := hide Try.underlying56
            have hi2 : (Try.prog.info? 56).map (·.size) = some 2 := by kernel_rfl
            have HI2 := hide hi2
            clear hx hy hxy hl1' hr1 hB1 hlb hrb hea heb hi2
            go_upto_region 12 with fail
            refine wp_region_lit ?_
            go_step; go_step; go_step
            go_step; go_step; go_step
            refine wpList_load_mid (by rfl) _ _ rfl b1 (o1 + j * 2) (by rfl) e.cells _ HRow.out HU2.out rfl HI2.out ?_
            go_step; go_step; go_step
            go_step; go_step; go_step
            refine wpList_store_new (by rfl) _ _ _ rfl _ _ e.cells (by rfl) (by rfl) (by rfl) HI2.out EdD.all1' ?_
            obtain ⟨ev, hev⟩ : ∃ ev, wp.heap.size = ev := ⟨_, rfl⟩
            rw [hev]
            obtain ⟨w5, hw5⟩ : ∃ z, wp.alloc (.cells e.cells.toArray 56) = z := ⟨_, rfl⟩
            have b15 : Below wp.heap.size wp w5 := by rw [← hw5]; exact (Below.refl _ _).alloc (Nat.le_refl _) _
            have A5 : Whole w5 ev 56 e.cells.toArray := by rw [← hw5, ← hev]; exact Whole.new wp _ _
            have K : Hid (w5.cell? ⟨ev, 0, none⟩ = some (.int .i64 e.blk) ∧ w5.cell? ⟨ev, 1, none⟩ = some (.slice e.argsA e.args.length e.argsc) ∧ w5.cell? ⟨yb, 3, none⟩ = some (.slice (some ⟨b2, o2, none⟩) a.term.succs.length b.term.succsc) ∧ w5.cell? ⟨b2, o2 + j * 2, none⟩ = some (.int .i64 e.blk) ∧ w5.cell? ⟨b2, o2 + j * 2 + 1, none⟩ = some (.slice e2.argsA e.args.length e2.argsc)) := hide ⟨A5.cell 0, A5.cell 1, cell_below b15 y3, cell_below b15 k0, cell_below b15 k1⟩
            replace HE := hide (HE.out.next b15)
            rw [hw5]
            clear hw5 b15 A5 HRow hev y3 k0 k1
            go_upto_region 13 with fail
            go_region_held3 (fun w' => w'.cell? ⟨ev, 0, none⟩ = some (.int .i64 e.blk) ∧ w'.cell? ⟨ev, 1, none⟩ = some (.slice e.argsA e.args.length e.argsc) ∧ w'.cell? ⟨yb, 3, none⟩ = some (.slice (some ⟨b2, o2, none⟩) a.term.succs.length b.term.succsc) ∧ w'.cell? ⟨b2, o2 + j * 2, none⟩ = some (.int .i64 e.blk) ∧ w'.cell? ⟨b2, o2 + j * 2 + 1, none⟩ = some (.slice e2.argsA e.args.length e2.argsc)) (first | exact K.out | exact KB.out) ((go_at_call 19; refine (eqsame_int _ _ e.args _ (HRe.out.1.below' HE.out.B.drew) (HRe.out.2.below' HE.out.B.drew)).mono ?_; rintro en w6 ⟨rfl, hb⟩; have hb : Below w5.heap.size w5 w6 := ⟨hb.os, hb.tape, hb.output, hb.size, hb.block⟩; have KB : Hid (w6.cell? ⟨ev, 0, none⟩ = some (.int .i64 e.blk) ∧ w6.cell? ⟨ev, 1, none⟩ = some (.slice e.argsA e.args.length e.argsc) ∧ w6.cell? ⟨yb, 3, none⟩ = some (.slice (some ⟨b2, o2, none⟩) a.term.succs.length b.term.succsc) ∧ w6.cell? ⟨b2, o2 + j * 2, none⟩ = some (.int .i64 e.blk) ∧ w6.cell? ⟨b2, o2 + j * 2 + 1, none⟩ = some (.slice e2.argsA e.args.length e2.argsc)) := hide ⟨cell_below hb K.out.1, cell_below hb K.out.2.1, cell_below hb K.out.2.2.1, cell_below hb K.out.2.2.2.1, cell_below hb K.out.2.2.2.2⟩; replace HE := hide (HE.out.next hb); clear hb))
            all_goals
              go_wp2_with fail
              go_roundw
              case rel => exact ⟨j + 1, by omega, by go_num, HE⟩
              case measure => simp [intOf]; omega
          · go_wp2_with fail
            go_ret
            exact ⟨rfl, HE.out.B⟩
end Go.Proofs.Ytppglnkaoflljaa

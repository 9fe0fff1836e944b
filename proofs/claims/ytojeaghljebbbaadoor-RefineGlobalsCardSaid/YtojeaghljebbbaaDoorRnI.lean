/-
  Layer 19 (refine): the examples.
-/
import Derived.Test.YtojeaghljebbbaaDoorRnE
import Derived.Test.YtojeaghljebbbaaDoorRnG
import Derived.Deep.MidRow
import Derived.BigFrame
namespace Go.Proofs.YtojeaghljebbbaaDoor
open Go.RowKit Go.Deep

theorem Whole.range {w : World} {g : Nat} {t : TypeId} {l : List Value} (h : Whole w g t l.toArray) : w.rangeAt g 0 l := fun j v hv => by
  rw [Nat.zero_add, h.cell j, List.getElem?_toArray]
  exact hv
set_option maxRecDepth 100000 in
set_option maxHeartbeats 16000000 in
theorem outcome_any (a b : OD) (w : World) (hT : Tab w) (ha : a.ok w) (hb : b.ok w) : Calls Tryd.prog 12 #[.agg #[.int .i64 a.kind, .int .i64 a.code, .int .i64 a.res.t, .int .i64 a.res.o, .int .i64 a.res.a.n, .bool a.res.a.p, .bool a.res.a.u, .int .i64 a.res.b.n, .bool a.res.b.p, .bool a.res.b.u, .int .i64 a.res.c.n, .bool a.res.c.p, .bool a.res.c.u, .int .i64 a.res.d.n, .bool a.res.d.p, .bool a.res.d.u, .slice a.outA a.out.length a.outc, .slice a.clA a.cls.length a.clc, .int .i64 a.steps], .agg #[.int .i64 b.kind, .int .i64 b.code, .int .i64 b.res.t, .int .i64 b.res.o, .int .i64 b.res.a.n, .bool b.res.a.p, .bool b.res.a.u, .int .i64 b.res.b.n, .bool b.res.b.p, .bool b.res.b.u, .int .i64 b.res.c.n, .bool b.res.c.p, .bool b.res.c.u, .int .i64 b.res.d.n, .bool b.res.d.p, .bool b.res.d.u, .slice b.outA b.out.length b.outc, .slice b.clA b.cls.length b.clc, .int .i64 b.steps]] w fun e w' => e = .returned (.bool (difD a b == 0)) ∧ Below w.heap.size w w' := by
  obtain ⟨w1, hw1⟩ : ∃ z, (w.alloc (.cells #[.int .i64 a.kind, .int .i64 a.code, .int .i64 a.res.t, .int .i64 a.res.o, .int .i64 a.res.a.n, .bool a.res.a.p, .bool a.res.a.u, .int .i64 a.res.b.n, .bool a.res.b.p, .bool a.res.b.u, .int .i64 a.res.c.n, .bool a.res.c.p, .bool a.res.c.u, .int .i64 a.res.d.n, .bool a.res.d.p, .bool a.res.d.u, .slice a.outA a.out.length a.outc, .slice a.clA a.cls.length a.clc, .int .i64 a.steps] 31)).alloc (.cells #[.int .i64 b.kind, .int .i64 b.code, .int .i64 b.res.t, .int .i64 b.res.o, .int .i64 b.res.a.n, .bool b.res.a.p, .bool b.res.a.u, .int .i64 b.res.b.n, .bool b.res.b.p, .bool b.res.b.u, .int .i64 b.res.c.n, .bool b.res.c.p, .bool b.res.c.u, .int .i64 b.res.d.n, .bool b.res.d.p, .bool b.res.d.u, .slice b.outA b.out.length b.outc, .slice b.clA b.cls.length b.clc, .int .i64 b.steps] 31) = z := ⟨_, rfl⟩
  have HS : Hid (DfS w w1 a b) := hide (by rw [← hw1]; exact DfS.new w a b ha hb)
  have HT := hide hT
  clear ha hb hT
  have hRa : w1.rangeAt w.heap.size 0 a.cl := Whole.range (l := a.cl) HS.out.A
  have hRb : w1.rangeAt (w.heap.size + 1) 0 b.cl := Whole.range (l := b.cl) HS.out.B
  have hu := Tryd.underlying31
  have hi : (Tryd.prog.info? 31).map (·.size) = some 19 := by kernel_rfl
  go_enter Tryd.func12, Tryd.ntmps12
  go_upto_region 1 with fail
  clear hw1
  refine wp_region_lit ?_
  refine wpList_load_mid (by rfl) _ _ rfl w.heap.size 0 (by rfl) a.cl _ hRa hu rfl hi ?_
  refine wpList_load_mid (by rfl) _ _ rfl (w.heap.size + 1) 0 (by rfl) b.cl _ hRb hu rfl hi ?_
  clear hRa hRb hu hi
  go_wp2_with fail
  refine (diff_any a b _ (by exact HT.out.below HS.out.lo) (by exact HS.out.oa) (by exact HS.out.ob)).mono ?_
  rintro en w2 ⟨rfl, hbb⟩
  replace HS := hide (HS.out.next hbb)
  clear hbb
  obtain ⟨D, hD⟩ : ∃ D, difD a b = D := ⟨_, rfl⟩
  rw [hD]
  have HD := hide hD
  clear hD
  go_wp2_with fail
  go_ret
  exact ⟨by rw [HD.out]; rfl, HS.out.lo⟩

/-- One of the first fifty lists holds more than 300 values. -/
def big300 (l : List LD) : Bool := (l.take 50).any fun d => decide (300 < d.vs.length)
def largeB (d : OD) : Bool := big300 d.cls || decide (100 < wrap64 ((d.out.length : Int) + (d.cls.length : Int)))
theorem big_true {l : List LD} {i : Nat} {d : LD} (h : l[i]? = some d) (hi : i < 50) (k : 300 < d.vs.length) : big300 l = true := by
  unfold big300
  rw [List.any_eq_true]
  exact ⟨d, List.mem_of_getElem? (by rw [List.getElem?_take, if_pos hi]; exact h), by simpa using k⟩
theorem big_false {l : List LD} (h : ∀ (j : Nat) d, j < 50 → l[j]? = some d → ¬ 300 < d.vs.length) : big300 l = false := by
  unfold big300
  rw [List.any_eq_false]
  intro d hd
  obtain ⟨j, hj⟩ := List.getElem?_of_mem hd
  rw [List.getElem?_take] at hj
  split at hj
  · rename_i hlt
    simpa using h j d hlt hj
  · cases hj
set_option maxRecDepth 100000 in
set_option maxHeartbeats 16000000 in
theorem large_any (a : OD) (w : World) (ha : a.ok w) : Calls Tryd.prog 8 #[.agg #[.int .i64 a.kind, .int .i64 a.code, .int .i64 a.res.t, .int .i64 a.res.o, .int .i64 a.res.a.n, .bool a.res.a.p, .bool a.res.a.u, .int .i64 a.res.b.n, .bool a.res.b.p, .bool a.res.b.u, .int .i64 a.res.c.n, .bool a.res.c.p, .bool a.res.c.u, .int .i64 a.res.d.n, .bool a.res.d.p, .bool a.res.d.u, .slice a.outA a.out.length a.outc, .slice a.clA a.cls.length a.clc, .int .i64 a.steps]] w fun e w' => e = .returned (.bool (largeB a)) ∧ Below w.heap.size w w' := by
  obtain ⟨w1, hw1⟩ : ∃ z, w.alloc (.cells #[.int .i64 a.kind, .int .i64 a.code, .int .i64 a.res.t, .int .i64 a.res.o, .int .i64 a.res.a.n, .bool a.res.a.p, .bool a.res.a.u, .int .i64 a.res.b.n, .bool a.res.b.p, .bool a.res.b.u, .int .i64 a.res.c.n, .bool a.res.c.p, .bool a.res.c.u, .int .i64 a.res.d.n, .bool a.res.d.p, .bool a.res.d.u, .slice a.outA a.out.length a.outc, .slice a.clA a.cls.length a.clc, .int .i64 a.steps] 31) = z := ⟨_, rfl⟩
  have hA : Whole w1 w.heap.size 31 #[.int .i64 a.kind, .int .i64 a.code, .int .i64 a.res.t, .int .i64 a.res.o, .int .i64 a.res.a.n, .bool a.res.a.p, .bool a.res.a.u, .int .i64 a.res.b.n, .bool a.res.b.p, .bool a.res.b.u, .int .i64 a.res.c.n, .bool a.res.c.p, .bool a.res.c.u, .int .i64 a.res.d.n, .bool a.res.d.p, .bool a.res.d.u, .slice a.outA a.out.length a.outc, .slice a.clA a.cls.length a.clc, .int .i64 a.steps] := by rw [← hw1]; exact Whole.new w _ _
  have hb : Below w.heap.size w w1 := by rw [← hw1]; exact (Below.refl _ _).alloc (Nat.le_refl _) _
  have HOK := hide (ha.below hb)
  have HB := hide hb
  have HA := hide hA
  obtain ⟨R, hR⟩ : ∃ R, largeB a = R := ⟨_, rfl⟩
  rw [hR]
  have HR := hide hR
  have k16 : w1.cell? ⟨w.heap.size, 16, none⟩ = some (.slice a.outA a.out.length a.outc) := hA.cell 16
  have k17 : w1.cell? ⟨w.heap.size, 17, none⟩ = some (.slice a.clA a.cls.length a.clc) := hA.cell 17
  obtain ⟨S, hS⟩ : ∃ s : Int, wrap64 ((a.out.length : Int) + (a.cls.length : Int)) = s := ⟨_, rfl⟩
  have HS := hide hS
  clear ha hb hA hR
  go_enter Tryd.func8, Tryd.ntmps8
  go_upto_region 1 with fail
  clear hw1
  go_wp2_with fail
  go_loopw [4] (fun z wr => ∃ i : Nat, i ≤ 50 ∧ z = .int .i64 (i : Nat) ∧ Hid (∀ (j : Nat) d, j < i → a.cls[j]? = some d → ¬ 300 < d.vs.length) ∧ wr = w1) (fun z _ => 50 - (intOf z).toNat)
  case atStart => exact ⟨0, by omega, rfl, hide (fun j d hj => by omega), rfl⟩
  case round =>
    obtain ⟨i, hi, rfl, HO, rfl⟩ := hrel
    by_cases hlt : i < a.cls.length
    · by_cases h50 : i < 50
      · obtain ⟨d, hd⟩ : ∃ d, a.cls[i]? = some d := ⟨_, List.getElem?_eq_getElem hlt⟩
        obtain ⟨ba, oa, hAe, hba, hx⟩ := HOK.out.cls.row (i := i) (r := d.cl) (by rw [List.getElem?_map, hd]; rfl)
        have hc := hx.ld
        rw [Nat.mul_one] at hc
        have h64 : wrap64 ((i : Int) + 1) = (i : Int) + 1 := IntWalk.wrap64_in _ ⟨by omega, by omega⟩
        have HD := hide hd
        have HLT := hide hlt
        have H50 := hide h50
        by_cases h3 : 300 < d.vs.length
        · have H3 := hide h3
          rw [hAe] at k17
          clear hx hd
          go_wp2_with fail
          go_ret
          exact ⟨by rw [← HR.out]; unfold largeB; rw [big_true HD.out H50.out H3.out]; rfl, HB.out⟩
        · have H3 := hide h3
          rw [hAe] at k17
          clear hx hd
          go_wp2_with fail
          exact ⟨⟨i + 1, by have := H50.out; omega, by first | rfl | (rw [h64]; rfl), hide (fun j d' hj hd' => by
            rcases Nat.lt_or_ge j i with h | h
            · exact HO.out j d' h hd'
            · obtain rfl : j = i := by omega
              rw [HD.out] at hd'
              injection hd' with hd'
              subst hd'
              exact H3.out), by first | rfl | trivial⟩, by (try rw [h64]); exact fn_meas (by have := H50.out; omega)⟩
      · have H50 := hide h50
        go_wp2_with fail
        go_ret
        exact ⟨by rw [← HR.out]; unfold largeB; rw [big_false (fun j d hj hd => HO.out j d (by have := H50.out; omega) hd), HS.out]; rfl, HB.out⟩
    · have HLT := hide hlt
      go_wp2_with fail
      go_ret
      exact ⟨by rw [← HR.out]; unfold largeB; rw [big_false (fun j d hj hd => HO.out j d (by have := (List.getElem?_eq_some_iff.1 hd).1; have := HLT.out; omega) hd), HS.out]; rfl, HB.out⟩
end Go.Proofs.YtojeaghljebbbaaDoor
namespace Go.Proofs.YtojeaghljebbbaaDoor
open Go.RowKit Go.Deep

theorem flatten_at {m : Nat} : ∀ (rows : List (List Value)) (i j : Nat) (r : List Value) (z : Value), (∀ x ∈ rows, x.length = m) → rows[i]? = some r → r[j]? = some z → rows.flatten[i * m + j]? = some z
  | [], i, j, r, z, _, h, _ => by simp at h
  | x :: t, 0, j, r, z, hm, h, hz => by
    simp at h; subst h
    have hj := (List.getElem?_eq_some_iff.1 hz).1
    rw [List.flatten_cons, Nat.zero_mul, Nat.zero_add, List.getElem?_append_left hj]
    exact hz
  | x :: t, i + 1, j, r, z, hm, h, hz => by
    have hx := hm x (by simp)
    rw [List.flatten_cons, List.getElem?_append_right (by rw [hx, Nat.succ_mul]; omega), hx, show (i + 1) * m + j - m = i * m + j by rw [Nat.succ_mul]; omega]
    exact flatten_at t i j r z (fun y hy => hm y (by simp [hy])) (by simpa using h) hz
/-- A block that holds rows of m cells. -/
theorem RdN.whole {w : World} {g m : Nat} {T : TypeId} {rows : List (List Value)} {n : Nat} (h : Whole w g T rows.flatten.toArray) (hm : ∀ x ∈ rows, x.length = m) (hn : rows.length = n) (hx : n ≤ maxLen) : RdN w m (.slice (some ⟨g, 0, none⟩) n n) rows := by
  subst hn
  refine ⟨hm, _, _, rfl, Nat.le_refl _, hx, fun _ => ⟨g, 0, rfl, h.lt, fun i j r z hr hz => ?_⟩⟩
  rw [Nat.zero_add, h.cell, List.getElem?_toArray]
  exact flatten_at rows i j r z hm hr hz
theorem lenOf {α : Type} {f : α → List Value} {m : Nat} {l : List α} (h : ∀ a, (f a).length = m) : ∀ x ∈ l.map f, x.length = m := fun x hx => by
  obtain ⟨a, _, rfl⟩ := List.mem_map.1 hx
  exact h a
def F5 : VD := ⟨3, 0, ⟨5, false, false⟩, zL, zL, zL⟩
def P3 : VD := ⟨3, 0, ⟨0, true, false⟩, zL, zL, zL⟩
def oOf (k : Int) (v : VD) : OD := ⟨k, 0, v, none, 0, [], none, 0, [], 0⟩
theorem oOf_ok (k : Int) (v : VD) (w : World) : (oOf k v).ok w := ⟨RdN.nil 14, RdN.nil 1, fun _ h => (by cases h)⟩
def i0 : InD := ⟨0, 0, 0, none, 0, [], 0, 0, 0, false⟩
def t0 : TmD := ⟨0, none, 0, [], none, 0, [], none, 0, [], 0⟩
def bkOf (A : Option Addr) (c : Nat) (l : List InD) : BkD := ⟨none, 0, [], A, c, l, t0⟩
def fnOf (A : Option Addr) (c : Nat) (l : List BkD) : FnD := ⟨⟨#[]⟩, none, 0, [], 0, none, 0, [], A, c, l⟩
def mdOf (A : Option Addr) (c : Nat) (l : List FnD) : MdD := ⟨none, 0, [], A, c, l⟩
theorem i6_zero : I6 0 := by unfold I6; rfl
theorem i6_nine : I6 9 := by unfold I6; rfl
theorem i0_ok (w : World) : i0.ok w := ⟨i6_zero, i6_zero, i6_zero, Rd.nil, Nat.zero_le _, fun _ h => (by cases h), i6_zero, i6_zero, i6_zero⟩
theorem t0_ok (w : World) : t0.ok w := ⟨i6_zero, Rd.nil, Nat.zero_le _, fun _ h => (by cases h), Rd.nil, Nat.zero_le _, fun _ h => (by cases h), RdN.nil 2, Nat.zero_le _, fun _ h => (by cases h), i6_zero⟩
def B0 (g : Nat) : BkD := bkOf (some ⟨g, 0, none⟩) 2 [i0, i0]
def B1 : BkD := bkOf none 0 []
def F0 (g : Nat) : FnD := fnOf (some ⟨g + 1, 0, none⟩) 2 [B0 g, B1]
def M0 (g : Nat) : MdD := mdOf (some ⟨g + 1 + 1, 0, none⟩) 1 [F0 g]
/-- The module of the examples, in three blocks. -/
theorem M0_ok {w : World} {g : Nat} {T0 T1 T2 : TypeId} (h0 : Whole w g T0 ([i0, i0].map InD.cells).flatten.toArray) (h1 : Whole w (g + 1) T1 ([B0 g, B1].map BkD.cells).flatten.toArray) (h2 : Whole w (g + 1 + 1) T2 ([F0 g].map FnD.cells).flatten.toArray) : (M0 g).ok w := by
  have b1 : B1.ok w := ⟨Rd.nil, Nat.zero_le _, fun _ h => (by cases h), RdN.nil 8, Nat.zero_le _, fun _ h => (by cases h), t0_ok w⟩
  have b0 : (B0 g).ok w := ⟨Rd.nil, Nat.zero_le _, fun _ h => (by cases h), RdN.whole h0 (lenOf InD.len) rfl (by show (2 : Nat) ≤ maxLen; unfold maxLen; omega), by show Fits 2; unfold Fits; omega, fun e he => by
    simp [B0, bkOf] at he; subst he; exact i0_ok w, t0_ok w⟩
  have f0 : (F0 g).ok w := ⟨Nat.zero_le _, Rd.nil, Nat.zero_le _, fun _ h => (by cases h), i6_zero, Rd.nil, Nat.zero_le _, fun _ h => (by cases h), RdN.whole h1 (lenOf BkD.len) rfl (by show (2 : Nat) ≤ maxLen; unfold maxLen; omega), by show Fits 2; unfold Fits; omega, fun e he => by
    simp [F0, fnOf] at he
    rcases he with rfl | rfl
    · exact b0
    · exact b1⟩
  exact ⟨RdN.nil 5, Nat.zero_le _, fun _ h => (by cases h), RdN.whole h2 (lenOf FnD.len) rfl (by show (1 : Nat) ≤ maxLen; unfold maxLen; omega), by show Fits 1; unfold Fits; omega, fun e he => by
    simp [M0, mdOf] at he; subst he; exact f0⟩
theorem setCells_new (w : World) (T : TypeId) : ∀ (new pre old : List Value), old.length = new.length → (w.alloc (.cells (pre ++ old).toArray T)).setCells w.heap.size pre.length new = w.alloc (.cells (pre ++ new).toArray T)
  | [], pre, old, h => by
    obtain rfl : old = [] := List.eq_nil_of_length_eq_zero (by simpa using h)
    rfl
  | v :: r, pre, [], h => by simp at h
  | v :: r, pre, o :: os, h => by
    rw [World.setCells, World.setCell_alloc_at _ _ _ _ _ rfl]
    have e : (pre ++ o :: os).toArray.setIfInBounds pre.length v = ((pre ++ [v]) ++ os).toArray := by
      apply Array.toList_inj.1
      simp
    have e2 : pre ++ v :: r = (pre ++ [v]) ++ r := by simp
    rw [e, e2, ← setCells_new w T r (pre ++ [v]) os (by simpa using h)]
    simp
section
variable {P : Program}
theorem wpList_load_g {ops : Array Oper} {rest : List Oper} {op : Oper} {a : Act} {w : World} {Q : Exit → Act → World → Prop} (hw : Region.wanted op (yielded ops a.tmps) = true) (ty : TypeId) (x : Operand) (ho : op.op = .load ty x)
    (b o : Nat) (hx : a.eval x = .pointer (some ⟨b, o, none⟩)) (cs : List Value) (d : TypeDesc) (hc : w.rangeAt b o cs)
    (hu : P.underlying ty = some d) (hd : d.isRow = true) (hi : (P.info? ty).map (·.size) = some cs.length)
    (h : wpList P ops Q rest (a.put op.dst (.agg cs.toArray)) w) : wpList P ops Q (op :: rest) a w :=
  BigFrame.wpList_want hw fun _ hK => wp_load_mid ty x ho b o hx cs d hc hu hd hi (hK _ _ h)
theorem wpList_build_g {ops : Array Oper} {rest : List Oper} {o : Oper} {a : Act} {w : World} {Q : Exit → Act → World → Prop} (hw : Region.wanted o (yielded ops a.tmps) = true) (t : TypeId) (parts : Array (Nat × Operand)) (ho : o.op = .build t parts)
    (cs : List Value) (hb : P.built t (parts.map fun (i, x) => (i, a.eval x)).toList = some cs.toArray)
    (h : wpList P ops Q rest (a.put o.dst (.agg cs.toArray)) w) : wpList P ops Q (o :: rest) a w :=
  BigFrame.wpList_want hw fun _ hK => wp_build t parts ho (by rw [hb]; rfl) (by rw [hb]; exact hK _ _ h)
theorem wpList_bslice_g {ops : Array Oper} {rest : List Oper} {o : Oper} {a : Act} {w : World} {Q : Exit → Act → World → Prop} (hw : Region.wanted o (yielded ops a.tmps) = true) (t : TypeId) (n : Nat) (parts : Array (Nat × Operand)) (ho : o.op = .buildSlice t n parts)
    (ps : Array (Nat × Value)) (hp : (parts.map fun (i, x) => (i, a.eval x)) = ps) (v : Value) (w' : World) (hr : (Instr.buildSlice t n ps).run P w = .ok v w')
    (h : wpList P ops Q rest (a.put o.dst v) w') : wpList P ops Q (o :: rest) a w :=
  BigFrame.wpList_want hw fun _ hK => by
    subst hp
    unfold Oper.wp execOp
    simp only [ho, Sem.run_bind, hr, Result.andThen_ok]
    exact hK _ _ h
theorem wpList_store_new {ops : Array Oper} {rest : List Oper} {op : Oper} {a : Act} {w : World} {Q : Exit → Act → World → Prop} (hgd : op.guard = none) (ty : TypeId) (x y : Operand) (ho : op.op = .store ty x y)
    (T : TypeId) (old new : List Value) (hx : a.eval x = .pointer (some ⟨w.heap.size, 0, none⟩)) (hy : a.eval y = .agg new.toArray) (hl : old.length = new.length)
    (hi : (P.info? ty).map (·.size) = some new.length) (h1 : new.toArray.all (·.oneCell') = true)
    (h : wpList P ops Q rest (a.put op.dst undef) (w.alloc (.cells new.toArray T))) : wpList P ops Q (op :: rest) a (w.alloc (.cells old.toArray T)) := by
  refine wpList_store_mid hgd ty x y ho w.heap.size 0 new.toArray hx hy ?_ (by simpa using hi) h1 ?_
  · intro j hj
    have hW := Whole.new w T old.toArray
    refine ⟨?_, by rw [Nat.zero_add]; exact hW.free j⟩
    rw [Nat.zero_add, hW.cell j, List.getElem?_toArray, List.getElem?_eq_getElem (by rw [hl]; simpa using hj)]
    rfl
  · have := setCells_new w T new [] old hl
    simp only [List.nil_append, List.length_nil] at this
    rw [show new.toArray.toList = new by simp, this]
    exact h
end
theorem d1 : difD (oOf 1 F5) (oOf 3 zV) = 0 := by rfl
theorem d2 : difD (oOf 4 zV) (oOf 1 F5) = 1 := by rfl
theorem d3 : difD (oOf 1 F5) (oOf 1 P3) = 0 := by decide +kernel
theorem d4 : difD (oOf 1 P3) (oOf 1 F5) = 4 := by decide +kernel
theorem d5 : allR refD [F5] [F5] = true := by decide +kernel
theorem d6 : allR refD [] [F5] = false := rfl
theorem d7 (g : Nat) : stepM 0 (maxS (M0 g).fns) = 5 := by rfl
theorem d8 (g : Nat) : stepM 9 (maxS (M0 g).fns) = 50 := by rfl

/-- What the examples keep: the values and the module that they have made. -/
structure AwS (w W : World) (q p g : Nat) : Prop where
  V : Whole W q 27 F5.cl.toArray
  A : Whole W (q + 1) 31 (oOf 1 F5).cl.toArray
  P : Whole W p 31 (oOf 1 P3).cl.toArray
  G : Whole W (g + 1 + 1 + 1) 40 (M0 g).cells.toArray
  M : (M0 g).ok W
  B : Below w.heap.size w W
theorem AwS.next {w W W' : World} {q p g : Nat} (h : AwS w W q p g) (hb : Below W.heap.size W W') : AwS w W' q p g :=
  ⟨h.V.below' hb, h.A.below' hb, h.P.below' hb, h.G.below' hb, h.M.below hb, h.B.trans (hb.mono h.B.size)⟩
theorem rdn_five (W : World) (T : TypeId) : RdN (W.alloc (.cells F5.cl.toArray T)) 14 (.slice (some ⟨W.heap.size, 0, none⟩) 1 1) ([F5].map VD.cl) :=
  RdN.whole (rows := [F5].map VD.cl) (Whole.new W T _) (lenOf cl_len) rfl (by unfold maxLen; omega)
set_option maxRecDepth 100000 in
set_option maxHeartbeats 16000000 in
set_option maxHeartbeats 1000000 in
theorem awake_any (w : World) (hT : Tab w) : Calls Tryd.prog 9 #[] w fun e w' => e = .returned (.bool true) ∧ Below w.heap.size w w' := by
  have HT := hide hT
  clear hT
  have hmk : ∀ W, (Instr.makeSlice 54 (.int .i64 2) (.int .i64 2)).run Tryd.prog W = .ok (.slice (some ⟨W.heap.size, 0, none⟩) 2 2) (W.alloc (.cells (i0.cells ++ i0.cells).toArray 98)) := fun W => by kernel_rfl
  have uV := Tryd.underlying27
  have uO := Tryd.underlying31
  have iV : (Tryd.prog.info? 27).map (·.size) = some 14 := by kernel_rfl
  have iO : (Tryd.prog.info? 31).map (·.size) = some 19 := by kernel_rfl
  go_enter Tryd.func9, Tryd.ntmps9
  go_wp2_with fail
  refine (int_any 3 5 _ (by exact HT.out)).mono ?_
  rintro en w1 ⟨rfl, hb⟩
  have HB := hide hb
  clear hb
  rw [show mkInt 3 5 = F5.cl.toArray from rfl]
  simp only []
  go_step
  go_step
  go_step
  go_step
  refine wpList_store_new (by rfl) _ _ _ rfl _ _ F5.cl (by rfl) (by rfl) (by rfl) iV (by kernel_rfl) ?_
  go_upto_region 2 with fail
  obtain ⟨q, hq⟩ : ∃ q, w1.heap.size = q := ⟨_, rfl⟩
  rw [hq]
  obtain ⟨w2, hw2⟩ : ∃ x, w1.alloc (.cells F5.cl.toArray 27) = x := ⟨_, rfl⟩
  have A2 : Whole w2 q 27 F5.cl.toArray := by rw [← hw2, ← hq]; exact Whole.new w1 _ _
  have s2 : w2.heap.size = q + 1 := by rw [← hw2, World.size_alloc, hq]
  have HB2 : Hid (Below w.heap.size w w2) := hide (by rw [← hw2]; exact HB.out.alloc HB.out.size _)
  rw [hw2]
  clear hw2
  refine wp_region_lit ?_
  refine wpList_load_g (by rfl) _ _ rfl q 0 (by rfl) F5.cl _ (Whole.range A2) uV rfl iV ?_
  refine wpList_build_g (by rfl) _ _ rfl (oOf 1 F5).cl (by kernel_rfl) ?_
  have HA2 := hide A2
  have HQ := hide s2
  clear A2 s2 hq HB
  go_step
  go_step
  go_step
  refine wpList_store_new (by rfl) _ _ _ rfl _ _ (oOf 1 F5).cl (by rfl) (by rfl) (by rfl) iO (by kernel_rfl) ?_
  rw [HQ.out]
  obtain ⟨w3, hw3⟩ : ∃ x, w2.alloc (.cells (oOf 1 F5).cl.toArray 31) = x := ⟨_, rfl⟩
  have A3 : Whole w3 (q + 1) 31 (oOf 1 F5).cl.toArray := by rw [← hw3, ← HQ.out]; exact Whole.new w2 _ _
  have b23 : Below w2.heap.size w2 w3 := by rw [← hw3]; exact (Below.refl _ _).alloc (Nat.le_refl _) _
  have HB3 : Hid (Below w.heap.size w w3) := hide (HB2.out.trans (b23.mono HB2.out.size))
  have HV3 := hide (HA2.out.below' b23)
  have HA3 := hide A3
  rw [hw3]
  clear hw3 A3 b23 HB2 HA2 HQ
  go_wp2_with fail
  refine (poison_any 3 _).mono ?_
  rintro en w4 ⟨rfl, hb⟩
  have HB4 := hide (HB3.out.trans (hb.mono HB3.out.size))
  have HV4 := hide (HV3.out.below' hb)
  have HA4 := hide (HA3.out.below' hb)
  clear hb HB3 HV3 HA3
  rw [show mkPoison 3 = P3.cl.toArray from rfl]
  simp only []
  go_step
  refine wpList_build_g (by rfl) _ _ rfl (oOf 1 P3).cl (by kernel_rfl) ?_
  go_step
  go_step
  go_step
  refine wpList_store_new (by rfl) _ _ _ rfl _ _ (oOf 1 P3).cl (by rfl) (by rfl) (by rfl) iO (by kernel_rfl) ?_
  obtain ⟨p, hp⟩ : ∃ p, w4.heap.size = p := ⟨_, rfl⟩
  rw [hp]
  obtain ⟨w5, hw5⟩ : ∃ x, w4.alloc (.cells (oOf 1 P3).cl.toArray 31) = x := ⟨_, rfl⟩
  have A5 : Whole w5 p 31 (oOf 1 P3).cl.toArray := by rw [← hw5, ← hp]; exact Whole.new w4 _ _
  have b45 : Below w4.heap.size w4 w5 := by rw [← hw5]; exact (Below.refl _ _).alloc (Nat.le_refl _) _
  have HB5 : Hid (Below w.heap.size w w5) := hide (HB4.out.trans (b45.mono HB4.out.size))
  have HV5 := hide (HV4.out.below' b45)
  have HA5 := hide (HA4.out.below' b45)
  have HP5 := hide A5
  rw [hw5]
  clear hw5 A5 b45 HB4 HA4 HV4 hp
  go_upto_region 4 with fail
  obtain ⟨g, hg⟩ : ∃ g, w5.heap.size = g := ⟨_, rfl⟩
  obtain ⟨x1, h1⟩ : ∃ x, w5.alloc (.cells (i0.cells ++ i0.cells).toArray 98) = x := ⟨_, rfl⟩
  have s1 : x1.heap.size = g + 1 := by rw [← h1, World.size_alloc, hg]
  obtain ⟨x2, h2⟩ : ∃ x, x1.alloc (.cells #[.slice none 0 0, .slice (some ⟨g, 0, none⟩) 2 2, .int .i64 0, .slice none 0 0, .slice none 0 0, .slice none 0 0, .int .i64 0, .slice none 0 0, .slice none 0 0, .int .i64 0, .slice none 0 0, .slice none 0 0, .slice none 0 0, .int .i64 0] 60) = x := ⟨_, rfl⟩
  have s2 : x2.heap.size = g + 1 + 1 := by rw [← h2, World.size_alloc, s1]
  obtain ⟨x3, h3⟩ : ∃ x, x2.alloc (.cells #[.string ⟨#[]⟩, .slice none 0 0, .int .i64 0, .slice none 0 0, .slice (some ⟨g + 1, 0, none⟩) 2 2] 45) = x := ⟨_, rfl⟩
  have s3 : x3.heap.size = g + 1 + 1 + 1 := by rw [← h3, World.size_alloc, s2]
  obtain ⟨x4, h4⟩ : ∃ x, x3.alloc (.cells #[.slice none 0 0, .slice (some ⟨g + 1 + 1, 0, none⟩) 1 1] 40) = x := ⟨_, rfl⟩
  have a1 : Whole x1 g 98 ([i0, i0].map InD.cells).flatten.toArray := by rw [← h1, ← hg]; exact Whole.new w5 _ _
  have a2 : Whole x2 (g + 1) 60 ([B0 g, B1].map BkD.cells).flatten.toArray := by rw [← h2, ← s1]; exact Whole.new x1 _ _
  have a3 : Whole x3 (g + 1 + 1) 45 ([F0 g].map FnD.cells).flatten.toArray := by rw [← h3, ← s2]; exact Whole.new x2 _ _
  have a4 : Whole x4 (g + 1 + 1 + 1) 40 (M0 g).cells.toArray := by rw [← h4, ← s3]; exact Whole.new x3 _ _
  have b1 : Below w5.heap.size w5 x1 := by rw [← h1]; exact (Below.refl _ _).alloc (Nat.le_refl _) _
  have b2 : Below x1.heap.size x1 x2 := by rw [← h2]; exact (Below.refl _ _).alloc (Nat.le_refl _) _
  have b3 : Below x2.heap.size x2 x3 := by rw [← h3]; exact (Below.refl _ _).alloc (Nat.le_refl _) _
  have b4 : Below x3.heap.size x3 x4 := by rw [← h4]; exact (Below.refl _ _).alloc (Nat.le_refl _) _
  have b14 := Below.all b2 (Below.all b3 b4)
  have b5 := Below.all b1 b14
  have HM : (M0 g).ok x4 := (M0_ok (a1.below' b14) (a2.below' (Below.all b3 b4)) (a3.below' b4))
  have HS : Hid (AwS w x4 q p g) := hide ⟨HV5.out.below' b5, HA5.out.below' b5, HP5.out.below' b5, a4, HM, HB5.out.trans (b5.mono HB5.out.size)⟩
  clear HM a1 a2 a3 a4 b1 b2 b3 b4 b14 b5 HB5 HV5 HA5 HP5
  go_upto_region 5 with fail
  clear h1 h2 h3 h4 s1 s2 s3 hg
  have hbs : ∀ W, (Instr.buildSlice 28 1 #[(0, .agg F5.cl.toArray)]).run Tryd.prog W = .ok (.slice (some ⟨W.heap.size, 0, none⟩) 1 1) (W.alloc (.cells F5.cl.toArray 27)) := fun W => by kernel_rfl
  have uM := Tryd.underlying40
  have iM : (Tryd.prog.info? 40).map (·.size) = some 2 := by kernel_rfl
  repeat (first | ((with_reducible show wpList _ _ _ (_ :: _) _ _); first | (refine wpList_load_g (by rfl) _ _ rfl (q + 1) 0 (by rfl) (oOf 1 F5).cl _ (Whole.range HS.out.A) uO rfl iO ?_) | (refine wpList_build_g (by rfl) _ _ rfl (oOf 3 zV).cl (by kernel_rfl) ?_)) | go_step)
  refine (outcome_any (oOf 1 F5) (oOf 3 zV) _ (by exact HT.out.below HS.out.B) (oOf_ok _ _ _) (oOf_ok _ _ _)).mono ?_
  rintro en y1 ⟨rfl, hb⟩
  rw [d1]
  replace HS := hide (HS.out.next hb)
  clear hb
  simp only []
  repeat (first | ((with_reducible show wpList _ _ _ (_ :: _) _ _); first | (refine wpList_load_g (by rfl) _ _ rfl (q + 1) 0 (by rfl) (oOf 1 F5).cl _ (Whole.range HS.out.A) uO rfl iO ?_) | (refine wpList_build_g (by rfl) _ _ rfl (oOf 4 zV).cl (by kernel_rfl) ?_)) | go_step)
  refine (diff_any (oOf 4 zV) (oOf 1 F5) _ (by exact HT.out.below HS.out.B) (oOf_ok _ _ _) (oOf_ok _ _ _)).mono ?_
  rintro en y2 ⟨rfl, hb⟩
  rw [d2]
  replace HS := hide (HS.out.next hb)
  clear hb
  simp only []
  repeat (first | ((with_reducible show wpList _ _ _ (_ :: _) _ _); first | (refine wpList_load_g (by rfl) _ _ rfl (q + 1) 0 (by rfl) (oOf 1 F5).cl _ (Whole.range HS.out.A) uO rfl iO ?_) | (refine wpList_load_g (by rfl) _ _ rfl p 0 (by rfl) (oOf 1 P3).cl _ (Whole.range HS.out.P) uO rfl iO ?_)) | go_step)
  refine (outcome_any (oOf 1 F5) (oOf 1 P3) _ (by exact HT.out.below HS.out.B) (oOf_ok _ _ _) (oOf_ok _ _ _)).mono ?_
  rintro en y3 ⟨rfl, hb⟩
  rw [d3]
  replace HS := hide (HS.out.next hb)
  clear hb
  simp only []
  repeat (first | ((with_reducible show wpList _ _ _ (_ :: _) _ _); first | (refine wpList_load_g (by rfl) _ _ rfl p 0 (by rfl) (oOf 1 P3).cl _ (Whole.range HS.out.P) uO rfl iO ?_) | (refine wpList_load_g (by rfl) _ _ rfl (q + 1) 0 (by rfl) (oOf 1 F5).cl _ (Whole.range HS.out.A) uO rfl iO ?_)) | go_step)
  refine (diff_any (oOf 1 P3) (oOf 1 F5) _ (by exact HT.out.below HS.out.B) (oOf_ok _ _ _) (oOf_ok _ _ _)).mono ?_
  rintro en y4 ⟨rfl, hb⟩
  rw [d4]
  replace HS := hide (HS.out.next hb)
  clear hb
  simp only []
  repeat (first | ((with_reducible show wpList _ _ _ (_ :: _) _ _); first | (refine wpList_load_g (by rfl) _ _ rfl q 0 (by rfl) F5.cl _ (Whole.range HS.out.V) uV rfl iV ?_) | ((fail_if_success (refine wpList_bslice_g (by rfl) _ _ _ rfl #[(0, .agg F5.cl.toArray)] (by kernel_rfl) _ _ (hbs _) ?_)); go_step)) | ((fail_if_success (with_reducible show wpList _ _ _ (_ :: _) _ _)); go_step))
  refine wpList_bslice_g (by rfl) _ _ _ rfl #[(0, .agg F5.cl.toArray)] (by kernel_rfl) _ _ (hbs _) ?_
  have R1 := rdn_five y4 27
  have hbz : Below y4.heap.size y4 (y4.alloc (.cells F5.cl.toArray 27)) := (Below.refl _ _).alloc (Nat.le_refl _) _
  obtain ⟨z1, hz⟩ : ∃ x, y4.alloc (.cells F5.cl.toArray 27) = x := ⟨_, rfl⟩
  rw [hz] at R1 hbz ⊢
  replace HS := hide (HS.out.next hbz)
  obtain ⟨c1, hc⟩ : ∃ x, y4.heap.size = x := ⟨_, rfl⟩
  rw [hc] at R1 ⊢
  have HR1 := hide R1
  clear R1 hbz hz hc
  repeat (first | ((with_reducible show wpList _ _ _ (_ :: _) _ _); first | (refine wpList_load_g (by rfl) _ _ rfl q 0 (by rfl) F5.cl _ (Whole.range HS.out.V) uV rfl iV ?_) | ((fail_if_success (refine wpList_bslice_g (by rfl) _ _ _ rfl #[(0, .agg F5.cl.toArray)] (by kernel_rfl) _ _ (hbs _) ?_)); go_step)) | ((fail_if_success (with_reducible show wpList _ _ _ (_ :: _) _ _)); go_step))
  refine wpList_bslice_g (by rfl) _ _ _ rfl #[(0, .agg F5.cl.toArray)] (by kernel_rfl) _ _ (hbs _) ?_
  have R2 := rdn_five z1 27
  have hbz : Below z1.heap.size z1 (z1.alloc (.cells F5.cl.toArray 27)) := (Below.refl _ _).alloc (Nat.le_refl _) _
  obtain ⟨z2, hz⟩ : ∃ x, z1.alloc (.cells F5.cl.toArray 27) = x := ⟨_, rfl⟩
  rw [hz] at R2 hbz ⊢
  replace HS := hide (HS.out.next hbz)
  replace HR1 := hide (HR1.out.below' hbz)
  obtain ⟨c2, hc⟩ : ∃ x, z1.heap.size = x := ⟨_, rfl⟩
  rw [hc] at R2 ⊢
  have HR2 := hide R2
  clear R2 hbz hz hc
  repeat (first | ((with_reducible show wpList _ _ _ (_ :: _) _ _); first | (refine wpList_load_g (by rfl) _ _ rfl q 0 (by rfl) F5.cl _ (Whole.range HS.out.V) uV rfl iV ?_) | ((fail_if_success (refine wpList_bslice_g (by rfl) _ _ _ rfl #[(0, .agg F5.cl.toArray)] (by kernel_rfl) _ _ (hbs _) ?_)); go_step)) | ((fail_if_success (with_reducible show wpList _ _ _ (_ :: _) _ _)); go_step))
  refine (values_any [F5] [F5] _ _ _ (by exact HT.out.below HS.out.B) (by exact HR1.out) (by exact HR2.out)).mono ?_
  rintro en y5 ⟨rfl, hb⟩
  rw [d5]
  replace HS := hide (HS.out.next hb)
  clear hb
  simp only []
  clear HR1 HR2
  repeat (first | ((with_reducible show wpList _ _ _ (_ :: _) _ _); first | (refine wpList_load_g (by rfl) _ _ rfl q 0 (by rfl) F5.cl _ (Whole.range HS.out.V) uV rfl iV ?_) | ((fail_if_success (refine wpList_bslice_g (by rfl) _ _ _ rfl #[(0, .agg F5.cl.toArray)] (by kernel_rfl) _ _ (hbs _) ?_)); go_step)) | ((fail_if_success (with_reducible show wpList _ _ _ (_ :: _) _ _)); go_step))
  refine wpList_bslice_g (by rfl) _ _ _ rfl #[(0, .agg F5.cl.toArray)] (by kernel_rfl) _ _ (hbs _) ?_
  have R3 := rdn_five y5 27
  have hbz : Below y5.heap.size y5 (y5.alloc (.cells F5.cl.toArray 27)) := (Below.refl _ _).alloc (Nat.le_refl _) _
  obtain ⟨z3, hz⟩ : ∃ x, y5.alloc (.cells F5.cl.toArray 27) = x := ⟨_, rfl⟩
  rw [hz] at R3 hbz ⊢
  replace HS := hide (HS.out.next hbz)
  obtain ⟨c3, hc⟩ : ∃ x, y5.heap.size = x := ⟨_, rfl⟩
  rw [hc] at R3 ⊢
  have HR3 := hide R3
  clear R3 hbz hz hc
  repeat (first | ((with_reducible show wpList _ _ _ (_ :: _) _ _); first | (refine wpList_load_g (by rfl) _ _ rfl q 0 (by rfl) F5.cl _ (Whole.range HS.out.V) uV rfl iV ?_) | ((fail_if_success (refine wpList_bslice_g (by rfl) _ _ _ rfl #[(0, .agg F5.cl.toArray)] (by kernel_rfl) _ _ (hbs _) ?_)); go_step)) | ((fail_if_success (with_reducible show wpList _ _ _ (_ :: _) _ _)); go_step))
  refine (values_any [] [F5] _ _ _ (by exact HT.out.below HS.out.B) (by exact RdN.nil 14) (by exact HR3.out)).mono ?_
  rintro en y6 ⟨rfl, hb⟩
  rw [d6]
  replace HS := hide (HS.out.next hb)
  clear hb
  simp only []
  clear HR3
  repeat (first | ((with_reducible show wpList _ _ _ (_ :: _) _ _); first | (refine wpList_load_g (by rfl) _ _ rfl (g + 1 + 1 + 1) 0 (by rfl) (M0 g).cells _ (Whole.range HS.out.G) uM rfl iM ?_)) | go_step)
  refine (step_any 0 i6_zero (M0 g) _ (by exact HS.out.M) (fun f hf => by simp [M0, mdOf] at hf; subst hf; show (2 : Nat) ≤ 1000; omega)).mono ?_
  rintro en y7 ⟨rfl, hb⟩
  rw [d7]
  replace HS := hide (HS.out.next hb)
  clear hb
  simp only []
  repeat (first | ((with_reducible show wpList _ _ _ (_ :: _) _ _); first | (refine wpList_load_g (by rfl) _ _ rfl (g + 1 + 1 + 1) 0 (by rfl) (M0 g).cells _ (Whole.range HS.out.G) uM rfl iM ?_)) | go_step)
  refine (step_any 9 i6_nine (M0 g) _ (by exact HS.out.M) (fun f hf => by simp [M0, mdOf] at hf; subst hf; show (2 : Nat) ≤ 1000; omega)).mono ?_
  rintro en y8 ⟨rfl, hb⟩
  rw [d8]
  replace HS := hide (HS.out.next hb)
  clear hb
  simp only []
  go_wp2_with fail
  go_ret
  exact ⟨rfl, HS.out.B⟩
end Go.Proofs.YtojeaghljebbbaaDoor

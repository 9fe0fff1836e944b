/-
  Layer 20 (cfg): what rebuild makes of a block.
-/
import Derived.Test.YthnehmfdadgklaaCfH
import Derived.Test.YthnehmfdadgklaaCfFbk
namespace Go.Proofs.Ythnehmfdadgklaa
open Go.RowKit Go.Deep

/-- Different numbers, from lo on, below hi. -/
def Rng (lo hi : Nat) (l : List Nat) : Prop := l.Nodup ∧ ∀ b ∈ l, lo ≤ b ∧ b < hi
theorem Rng.app {a b c d : Nat} {l m : List Nat} (h : Rng a b l) (k : Rng c d m) (h1 : a ≤ c) (h2 : b ≤ c) (h3 : b ≤ d) : Rng a d (l ++ m) := by
  refine ⟨List.nodup_append.2 ⟨h.1, k.1, fun x hx y hy hxy => ?_⟩, fun x hx => ?_⟩
  · have := (h.2 x hx).2
    have := (k.2 y hy).1
    omega
  · rcases List.mem_append.1 hx with hx | hx
    · have := h.2 x hx
      omega
    · have := k.2 x hx
      omega
theorem Mine.rng {W : World} {base m n c : Nat} {e : TypeId} {A : Option Addr} {rows : List (List Value)} (h : Mine W base e m A n c rows) : Rng base W.heap.size (slB A n) := ⟨slB_nodup A n, h.blk⟩
theorem MapD.rng {D : Type} {m : Nat} {K : DK D m} {base : Nat} {e : TypeId} {A : Option Addr} {l ys : List D} {Q : D → D → Prop} {W : World} (h : MapD K base W e A l ys Q) : Rng base W.heap.size (slB A l.length ++ ys.flatMap K.fp) :=
  ⟨h.nodup, fun b hb => by
    rcases List.mem_append.1 hb with hb | hb
    · exact h.mine.blk b hb
    · obtain ⟨y, hy, hb⟩ := List.mem_flatMap.1 hb
      exact K.blk (h.own y hy) b hb⟩
theorem MapD.low {D : Type} {m : Nat} {K : DK D m} {base b : Nat} {e : TypeId} {A : Option Addr} {l ys : List D} {Q : D → D → Prop} {W : World} (h : MapD K base W e A l ys Q) (hb : b ≤ base) : MapD K b W e A l ys Q :=
  ⟨h.len, h.each, h.mine.low hb, h.rd, fun y hy => K.low (h.own y hy) hb, h.nodup⟩
theorem map_each {D P : Type} {p : D → P} {h : P → P} {l ys : List D} (hl : ys.length = l.length) (he : ∀ (i : Nat) (x y : D), l[i]? = some x → ys[i]? = some y → p y = h (p x)) : ys.map p = (l.map p).map h := by
  apply List.ext_getElem?
  intro i
  rw [List.getElem?_map, List.getElem?_map, List.getElem?_map]
  cases hy : ys[i]? with
  | none =>
    have : l[i]? = none := List.getElem?_eq_none (by have := List.getElem?_eq_none_iff.1 hy; omega)
    rw [this]; rfl
  | some y =>
    obtain ⟨x, hx⟩ : ∃ x, l[i]? = some x := ⟨_, List.getElem?_eq_getElem (by have := (List.getElem?_eq_some_iff.1 hy).1; omega)⟩
    rw [hx]
    simp only [Option.map_some]
    rw [he i x y hx hy]
/-- The terminator of a mapped block. -/
def TmD.mapped (x : TmD) (A2 A3 A4 : Option Addr) (zs : List EdD) (r : Int → Int) : TmD := ⟨x.kind, A2, x.args.length, x.args.map r, A3, x.cases.length, x.cases, A4, x.succs.length, zs, x.sym⟩
theorem TmD.mk' {w : World} {base : Nat} {x : TmD} {A2 A3 A4 : Option Addr} {zs : List EdD} {r : Int → Int} (hx : x.ok w) (hr : ∀ z, I6 z → I6 (r z))
    (M2 : Mine w base 3 1 A2 x.args.length x.args.length (intsN .i64 (x.args.map r))) (R2 : Rd w .i64 (.slice A2 x.args.length x.args.length) (x.args.map r))
    (M3 : Mine w base 2 1 A3 x.cases.length x.cases.length (intsN .i64 x.cases)) (R3 : Rd w .i64 (.slice A3 x.cases.length x.cases.length) x.cases)
    (D4 : MapD edK base w 56 A4 x.succs zs (fun a b => b.pure = a.pure.re r)) :
    (x.mapped A2 A3 A4 zs r).own w base ∧ (x.mapped A2 A3 A4 zs r).pure = x.pure.re r := by
  refine ⟨⟨⟨hx.kind, ?_, ?_, ?_, R3, hx.casesB, hx.casesI, ?_, ?_, fun e he => (D4.own e he).ok, hx.sym⟩, ?_, M3, ?_, D4.own⟩, ?_⟩
  · simpa [TmD.mapped] using R2
  · simpa [TmD.mapped] using hx.argsB
  · intro z hz
    obtain ⟨a, ha, rfl⟩ := List.mem_map.1 hz
    exact hr a (hx.argsI a ha)
  · show RdN w 2 (.slice A4 zs.length x.succs.length) _
    rw [D4.len]
    exact D4.rd
  · show Fits zs.length
    rw [D4.len]
    exact hx.succsB
  · simpa [TmD.mapped] using M2
  · show Mine w base _ 2 A4 zs.length x.succs.length _
    rw [D4.len]
    exact D4.mine
  · have := map_each (p := EdD.pure) (h := EdP.re r) D4.len D4.each
    simp only [TmD.pure, TmD.mapped, TmP.re, this]
/-- A mapped block. -/
def BkD.mapped (x : BkD) (A0 A1 : Option Addr) (ys : List InD) (t : TmD) (r : Int → Int) : BkD := ⟨A0, x.params.length, x.params.map r, A1, x.ins.length, ys, t⟩
theorem BkD.mk' {w : World} {base : Nat} {x : BkD} {A0 A1 : Option Addr} {ys : List InD} {t : TmD} {r : Int → Int} (hx : x.ok w) (hr : ∀ z, I6 z → I6 (r z))
    (M0 : Mine w base 3 1 A0 x.params.length x.params.length (intsN .i64 (x.params.map r))) (R0 : Rd w .i64 (.slice A0 x.params.length x.params.length) (x.params.map r))
    (D1 : MapD inK base w 70 A1 x.ins ys (fun a b => b.pure = a.pure.re r)) (ht : t.own w base) (hp : t.pure = x.term.pure.re r) :
    (x.mapped A0 A1 ys t r).own w base ∧ (x.mapped A0 A1 ys t r).pure = x.pure.re r := by
  refine ⟨⟨⟨?_, ?_, ?_, ?_, ?_, fun e he => (D1.own e he).ok, ht.ok⟩, ?_, ?_, D1.own, ht⟩, ?_⟩
  · simpa [BkD.mapped] using R0
  · simpa [BkD.mapped] using hx.paramsB
  · intro z hz
    obtain ⟨a, ha, rfl⟩ := List.mem_map.1 hz
    exact hr a (hx.paramsI a ha)
  · show RdN w 8 (.slice A1 ys.length x.ins.length) _
    rw [D1.len]
    exact D1.rd
  · show Fits ys.length
    rw [D1.len]
    exact hx.insB
  · simpa [BkD.mapped] using M0
  · show Mine w base _ 8 A1 ys.length x.ins.length _
    rw [D1.len]
    exact D1.mine
  · have := map_each (p := InD.pure) (h := InP.re r) D1.len D1.each
    simp only [BkD.pure, BkD.mapped, BkP.re, this, hp]
theorem enter1 (xs : Array Value) (W : World) : (callFunc 62 xs).run Try.prog W = .ok (.enter 62 xs) W := by kernel_rfl
theorem enter2 (xs : Array Value) (W : World) : (callFunc 65 xs).run Try.prog W = .ok (.enter 65 xs) W := by kernel_rfl
theorem fnIns {w : World} {B pb : Nat} {f : FuncId} {caps : Array Value} {r : Int → Int} (hF : FnI Try.prog w B f caps r) (hp : w.cell? ⟨pb, 0, none⟩ = some (.func (.func f) #[] caps)) :
    FnS inK Try.prog (fun W x => x.ok W) w w.heap.size 62 #[.pointer (some ⟨pb, 0, none⟩)] (fun a b => b.pure = a.pure.re r) :=
  ⟨enter1, fun W hW x hx => re_instr x W pb B f caps r ((hW.cell (p := ⟨pb, 0, none⟩) (World.block_lt_of_cell? _ _ hp)).trans hp) (hF.next (hW.mono hF.le)) hx, fun _ _ _ h hb => h.below hb, Nat.le_refl _⟩
theorem fnEds {w : World} {B pb : Nat} {f : FuncId} {caps : Array Value} {r : Int → Int} (hF : FnI Try.prog w B f caps r) (hp : w.cell? ⟨pb, 0, none⟩ = some (.func (.func f) #[] caps)) :
    FnS edK Try.prog (fun W x => x.ok W) w w.heap.size 65 #[.pointer (some ⟨pb, 0, none⟩)] (fun a b => b.pure = a.pure.re r) :=
  ⟨enter2, fun W hW x hx => re_edge x W pb B f caps r ((hW.cell (p := ⟨pb, 0, none⟩) (World.block_lt_of_cell? _ _ hp)).trans hp) (hF.next (hW.mono hF.le)) hx, fun _ _ _ h hb => h.below hb, Nat.le_refl _⟩
set_option maxRecDepth 100000 in
set_option maxHeartbeats 4000000 in
theorem re_block (x : BkD) (w : World) (B : Nat) (f : FuncId) (caps : Array Value) (r : Int → Int) (hF : FnI Try.prog w B f caps r) (hx : x.ok w) (hs1 : x.ins.length ≤ 1000000) (hs2 : x.term.succs.length ≤ 1000000) :
    Calls Try.prog 60 #[.agg x.cells.toArray, (.func (.func f) #[] caps)] w fun e w' => ∃ y : BkD, e = .returned (.agg y.cells.toArray) ∧ y.pure = x.pure.re r ∧ y.own w' w.heap.size ∧ y.fp.Nodup ∧ Below w.heap.size w w' := by
  have HX := hide hx
  have HF := hide hF
  have HS1 := hide hs1
  have HS2 := hide hs2
  obtain ⟨q, hq⟩ : ∃ q, w.heap.size = q := ⟨_, rfl⟩
  obtain ⟨w0, hw0⟩ : ∃ z, ((w.alloc (.cells x.cells.toArray 54)).alloc (.cells #[(.func (.func f) #[] caps)] 78)).alloc (.cells #[.slice none 0 0, .slice none 0 0, .int .i64 0, .slice none 0 0, .slice none 0 0, .slice none 0 0, .int .i64 0] 54) = z := ⟨_, rfl⟩
  have HB : Hid (Below w.heap.size w w0) := hide (by rw [← hw0]; exact (((Below.refl _ _).alloc (Nat.le_refl _) _).alloc (by simp) _).alloc (by simp; omega) _)
  have HA : Hid (Whole w0 q 54 x.cells.toArray) := hide (by rw [← hw0, ← hq]; exact ((Whole.new w _ _).alloc _).alloc _)
  have HC : Hid (Whole w0 (q + 1) 78 #[(.func (.func f) #[] caps)]) := hide (by
    rw [← hw0, ← hq, show w.heap.size + 1 = (w.alloc (.cells x.cells.toArray 54)).heap.size by simp]; exact (Whole.new _ _ _).alloc _)
  have HZ : Hid (Whole w0 (q + 2) 54 #[.slice none 0 0, .slice none 0 0, .int .i64 0, .slice none 0 0, .slice none 0 0, .slice none 0 0, .int .i64 0]) := hide (by
    rw [← hw0, ← hq, show w.heap.size + 2 = ((w.alloc (.cells x.cells.toArray 54)).alloc (.cells #[(.func (.func f) #[] caps)] 78)).heap.size by simp]; exact Whole.new _ _ _)
  have hqs : Hid (q + 3 ≤ w0.heap.size) := hide (by rw [← hw0, ← hq]; simp)
  have h00 := hqs
  have hQ : Hid (w.heap.size = q) := hide hq
  have hq2 : q + 1 + 1 = q + 2 := rfl
  have HSz0 : Hid (w0.heap.size ≤ w0.heap.size) := hide (Nat.le_refl _)
  clear hF hx hs1 hs2
  go_enter Try.func60, Try.ntmps60
  go_upto_region 1 with fail
  clear hw0 hq
  have c1 : w0.cell? ⟨q, 0, none⟩ = some (.slice x.paramsA x.params.length x.paramsc) := HA.out.cell 0
  have c2 : w0.cell? ⟨q + 1, 0, none⟩ = some (.func (.func f) #[] caps) := HC.out.cell 0
  have hqk := hqs
  have HFk := hide (HF.out.next (HB.out.mono HF.out.le))
  go_upto_region 2 with (go_at_call 57; refine (mapped_int _ x.params _ B f caps r (HX.out.params.below' HB.out) HX.out.paramsI HX.out.paramsB HFk.out).mono ?_; rintro en v0 ⟨A0, rfl, hM, hR, hb2⟩; replace HA := hide (HA.out.below' hb2); replace HC := hide (HC.out.below' hb2); replace HZ := hide (HZ.out.below' hb2); replace HB := hide (Below.all HB.out hb2); have HSv0 : Hid (w0.heap.size ≤ v0.heap.size) := hide hb2.size; replace hqs := hide (Nat.le_trans hqs.out hb2.size); have HPm0 := hide (stab_mine (q := q) hM (by have := hqk.out; omega)); have HPr0 := hide (stab_rd (q := q) hM (by have := hqk.out; omega) hR); have HR0 := hide (hM.rng); clear hb2 c1 c2 HFk hqk; have c1 : v0.cell? ⟨q, 0, none⟩ = some (.slice x.paramsA x.params.length x.paramsc) := HA.out.cell 0; have f1 := HA.out.free 0)
  obtain ⟨w1, hw⟩ : ∃ z, v0.setCell ⟨q, 0, none⟩ (.slice A0 x.params.length x.params.length) = z := ⟨_, rfl⟩
  have hf : Frm v0 w1 [q] := by rw [← hw]; exact (Frm.refl v0 [q]).setCell ⟨q, 0, none⟩ _ (.inl (by simp))
  replace HA := hide (HA.out.set 0 (.slice A0 x.params.length x.params.length))
  rw [hw] at HA
  replace HC := hide (HC.out.frm hf (by simp))
  replace HZ := hide (HZ.out.frm hf (by simp))
  replace HB := hide (HB.out.trans (hf.toBelow (fun b hb => by rw [List.mem_singleton.1 hb]; have := hQ.out; omega) HB.out.size))
  have HSw0 : Hid (v0.heap.size ≤ w1.heap.size) := hide hf.size
  replace hqs := hide (Nat.le_trans hqs.out hf.size)
  replace HPm0 := hide (HPm0.out.next hf)
  replace HPr0 := hide (HPr0.out.next hf)
  rw [hw]
  clear hw c1 f1 hf
  have c1 : w1.cell? ⟨q, 1, none⟩ = some (.slice x.insA x.ins.length x.insc) := HA.out.cell 1
  have c2 : w1.cell? ⟨q + 1, 0, none⟩ = some (.func (.func f) #[] caps) := HC.out.cell 0
  have hqk := hqs
  have HFk := hide (HF.out.next (HB.out.mono HF.out.le))
  go_upto_region 3 with (go_at_call 61; refine (mapped_ins _ x.ins _ (fun W x => x.ok W) _ _ _ _ (HX.out.ins.below' HB.out) (fun e he => (HX.out.insO e he).below HB.out) HS1.out (fnIns HFk.out (HC.out.cell 0))).mono ?_; rintro en v1 ⟨A1, ys, rfl, hM, hb2⟩; replace HA := hide (HA.out.below' hb2); replace HC := hide (HC.out.below' hb2); replace HZ := hide (HZ.out.below' hb2); replace HB := hide (Below.all HB.out hb2); have HSv1 : Hid (w1.heap.size ≤ v1.heap.size) := hide hb2.size; replace hqs := hide (Nat.le_trans hqs.out hb2.size); replace HPm0 := hide (HPm0.out.next (Frm.below hb2)); replace HPr0 := hide (HPr0.out.next (Frm.below hb2)); have HD1 := hide (stab_map (q := q) hM (by have := hqk.out; omega)); have HR1 := hide (hM.rng); clear hb2 c1 c2 HFk hqk; have c1 : v1.cell? ⟨q, 1, none⟩ = some (.slice x.insA x.ins.length x.insc) := HA.out.cell 1; have f1 := HA.out.free 1)
  obtain ⟨w2, hw⟩ : ∃ z, v1.setCell ⟨q, 1, none⟩ (.slice A1 x.ins.length x.ins.length) = z := ⟨_, rfl⟩
  have hf : Frm v1 w2 [q] := by rw [← hw]; exact (Frm.refl v1 [q]).setCell ⟨q, 1, none⟩ _ (.inl (by simp))
  replace HA := hide (HA.out.set 1 (.slice A1 x.ins.length x.ins.length))
  rw [hw] at HA
  replace HC := hide (HC.out.frm hf (by simp))
  replace HZ := hide (HZ.out.frm hf (by simp))
  replace HB := hide (HB.out.trans (hf.toBelow (fun b hb => by rw [List.mem_singleton.1 hb]; have := hQ.out; omega) HB.out.size))
  have HSw1 : Hid (v1.heap.size ≤ w2.heap.size) := hide hf.size
  replace hqs := hide (Nat.le_trans hqs.out hf.size)
  replace HPm0 := hide (HPm0.out.next hf)
  replace HPr0 := hide (HPr0.out.next hf)
  replace HD1 := hide (HD1.out.next hf)
  rw [hw]
  clear hw c1 f1 hf
  have c1 : w2.cell? ⟨q, 3, none⟩ = some (.slice x.term.argsA x.term.args.length x.term.argsc) := HA.out.cell 3
  have c2 : w2.cell? ⟨q + 1, 0, none⟩ = some (.func (.func f) #[] caps) := HC.out.cell 0
  have hqk := hqs
  have HFk := hide (HF.out.next (HB.out.mono HF.out.le))
  go_upto_region 4 with (go_at_call 57; refine (mapped_int _ x.term.args _ B f caps r (HX.out.term.args.below' HB.out) HX.out.term.argsI HX.out.term.argsB HFk.out).mono ?_; rintro en v2 ⟨A2, rfl, hM, hR, hb2⟩; replace HA := hide (HA.out.below' hb2); replace HC := hide (HC.out.below' hb2); replace HZ := hide (HZ.out.below' hb2); replace HB := hide (Below.all HB.out hb2); have HSv2 : Hid (w2.heap.size ≤ v2.heap.size) := hide hb2.size; replace hqs := hide (Nat.le_trans hqs.out hb2.size); replace HPm0 := hide (HPm0.out.next (Frm.below hb2)); replace HPr0 := hide (HPr0.out.next (Frm.below hb2)); replace HD1 := hide (HD1.out.next (Frm.below hb2)); have HPm2 := hide (stab_mine (q := q) hM (by have := hqk.out; omega)); have HPr2 := hide (stab_rd (q := q) hM (by have := hqk.out; omega) hR); have HR2 := hide (hM.rng); clear hb2 c1 c2 HFk hqk; have c1 : v2.cell? ⟨q, 3, none⟩ = some (.slice x.term.argsA x.term.args.length x.term.argsc) := HA.out.cell 3; have f1 := HA.out.free 3)
  obtain ⟨w3, hw⟩ : ∃ z, v2.setCell ⟨q, 3, none⟩ (.slice A2 x.term.args.length x.term.args.length) = z := ⟨_, rfl⟩
  have hf : Frm v2 w3 [q] := by rw [← hw]; exact (Frm.refl v2 [q]).setCell ⟨q, 3, none⟩ _ (.inl (by simp))
  replace HA := hide (HA.out.set 3 (.slice A2 x.term.args.length x.term.args.length))
  rw [hw] at HA
  replace HC := hide (HC.out.frm hf (by simp))
  replace HZ := hide (HZ.out.frm hf (by simp))
  replace HB := hide (HB.out.trans (hf.toBelow (fun b hb => by rw [List.mem_singleton.1 hb]; have := hQ.out; omega) HB.out.size))
  have HSw2 : Hid (v2.heap.size ≤ w3.heap.size) := hide hf.size
  replace hqs := hide (Nat.le_trans hqs.out hf.size)
  replace HPm0 := hide (HPm0.out.next hf)
  replace HPr0 := hide (HPr0.out.next hf)
  replace HD1 := hide (HD1.out.next hf)
  replace HPm2 := hide (HPm2.out.next hf)
  replace HPr2 := hide (HPr2.out.next hf)
  rw [hw]
  clear hw c1 f1 hf
  have c1 : w3.cell? ⟨q, 4, none⟩ = some (.slice x.term.casesA x.term.cases.length x.term.casesc) := HA.out.cell 4
  have hqk := hqs
  have HFk := hide (HF.out.next (HB.out.mono HF.out.le))
  go_upto_region 5 with (go_at_call 63; refine (copied_i64 _ _ (intsN .i64 x.term.cases) [] _ (HX.out.term.cases.below' HB.out).toN (RdN.nil 1) (intsN_one _ _) (fun _ h => by cases h) (by rw [intsN_len]; have h7 := HX.out.term.casesB; unfold Fits at h7; simp; omega)).mono ?_; rintro en v3 ⟨A3, n3, rfl, hn, hM, hR, hb2⟩; obtain rfl : n3 = x.term.cases.length := (by rw [hn]; simp [intsN]); rw [List.append_nil] at hM hR; clear hn; replace HA := hide (HA.out.below' hb2); replace HC := hide (HC.out.below' hb2); replace HZ := hide (HZ.out.below' hb2); replace HB := hide (Below.all HB.out hb2); have HSv3 : Hid (w3.heap.size ≤ v3.heap.size) := hide hb2.size; replace hqs := hide (Nat.le_trans hqs.out hb2.size); replace HPm0 := hide (HPm0.out.next (Frm.below hb2)); replace HPr0 := hide (HPr0.out.next (Frm.below hb2)); replace HD1 := hide (HD1.out.next (Frm.below hb2)); replace HPm2 := hide (HPm2.out.next (Frm.below hb2)); replace HPr2 := hide (HPr2.out.next (Frm.below hb2)); have HPm3 := hide (stab_mine (q := q) hM (by have := hqk.out; omega)); have HPr3 := hide (stab_rd (q := q) hM (by have := hqk.out; omega) hR.toI); have HR3 := hide (hM.rng); clear hb2 c1 HFk hqk; have c1 : v3.cell? ⟨q, 4, none⟩ = some (.slice x.term.casesA x.term.cases.length x.term.casesc) := HA.out.cell 4; have f1 := HA.out.free 4)
  obtain ⟨w4, hw⟩ : ∃ z, v3.setCell ⟨q, 4, none⟩ (.slice A3 x.term.cases.length x.term.cases.length) = z := ⟨_, rfl⟩
  have hf : Frm v3 w4 [q] := by rw [← hw]; exact (Frm.refl v3 [q]).setCell ⟨q, 4, none⟩ _ (.inl (by simp))
  replace HA := hide (HA.out.set 4 (.slice A3 x.term.cases.length x.term.cases.length))
  rw [hw] at HA
  replace HC := hide (HC.out.frm hf (by simp))
  replace HZ := hide (HZ.out.frm hf (by simp))
  replace HB := hide (HB.out.trans (hf.toBelow (fun b hb => by rw [List.mem_singleton.1 hb]; have := hQ.out; omega) HB.out.size))
  have HSw3 : Hid (v3.heap.size ≤ w4.heap.size) := hide hf.size
  replace hqs := hide (Nat.le_trans hqs.out hf.size)
  replace HPm0 := hide (HPm0.out.next hf)
  replace HPr0 := hide (HPr0.out.next hf)
  replace HD1 := hide (HD1.out.next hf)
  replace HPm2 := hide (HPm2.out.next hf)
  replace HPr2 := hide (HPr2.out.next hf)
  replace HPm3 := hide (HPm3.out.next hf)
  replace HPr3 := hide (HPr3.out.next hf)
  rw [hw]
  clear hw c1 f1 hf
  have c1 : w4.cell? ⟨q, 5, none⟩ = some (.slice x.term.succsA x.term.succs.length x.term.succsc) := HA.out.cell 5
  have c2 : w4.cell? ⟨q + 1, 0, none⟩ = some (.func (.func f) #[] caps) := HC.out.cell 0
  have hqk := hqs
  have HFk := hide (HF.out.next (HB.out.mono HF.out.le))
  go_upto_region 6 with (go_at_call 64; refine (mapped_ed _ x.term.succs _ (fun W x => x.ok W) _ _ _ _ (HX.out.term.succs.below' HB.out) (fun e he => (HX.out.term.succsO e he).below HB.out) HS2.out (fnEds HFk.out (HC.out.cell 0))).mono ?_; rintro en v4 ⟨A4, zs, rfl, hM, hb2⟩; replace HA := hide (HA.out.below' hb2); replace HC := hide (HC.out.below' hb2); replace HZ := hide (HZ.out.below' hb2); replace HB := hide (Below.all HB.out hb2); have HSv4 : Hid (w4.heap.size ≤ v4.heap.size) := hide hb2.size; replace hqs := hide (Nat.le_trans hqs.out hb2.size); replace HPm0 := hide (HPm0.out.next (Frm.below hb2)); replace HPr0 := hide (HPr0.out.next (Frm.below hb2)); replace HD1 := hide (HD1.out.next (Frm.below hb2)); replace HPm2 := hide (HPm2.out.next (Frm.below hb2)); replace HPr2 := hide (HPr2.out.next (Frm.below hb2)); replace HPm3 := hide (HPm3.out.next (Frm.below hb2)); replace HPr3 := hide (HPr3.out.next (Frm.below hb2)); have HD4 := hide (stab_map (q := q) hM (by have := hqk.out; omega)); have HR4 := hide (hM.rng); clear hb2 c1 c2 HFk hqk; have c1 : v4.cell? ⟨q, 5, none⟩ = some (.slice x.term.succsA x.term.succs.length x.term.succsc) := HA.out.cell 5; have f1 := HA.out.free 5)
  obtain ⟨w5, hw⟩ : ∃ z, v4.setCell ⟨q, 5, none⟩ (.slice A4 x.term.succs.length x.term.succs.length) = z := ⟨_, rfl⟩
  have hf : Frm v4 w5 [q] := by rw [← hw]; exact (Frm.refl v4 [q]).setCell ⟨q, 5, none⟩ _ (.inl (by simp))
  replace HA := hide (HA.out.set 5 (.slice A4 x.term.succs.length x.term.succs.length))
  rw [hw] at HA
  replace HC := hide (HC.out.frm hf (by simp))
  replace HZ := hide (HZ.out.frm hf (by simp))
  replace HB := hide (HB.out.trans (hf.toBelow (fun b hb => by rw [List.mem_singleton.1 hb]; have := hQ.out; omega) HB.out.size))
  have HSw4 : Hid (v4.heap.size ≤ w5.heap.size) := hide hf.size
  replace hqs := hide (Nat.le_trans hqs.out hf.size)
  replace HPm0 := hide (HPm0.out.next hf)
  replace HPr0 := hide (HPr0.out.next hf)
  replace HD1 := hide (HD1.out.next hf)
  replace HPm2 := hide (HPm2.out.next hf)
  replace HPr2 := hide (HPr2.out.next hf)
  replace HPm3 := hide (HPm3.out.next hf)
  replace HPr3 := hide (HPr3.out.next hf)
  replace HD4 := hide (HD4.out.next hf)
  rw [hw]
  clear hw c1 f1 hf
  have hsz : Hid (w0.heap.size ≤ v0.heap.size ∧ v0.heap.size ≤ w1.heap.size ∧ w1.heap.size ≤ v1.heap.size ∧ v1.heap.size ≤ w2.heap.size ∧ w2.heap.size ≤ v2.heap.size ∧ v2.heap.size ≤ w3.heap.size ∧ w3.heap.size ≤ v3.heap.size ∧ v3.heap.size ≤ w4.heap.size ∧ w4.heap.size ≤ v4.heap.size ∧ v4.heap.size ≤ w5.heap.size) := hide ⟨HSv0.out, HSw0.out, HSv1.out, HSw1.out, HSv2.out, HSw2.out, HSv3.out, HSw3.out, HSv4.out, HSw4.out⟩
  have hT := TmD.mk' (base := w0.heap.size) (r := r) (HX.out.term.below HB.out) HF.out.wf (HPm2.out.now.low (by have := hsz.out; omega)) HPr2.out.now (HPm3.out.now.low (by have := hsz.out; omega)) HPr3.out.now (HD4.out.now.low (by have := hsz.out; omega))
  have hY := BkD.mk' (base := w0.heap.size) (r := r) (HX.out.below HB.out) HF.out.wf HPm0.out.now HPr0.out.now (HD1.out.now.low (by have := hsz.out; omega)) hT.1 hT.2
  obtain ⟨y, hyd⟩ : ∃ y, x.mapped A0 A1 ys (x.term.mapped A2 A3 A4 zs r) r = y := ⟨_, rfl⟩
  have hl4 := HD4.out.now.len
  have hl1 := HD1.out.now.len
  have hyc : ((((x.cells.toArray.setIfInBounds 0 (.slice A0 x.params.length x.params.length)).setIfInBounds 1 (.slice A1 x.ins.length x.ins.length)).setIfInBounds 3 (.slice A2 x.term.args.length x.term.args.length)).setIfInBounds 4 (.slice A3 x.term.cases.length x.term.cases.length)).setIfInBounds 5 (.slice A4 x.term.succs.length x.term.succs.length) = y.cells.toArray := by
    rw [← hyd]
    simp [BkD.cells, BkD.mapped, TmD.cells, TmD.mapped, hl1, hl4]
  have hyn : y.fp.Nodup := by
    rw [← hyd]
    have h := hsz.out
    have e4 := (HR3.out.app HR4.out (by omega) (by omega) (by omega))
    have e3 := (HR2.out.app e4 (by omega) (by omega) (by omega))
    have e2 := (HR1.out.app e3 (by omega) (by omega) (by omega))
    have e1 := (HR0.out.app e2 (by omega) (by omega) (by omega)).1
    have : (x.mapped A0 A1 ys (x.term.mapped A2 A3 A4 zs r) r).fp = slB A0 x.params.length ++ (slB A1 x.ins.length ++ ys.flatMap InD.fp ++ (slB A2 x.term.args.length ++ (slB A3 x.term.cases.length ++ (slB A4 x.term.succs.length ++ zs.flatMap EdD.fp)))) := by
      simp [BkD.fp, BkD.mapped, TmD.fp, TmD.mapped, hl1, hl4]
    rw [this]
    exact e1
  rw [hyd] at hY
  clear hyd hl1 hl4 hT
  have HYP := hide hY.2
  have HYN := hide hyn
  have HY := hide hY.1
  rw [hyc] at HA
  clear hY hyn hyc HPm0 HPr0 HD1 HPm2 HPr2 HPm3 HPr3 HD4 HR0 HR1 HR2 HR3 HR4
  have hu := Try.underlying54
  have hi : (Try.prog.info? 54).map (·.size) = some 7 := by kernel_rfl
  refine wp_region_lit ?_
  refine wpList_load_mid (by rfl) _ _ rfl q 0 (by rfl) y.cells _ HA.out.range hu rfl hi ?_
  refine wpList_store_mid (by rfl) _ _ _ rfl (q + 2) 0 y.cells.toArray (by rfl) (by rfl) HZ.out.room hi BkD.all1' ?_
  rw [show y.cells.toArray.toList = y.cells from rfl]
  obtain ⟨w6, hw6⟩ : ∃ z, w5.setCells (q + 2) 0 y.cells = z := ⟨_, rfl⟩
  have hl : (loadVar 54 ⟨q + 2, 0, none⟩).run Try.prog w6 = .ok (.agg y.cells.toArray) w6 := by
    rw [← hw6]
    exact Whole.ret (cs := y.cells) (Whole.put (old := [.slice none 0 0, .slice none 0 0, .int .i64 0, .slice none 0 0, .slice none 0 0, .slice none 0 0, .int .i64 0]) HZ.out rfl) hu rfl hi
  have f4 := frm_setCells (g := q + 2) y.cells 0 w5
  rw [hw6] at f4
  have h03 : Hid (q + 3 ≤ w0.heap.size) := h00
  have HY4 : Hid (y.own w6 w.heap.size) := hide ((HY.out.frm f4 (fun b hb hb' => by
    have := (HY.out.blk b hb).1
    have := h03.out
    simp only [List.mem_singleton] at hb'
    omega)).low (by have := h03.out; have := hQ.out; omega))
  have HB4 : Hid (Below w.heap.size w w6) := hide (HB.out.trans (f4.toBelow (fun b hb => by rw [List.mem_singleton.1 hb]; have := hQ.out; omega) HB.out.size))
  rw [hw6]
  clear hw6 f4 hu hi
  have HL := hide hl
  clear hl
  go_wp2_with fail
  refine bodyPost_ret (v := .agg y.cells.toArray) ?_ rfl ⟨y, rfl, HYP.out, HY4.out, HYN.out, HB4.out⟩
  simp [results, Try.f60, Act.put, asAddr, HL.out]
end Go.Proofs.Ythnehmfdadgklaa

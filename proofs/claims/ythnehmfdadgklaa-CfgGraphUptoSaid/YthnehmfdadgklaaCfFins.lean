/-
  Layer 20 (cfg): mapped, for structs: [api.Instr]
-/
import Derived.Test.YthnehmfdadgklaaCfE
import Derived.Deep.MidRow
import Derived.Deep.Cut
namespace Go.Proofs.Ythnehmfdadgklaa
open Go.RowKit Go.Deep

theorem Whole.range {w : World} {g : Nat} {t : TypeId} {l : List Value} (h : Whole w g t l.toArray) : w.rangeAt g 0 l := fun j v hv => by
  rw [Nat.zero_add, h.cell j, List.getElem?_toArray]
  exact hv
theorem setCells_new (w : World) (T : TypeId) : ∀ (new pre old : List Value), old.length = new.length → (w.alloc (.cells (pre ++ old).toArray T)).setCells w.heap.size pre.length new = w.alloc (.cells (pre ++ new).toArray T)
  | [], pre, old, h => by
    obtain rfl : old = [] := List.eq_nil_of_length_eq_zero (by simpa using h)
    rfl
  | v :: r, pre, [], h => by simp at h
  | v :: r, pre, o :: os, h => by
    rw [World.setCells, World.setCell_alloc_at _ _ _ _ _ rfl]
    have e : (pre ++ o :: os).toArray.setIfInBounds pre.length v = ((pre ++ [v]) ++ os).toArray := by
      apply Array.toList_inj.1
      simp
    have e2 : pre ++ v :: r = (pre ++ [v]) ++ r := by simp
    rw [e, e2, ← setCells_new w T r (pre ++ [v]) os (by simpa using h)]
    simp
theorem wpList_store_new {P : Program} {ops : Array Oper} {rest : List Oper} {op : Oper} {a : Act} {w : World} {Q : Exit → Act → World → Prop} (hgd : op.guard = none) (ty : TypeId) (x y : Operand) (ho : op.op = .store ty x y)
    (T : TypeId) (old new : List Value) (hx : a.eval x = .pointer (some ⟨w.heap.size, 0, none⟩)) (hy : a.eval y = .agg new.toArray) (hl : old.length = new.length)
    (hi : (P.info? ty).map (·.size) = some new.length) (h1 : new.toArray.all (·.oneCell') = true)
    (h : wpList P ops Q rest (a.put op.dst undef) (w.alloc (.cells new.toArray T))) : wpList P ops Q (op :: rest) a (w.alloc (.cells old.toArray T)) := by
  refine wpList_store_mid hgd ty x y ho w.heap.size 0 new.toArray hx hy ?_ (by simpa using hi) h1 ?_
  · intro j hj
    have hW := Whole.new w T old.toArray
    refine ⟨?_, by rw [Nat.zero_add]; exact hW.free j⟩
    rw [Nat.zero_add, hW.cell j, List.getElem?_toArray, List.getElem?_eq_getElem (by rw [hl]; simpa using hj)]
    rfl
  · have := setCells_new w T new [] old hl
    simp only [List.nil_append, List.length_nil] at this
    rw [show new.toArray.toList = new by simp, this]
    exact h
/-- What a function value is that maps structs. -/
structure FnS {D : Type} {m : Nat} (K : DK D m) (P : Program) (okp : World → D → Prop) (w : World) (B : Nat) (f : FuncId) (caps : Array Value) (Q : D → D → Prop) : Prop where
  enter : ∀ (xs : Array Value) (W : World), (callFunc f xs).run P W = .ok (.enter f xs) W
  call : ∀ W, Below B w W → ∀ x, okp W x → Calls P f (#[.agg (K.cells x).toArray] ++ caps) W (fun e W' => ∃ y, e = .returned (.agg (K.cells y).toArray) ∧ Q x y ∧ K.own W' W.heap.size y ∧ (K.fp y).Nodup ∧ Below W.heap.size W W')
  keep : ∀ W W' x, okp W x → Below W.heap.size W W' → okp W' x
  le : B ≤ w.heap.size
/-- What a mapped list is. -/
structure MapD {D : Type} {m : Nat} (K : DK D m) (base : Nat) (W : World) (e : TypeId) (A : Option Addr) (l ys : List D) (Q : D → D → Prop) : Prop where
  len : ys.length = l.length
  each : ∀ (i : Nat) (x y : D), l[i]? = some x → ys[i]? = some y → Q x y
  mine : Mine W base e m A l.length l.length (ys.map K.cells)
  rd : RdN W m (.slice A l.length l.length) (ys.map K.cells)
  own : ∀ y ∈ ys, K.own W base y
  nodup : (slB A l.length ++ ys.flatMap K.fp).Nodup
theorem MapD.empty {D : Type} {m : Nat} {K : DK D m} {base : Nat} {W : World} {e : TypeId} {A : Option Addr} {Q : D → D → Prop} (h : RdN W m (.slice A 0 0) []) : MapD K base W e A ([] : List D) [] Q :=
  ⟨rfl, fun _ _ _ _ hy => (by simp at hy), ⟨rfl, Nat.zero_le _, .inl rfl⟩, h, fun _ h => (by cases h), by rw [List.length_nil, slB_zero]; exact List.nodup_nil⟩
theorem MapAt.done {D : Type} {m : Nat} {K : DK D m} {base : Nat} {W : World} {e : TypeId} {g c0 : Nat} {l : List D} {Q : D → D → Prop} (h : MapAt K base W e g l.length c0 l Q l.length) (hx : l.length ≤ maxLen) (h0 : 0 < l.length) :
    ∃ ys, MapD K base W e (some ⟨g, 0, none⟩) l ys Q := by
  obtain ⟨ys, h1, h2, h3, h4, h5⟩ := h
  have e0 : (ys ++ l.drop l.length).map K.cells = ys.map K.cells := by simp
  rw [e0] at h3
  refine ⟨ys, h1, h2, ⟨by simp [h1], hx, .inr ⟨c0, h3⟩⟩, h3.rd.cut (Nat.le_refl _) hx, h4, ?_⟩
  simp only [slB]
  rw [if_neg (by omega)]
  exact h5
theorem InD.all1' {x : InD} : x.cells.toArray.all (·.oneCell') = true := all_oneCell_toArray (fun v hv => List.all_eq_true.1 (show x.cells.all (·.oneCell') = true by rfl) v hv)
set_option maxRecDepth 100000 in
set_option maxHeartbeats 1000000 in
theorem mapped_ins (V : Value) (l : List InD) (w : World) (okp : World → InD → Prop) (B : Nat) (f : FuncId) (caps : Array Value) (Q : InD → InD → Prop) (hV : RdN w 8 V (l.map InD.cells)) (hI : ∀ x ∈ l, okp w x) (hL : l.length ≤ 1000000) (hF : FnS inK Try.prog okp w B f caps Q) :
    Calls Try.prog 61 #[V, .func (.func f) #[] caps] w fun e w' => ∃ A ys, e = .returned (.slice A l.length l.length) ∧ MapD inK w.heap.size w' 70 A l ys Q ∧ Below w.heap.size w w' := by
  obtain ⟨_, X, c0, hv, _, _, _⟩ := id hV
  rw [List.length_map] at hv
  subst hv
  have HV := hide hV
  have HI := hide hI
  have HF := hide hF
  have HL := hide hL
  have hu := Try.underlying70
  have hi : (Try.prog.info? 70).map (·.size) = some 8 := by kernel_rfl
  have HU := hide hu
  have HT := hide hi
  clear hV hI hF hu hi
  go_enter Try.func61, Try.ntmps61
  go_wp2_with (go_at_call 66; refine (copied_ins _ _ (l.map InD.cells) [] _ HV.out (RdN.nil 8) InD.one (fun _ h => by cases h) (by rw [List.length_map]; have := HL.out; simp; omega)).mono ?_; rintro en w1 ⟨A, n, rfl, hn, hM, hR, hB⟩; obtain rfl : n = l.length := (by rw [hn]; simp); rw [List.append_nil] at hM hR; replace hM := hide hM; replace hR := hide hR; replace hB := hide hB; clear hn)
  have hst : 0 < l.length → ∃ g c1, A = some ⟨g, 0, none⟩ ∧ MapAt inK w.heap.size w1 70 g l.length c1 l Q 0 := fun h0 => by
    obtain ⟨c1, hown⟩ := hM.out.get h0
    obtain ⟨g, c2, e1, _⟩ := hown.form (by rw [List.length_map]; exact h0)
    rw [List.length_map] at e1
    injection e1 with e1 _ e2
    subst e1 e2
    exact ⟨g, c1, rfl, MapAt.start hown⟩
  have HS := hide hst
  clear hst
  go_loopw [12] (fun i wr => ∃ k : Nat, k ≤ l.length ∧ i = .int .i64 k ∧ Hid (0 < l.length → ∃ g c1, A = some ⟨g, 0, none⟩ ∧ MapAt inK w.heap.size wr 70 g l.length c1 l Q k) ∧ Hid (Below w.heap.size w wr) ∧ Hid (Below w1.heap.size w1 wr ∨ 0 < l.length)) (fun i _ => l.length - (intOf i).toNat)
  case atStart => exact ⟨0, Nat.zero_le _, rfl, HS, hB, hide (.inl (Below.refl _ _))⟩
  case round =>
    clear HS
    obtain ⟨k, hk, rfl, hi, hb, hz⟩ := hrel
    by_cases hlt : k < l.length
    · clear hz
      obtain ⟨g, c1, rfl, hm⟩ := hi.out (by omega)
      obtain ⟨x, hx⟩ : ∃ x, l[k]? = some x := ⟨_, List.getElem?_eq_getElem hlt⟩
      have HX := hide hx
      have hok := HI.out x (List.mem_of_getElem? hx)
      have HM := hide hm
      have HR : Hid (wr.rangeAt g (k * 8) x.cells) := hide (hm.at hx).1
      clear hm hx hi
      go_upto_region 4 with fail
      refine wp_region_lit ?_
      go_step; go_step; go_step
      go_step; go_step; go_step
      refine wpList_load_mid (by rfl) _ _ rfl g (k * 8) (by rfl) x.cells _ HR.out HU.out rfl HT.out ?_
      go_step; go_step; go_step
      go_step; go_step; go_step
      refine wpList_store_new (by rfl) _ _ _ rfl _ _ x.cells (by rfl) (by rfl) (by rfl) HT.out InD.all1' ?_
      obtain ⟨w2, hw2⟩ : ∃ z, wr.alloc (.cells x.cells.toArray 70) = z := ⟨_, rfl⟩
      have b12 : Below wr.heap.size wr w2 := by rw [← hw2]; exact (Below.refl _ _).alloc (Nat.le_refl _) _
      have A2 : w2.rangeAt wr.heap.size 0 x.cells := by rw [← hw2]; exact Whole.range (Whole.new wr 70 _)
      rw [hw2]
      have HA := hide A2
      have HB2 := hide b12
      have HOK := hide (HF.out.keep _ _ _ (HF.out.keep _ _ _ hok hb.out) b12)
      have s2 : Hid (wr.heap.size + 1 ≤ w2.heap.size) := hide (by rw [← hw2, World.size_alloc]; exact Nat.le_refl _)
      clear hw2 A2 b12 HR
      go_upto_region 5 with fail
      refine wp_region_lit ?_
      go_step; go_step; go_step
      go_step; go_step; go_step
      go_step; go_step; go_step
      refine wpList_load_mid (by rfl) _ _ rfl wr.heap.size 0 (by rfl) x.cells _ HA.out HU.out rfl HT.out ?_
      have hcf := HF.out.enter
      go_step; go_step
      clear hcf
      refine (HF.out.call _ ((hb.out.mono HF.out.le).trans (HB2.out.mono (Nat.le_trans HF.out.le hb.out.size))) x HOK.out).mono ?_
      rintro en w3 ⟨y, rfl, hq, hy, hn, hb3⟩
      have hb13 := HB2.out.trans (hb3.mono HB2.out.size)
      have HB13 := hide hb13
      have HM3 := hide (HM.out.frm hb13)
      have HS := hide (HM3.out.step HX.out (.inr ⟨w2.heap.size, hy, wr, hb13, HM.out, HB2.out.size⟩) hq hn)
      have HTh : Hid (w3.there g (k * 8) 8) := hide (HM3.out.at HX.out).2.1
      have HG := hide (HM3.out.at HX.out).2.2.1
      clear hq hy hn hb3 hb13 HB2 HA HM HM3 hok HOK
      simp only []
      go_step
      go_step; go_step; go_step
      refine wpList_store_mid (by rfl) _ _ _ rfl g (k * 8) y.cells.toArray (by rfl) (by rfl) HTh.out HT.out InD.all1' ?_
      rw [show y.cells.toArray.toList = y.cells from rfl]
      replace hb := hide ((hb.out.trans (HB13.out.mono hb.out.size)).trans ((frm_setCells (g := g) y.cells (k * 8) w3).toBelow (B := w.heap.size) (fun a ha => by rw [List.mem_singleton.1 ha]; exact HG.out) (Nat.le_trans hb.out.size HB13.out.size)))
      obtain ⟨w4, hw4⟩ : ∃ z, w3.setCells g (k * 8) y.cells = z := ⟨_, rfl⟩
      have HS4 : Hid (MapAt inK w.heap.size w4 70 g l.length c1 l Q (k + 1)) := hide (by rw [← hw4]; exact HS.out)
      rw [hw4] at hb
      rw [hw4]
      clear hw4 HS HTh HG HB13
      go_wp2_with fail
      go_roundw
      case rel => exact ⟨k + 1, by omega, by go_num, hide (fun _ => ⟨g, c1, rfl, HS4.out⟩), hb, hide (.inr (by omega))⟩
      case measure => simp [intOf]; omega
    · have hkl : k = l.length := by omega
      have HK := hide hkl
      clear hkl
      go_wp2_with fail
      go_ret
      rw [HK.out] at hi
      rcases Nat.eq_zero_or_pos l.length with h0 | h0
      · have hl : l = [] := List.eq_nil_of_length_eq_zero h0
        subst hl
        rcases hz.out with hz | hz
        · exact ⟨A, [], rfl, MapD.empty (hR.out.below' hz), hb.out⟩
        · simp at hz
      · obtain ⟨g, c1, rfl, hm⟩ := hi.out h0
        have hx : l.length ≤ maxLen := by have := HL.out; unfold maxLen; omega
        obtain ⟨ys, hys⟩ := hm.done hx h0
        exact ⟨_, ys, rfl, hys, hb.out⟩
end Go.Proofs.Ythnehmfdadgklaa

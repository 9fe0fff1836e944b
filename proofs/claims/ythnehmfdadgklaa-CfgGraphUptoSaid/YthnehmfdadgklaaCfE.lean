/-
  Layer 20 (cfg): a list mapped in place by a function value: what a round of the loop keeps. And mapped, for integers.
-/
import Derived.Test.YthnehmfdadgklaaCfD
namespace Go.Proofs.Ythnehmfdadgklaa
open Go.RowKit

theorem intsN_flat (k : IntKind) : ∀ l : List Int, (intsN k l).flatten = l.map (Value.int k)
  | [] => rfl
  | z :: l => by
    have := intsN_flat k l
    simp only [intsN] at this ⊢
    simp [this]
theorem Own.toN {w : World} {base : Nat} {e : TypeId} {k : IntKind} {v : Value} {l : List Int} (h : Own w base e k v l) : OwnN w base e 1 v (intsN k l) := by
  refine ⟨?_, fun r hr => by obtain ⟨z, _, rfl⟩ := List.mem_map.1 hr; rfl⟩
  rw [intsN_flat, intsN_len]
  exact h
theorem OwnN.toI {w : World} {base : Nat} {e : TypeId} {k : IntKind} {v : Value} {l : List Int} (h : OwnN w base e 1 v (intsN k l)) : Own w base e k v l := by
  have := h.1
  rw [intsN_flat, intsN_len] at this
  exact this
/-- Structs of m cells: their rows' blocks, what it is that the call made them. -/
structure DK (D : Type) (m : Nat) where
  cells : D → List Value
  fp : D → List Nat
  own : World → Nat → D → Prop
  len : ∀ d, (cells d).length = m
  frm : ∀ {w w' : World} {base : Nat} {d : D} {S : List Nat}, own w base d → Frm w w' S → (∀ b ∈ fp d, b ∉ S) → own w' base d
  low : ∀ {w : World} {base b : Nat} {d : D}, own w base d → b ≤ base → own w b d
  blk : ∀ {w : World} {base : Nat} {d : D}, own w base d → ∀ b ∈ fp d, base ≤ b ∧ b < w.heap.size
def inK : DK InD 8 := ⟨InD.cells, InD.fp, fun w b d => d.own w b, InD.len, InD.own.frm, InD.own.low, InD.own.blk⟩
def edK : DK EdD 2 := ⟨EdD.cells, EdD.fp, fun w b d => d.own w b, EdD.len, EdD.own.frm, EdD.own.low, EdD.own.blk⟩
def bkK : DK BkD 7 := ⟨BkD.cells, BkD.fp, fun w b d => d.own w b, BkD.len, BkD.own.frm, BkD.own.low, BkD.own.blk⟩
section
variable {D : Type} {m : Nat}
/-- The first k elements of the row in block g are new ones, the others are the old ones still. -/
def MapAt (K : DK D m) (base : Nat) (W : World) (e : TypeId) (g n c0 : Nat) (l : List D) (Q : D → D → Prop) (k : Nat) : Prop :=
  ∃ ys : List D, ys.length = k ∧ (∀ (i : Nat) (x y : D), l[i]? = some x → ys[i]? = some y → Q x y) ∧ OwnN W base e m (.slice (some ⟨g, 0, none⟩) n c0) ((ys ++ l.drop k).map K.cells) ∧
    (∀ y ∈ ys, K.own W base y) ∧ (g :: ys.flatMap K.fp).Nodup
variable {K : DK D m} {base : Nat} {W W' : World} {e : TypeId} {g n c0 : Nat} {l : List D} {Q : D → D → Prop} {k : Nat}
theorem MapAt.frm (h : MapAt K base W e g n c0 l Q k) (hb : Below W.heap.size W W') : MapAt K base W' e g n c0 l Q k := by
  obtain ⟨ys, h1, h2, h3, h4, h5⟩ := h
  exact ⟨ys, h1, h2, h3.below' hb, fun y hy => K.frm (S := []) (h4 y hy) (Frm.below hb) (fun _ _ => by simp), h5⟩
theorem MapAt.start (h : OwnN W base e m (.slice (some ⟨g, 0, none⟩) n c0) (l.map K.cells)) : MapAt K base W e g n c0 l Q 0 :=
  ⟨[], rfl, fun _ _ _ _ hy => (by simp at hy), by simpa using h, fun _ h => (by cases h), by simp⟩
/-- The element that comes next. -/
theorem MapAt.at (h : MapAt K base W e g n c0 l Q k) {x : D} (hx : l[k]? = some x) : W.rangeAt g (k * m) (K.cells x) ∧ W.there g (k * m) m ∧ base ≤ g ∧ g < W.heap.size := by
  obtain ⟨ys, h1, _, h3, _, _⟩ := h
  have hk : ((ys ++ l.drop k).map K.cells)[k]? = some (K.cells x) := by
    rw [List.getElem?_map, List.getElem?_append_right (by omega), h1, Nat.sub_self, List.getElem?_drop, Nat.add_zero, hx]; rfl
  exact ⟨h3.at hk, h3.room (List.getElem?_eq_some_iff.1 hk).1, h3.lt g rfl⟩
/-- A round. -/
theorem MapAt.step (h : MapAt K base W e g n c0 l Q k) {x y : D} (hx : l[k]? = some x) (hy : K.own W W.heap.size y ∨ ∃ B, K.own W B y ∧ ∃ W0, Below W0.heap.size W0 W ∧ MapAt K base W0 e g n c0 l Q k ∧ W0.heap.size ≤ B) (hq : Q x y) (hn : (K.fp y).Nodup) :
    MapAt K base (W.setCells g (k * m) (K.cells y)) e g n c0 l Q (k + 1) := by
  obtain ⟨B, hown, W0, hW0, hM0, hB⟩ : ∃ B, K.own W B y ∧ ∃ W0, Below W0.heap.size W0 W ∧ MapAt K base W0 e g n c0 l Q k ∧ W0.heap.size ≤ B := by
    rcases hy with hy | hy
    · exact ⟨W.heap.size, hy, W, Below.refl _ _, h, Nat.le_refl _⟩
    · exact hy
  clear hy h
  obtain ⟨ys, h1, h2, h3, h4, h5⟩ := hM0
  have hgl := h3.lt g rfl
  have hyb := K.blk hown
  have hgy : g ∉ K.fp y := fun hm => by have := (hyb g hm).1; omega
  have hf := frm_setCells (g := g) (K.cells y) (k * m) W
  have hfb : Frm W0 W [] := Frm.below hW0
  have hk : k < l.length := (List.getElem?_eq_some_iff.1 hx).1
  refine ⟨ys ++ [y], by simp [h1], fun i a b ha hb => ?_, ?_, fun z hz => ?_, ?_⟩
  · rcases Nat.lt_or_ge i ys.length with hi | hi
    · rw [List.getElem?_append_left hi] at hb
      exact h2 i a b ha hb
    · rcases Nat.eq_or_lt_of_le hi with he | hlt
      · subst he
        rw [List.getElem?_append_right (Nat.le_refl _), Nat.sub_self] at hb
        injection hb with hb
        rw [h1, hx] at ha
        injection ha with ha
        rw [← ha, ← hb]
        exact hq
      · rw [List.getElem?_eq_none (by simp; omega)] at hb
        cases hb
  · have hp := (h3.below' hW0).put (i := k) (r' := K.cells y) (by simp; omega) (K.len y)
    have e1 : ((ys ++ l.drop k).map K.cells).set k (K.cells y) = ((ys ++ [y]) ++ l.drop (k + 1)).map K.cells := by
      rw [← List.map_set, List.set_append_right _ _ (by omega), h1, Nat.sub_self, List.drop_eq_getElem_cons hk, List.set_cons_zero]
      simp
    rw [e1] at hp
    exact hp
  · rcases List.mem_append.1 hz with hz | hz
    · have hz0 := h4 z hz
      refine K.frm (K.frm (S := []) hz0 hfb (fun _ _ => by simp)) hf (fun b hb hb' => ?_)
      simp only [List.mem_singleton] at hb'
      subst hb'
      exact (List.nodup_cons.1 h5).1 (List.mem_flatMap.2 ⟨z, hz, hb⟩)
    · simp only [List.mem_singleton] at hz
      subst hz
      refine K.low (K.frm hown hf (fun b hb hb' => ?_)) (by omega)
      simp only [List.mem_singleton] at hb'
      subst hb'
      exact hgy hb
  · rw [List.flatMap_append]
    simp only [List.flatMap_cons, List.flatMap_nil, List.append_nil]
    have h6 := List.nodup_cons.1 h5
    refine List.nodup_cons.2 ⟨fun hm => ?_, List.nodup_append.2 ⟨h6.2, hn, fun a ha b hb hab => ?_⟩⟩
    · rcases List.mem_append.1 hm with hm | hm
      · exact h6.1 hm
      · exact hgy hm
    · subst hab
      obtain ⟨z, hz, ha⟩ := List.mem_flatMap.1 ha
      have r1 := (K.blk (h4 z hz) a ha).2
      have r2 := (hyb a hb).1
      omega
end
/-- The integers of the row in its block: the first k of them mapped. -/
def IntMap (base : Nat) (W : World) (e : TypeId) (A : Option Addr) (l : List Int) (r : Int → Int) (k : Nat) : Prop :=
  0 < l.length → ∃ g c0, A = some ⟨g, 0, none⟩ ∧ Own W base e .i64 (.slice (some ⟨g, 0, none⟩) l.length c0) ((l.take k).map r ++ l.drop k)
theorem IntMap.next {base : Nat} {W W' : World} {e : TypeId} {A : Option Addr} {l : List Int} {r : Int → Int} {k : Nat} (h : IntMap base W e A l r k) (hb : Below W.heap.size W W') : IntMap base W' e A l r k := fun h0 => by
  obtain ⟨g, c0, h1, h2⟩ := h h0
  exact ⟨g, c0, h1, h2.below' hb⟩
theorem intMap_step {l : List Int} {r : Int → Int} {k : Nat} {z : Int} (hz : l[k]? = some z) : ((l.take k).map r ++ l.drop k).set k (r z) = (l.take (k + 1)).map r ++ l.drop (k + 1) := by
  have hk := (List.getElem?_eq_some_iff.1 hz).1
  have e1 : ((l.take k).map r).length = k := by simp; omega
  have e2 : l[k] = z := (List.getElem?_eq_some_iff.1 hz).2
  rw [List.set_append_right _ _ (by omega), e1, Nat.sub_self, List.drop_eq_getElem_cons hk, List.set_cons_zero, List.take_succ_eq_append_getElem hk, e2]
  simp
theorem intMap_at {l : List Int} {r : Int → Int} {k : Nat} {z : Int} (hz : l[k]? = some z) : ((l.take k).map r ++ l.drop k)[k]? = some z := by
  have hk := (List.getElem?_eq_some_iff.1 hz).1
  have e1 : ((l.take k).map r).length = k := by simp; omega
  rw [List.getElem?_append_right (by omega), e1, Nat.sub_self, List.getElem?_drop, Nat.add_zero, hz]
/-- What a function value is that maps integers. -/
structure FnI (P : Program) (w : World) (B : Nat) (f : FuncId) (caps : Array Value) (r : Int → Int) : Prop where
  enter : ∀ (xs : Array Value) (W : World), (callFunc f xs).run P W = .ok (.enter f xs) W
  call : ∀ W, Below B w W → ∀ z, I6 z → Calls P f (#[.int .i64 z] ++ caps) W (fun e W' => e = .returned (.int .i64 (r z)) ∧ Below W.heap.size W W')
  wf : ∀ z, I6 z → I6 (r z)
  le : B ≤ w.heap.size
theorem FnI.next {P : Program} {w w' : World} {B : Nat} {f : FuncId} {caps : Array Value} {r : Int → Int} (h : FnI P w B f caps r) (hb : Below B w w') : FnI P w' B f caps r :=
  ⟨h.enter, fun W hW => h.call W (hb.trans hW), h.wf, Nat.le_trans h.le hb.size⟩
set_option maxRecDepth 100000 in
set_option maxHeartbeats 2000000 in
theorem mapped_int (V : Value) (l : List Int) (w : World) (B : Nat) (f : FuncId) (caps : Array Value) (r : Int → Int) (hV : Rd w .i64 V l) (hI : ∀ z ∈ l, I6 z) (hL : Fits l.length) (hF : FnI Try.prog w B f caps r) :
    Calls Try.prog 57 #[V, .func (.func f) #[] caps] w fun e w' => ∃ A, e = .returned (.slice A l.length l.length) ∧ Mine w' w.heap.size 3 1 A l.length l.length (intsN .i64 (l.map r)) ∧ Rd w' .i64 (.slice A l.length l.length) (l.map r) ∧ Below w.heap.size w w' := by
  have HV := hide hV.toN
  have HI := hide hI
  have HF := hide hF
  have HL := hide hL
  obtain ⟨_, X, c0, rfl, _, _, _⟩ := id hV.toN
  clear hV hI hL hF
  go_enter Try.func57, Try.ntmps57
  go_wp2_with (go_at_call 38; refine (copied_int _ _ (intsN .i64 l) [] _ HV.out (RdN.nil 1) (intsN_one _ _) (fun _ h => by cases h) (by rw [intsN_len]; have := HL.out; unfold Fits at this; simp; omega)).mono ?_; rintro en w1 ⟨A, n, rfl, hn, hM, hR, hB⟩; obtain rfl : n = l.length := (by rw [hn]; simp [intsN]); rw [List.append_nil] at hM hR; replace hM := hide hM; replace hR := hide hR; replace hB := hide hB; clear hn)
  have hlen : l.length ≤ 17592186044416 := HL.out
  have hst : IntMap w.heap.size w1 3 A l r 0 := fun h0 => by
    obtain ⟨c1, hown⟩ := hM.out.get h0
    obtain ⟨g, c2, e1, _⟩ := hown.form (by rw [intsN_len]; exact h0)
    rw [intsN_len] at e1
    injection e1 with e1 _ e2
    subst e1 e2
    exact ⟨g, c1, rfl, OwnN.toI (by simpa using hown)⟩
  have HS := hide hst
  clear hst
  go_loopw [12] (fun i wr => ∃ k : Nat, k ≤ l.length ∧ i = .int .i64 k ∧ Hid (IntMap w.heap.size wr 3 A l r k) ∧ Hid (Below w.heap.size w wr) ∧ Hid (Below w1.heap.size w1 wr ∨ 0 < l.length)) (fun i _ => l.length - (intOf i).toNat)
  case atStart => exact ⟨0, Nat.zero_le _, rfl, HS, hB, hide (.inl (Below.refl _ _))⟩
  case round =>
    clear HS
    obtain ⟨k, hk, rfl, hi, hb, hz⟩ := hrel
    by_cases hlt : k < l.length
    · clear hz
      obtain ⟨g, c1, rfl, hown⟩ := hi.out (by omega)
      obtain ⟨z, hz⟩ : ∃ z, l[k]? = some z := ⟨_, List.getElem?_eq_getElem hlt⟩
      have hzI := HI.out z (List.mem_of_getElem? hz)
      have hc := hown.cellAt (intMap_at (r := r) hz)
      have HO := hide hown
      have HZ := hide hz
      have HZI := hide hzI
      clear hown hz hzI hi
      have hcf := HF.out.enter
      go_wp2_with (refine (HF.out.call _ (hb.out.mono HF.out.le) z HZI.out).mono ?_; rintro en w2 ⟨rfl, hb2⟩; clear hcf; replace HO := hide (HO.out.below' hb2); have hc2 := HO.out.cellAt (intMap_at (r := r) HZ.out); have hf2 := HO.out.freeAt k; replace hb := hide (hb.out.trans (hb2.mono hb.out.size)); clear hb2 hc)
      go_roundw
      case rel => exact ⟨k + 1, by omega, by go_num, hide (fun _ => ⟨g, c1, rfl, by rw [← intMap_step HZ.out]; exact HO.out.set k (r z)⟩), hide (hb.out.setCell (HO.out.size g rfl).1 _), hide (.inr (by omega))⟩
      case measure => simp [intOf]; omega
    · have hkl : k = l.length := by omega
      have HK := hide hkl
      clear hkl
      go_wp2_with fail
      go_ret
      rw [HK.out] at hi
      have e0 : (l.take l.length).map r ++ l.drop l.length = l.map r := by simp
      rcases Nat.eq_zero_or_pos l.length with h0 | h0
      · have hl : l = [] := List.eq_nil_of_length_eq_zero h0
        subst hl
        rcases hz.out with hz | hz
        · have hR' := hR.out.below' hz
          exact ⟨A, rfl, ⟨rfl, Nat.zero_le _, .inl rfl⟩, hR'.toI (l := []), hb.out⟩
        · simp at hz
      · obtain ⟨g, c1, rfl, hown⟩ := hi.out h0
        rw [e0] at hown
        have hN := hown.toN
        refine ⟨_, rfl, ⟨by simp [intsN], by unfold maxLen; omega, .inr ⟨c1, hN⟩⟩, RdN.toI (hN.rd.cut (Nat.le_refl _) (by unfold maxLen; omega)), hb.out⟩
end Go.Proofs.Ythnehmfdadgklaa

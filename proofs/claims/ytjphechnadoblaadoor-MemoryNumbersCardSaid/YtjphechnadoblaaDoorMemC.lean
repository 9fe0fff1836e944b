/-
  Layer 17 (memory): one object more; Alloca, Release.
-/
import Derived.Test.YtjphechnadoblaaDoorMemB
namespace Go.Proofs.YtjphechnadoblaaDoor
open Go.RowKit

theorem infoObj : (Tryd.prog.info? 86).map (fun i => (i.zero, i.size, i.bytes)) = some (some (.agg #[.int .i64 0, .slice none 0 0, .bool false]), 3, 40) := by kernel_rfl
theorem sl_one (o : OD) : o.sl.oneCell' = true := by unfold OD.sl; split <;> rfl
/-- 'append' of one object, as one step of a region that draws its order. -/
theorem step_append_o {ops : Array Oper} {o : Oper} {a : Act} {w : World} {K : Act → World → Prop} {Q : Exit → Act → World → Prop} {E0 : Prop} (hgd : o.guard = none) (s x : Operand)
    (ho : o.op = .call { callee := .builtin .append, args := #[s, x], argTypes := #[70, 70] })
    (B : Nat) (OV : Value) (os : List OD) (hs : a.eval s = OV) (hown : w.ownsRow B 86 3 OV os.length (rowO os)) (ad : Nat) (ob : OD) (hx : a.eval x = .slice (some ⟨ad, 0, none⟩) 1 1)
    (hn : Whole w ad 86 #[.int .i64 ob.el, ob.sl, .bool ob.ro]) (hlen : os.length ≤ 100000) (hB : B ≤ w.heap.size)
    (hK : ∀ OV' w', w'.ownsRow B 86 3 OV' (os.length + 1) (rowO (os ++ [ob])) → w.grownBy w' OV.ownBlock → (OV'.ownBlock = OV.ownBlock ∨ OV'.ownBlock = some w.heap.size) → K (a.put o.dst OV') w') :
    if Region.wanted o (yielded ops a.tmps) = true then Oper.wp Tryd.prog o a w K Q else E0 := by
  have hw : Region.wanted o (yielded ops a.tmps) = true := by simp [Region.wanted, hgd]
  rw [if_pos hw]
  obtain ⟨i, hi, hz, hsz, hby⟩ := info_parts infoObj
  have hnews : ∀ j u, ob.cl[j]? = some u → w.cell? ((⟨ad, 0, none⟩ : Addr).add j) = some u := by
    intro j u hu
    match j, hu with
    | 0, hu => simp [OD.cl] at hu; subst hu; exact hn.cell 0
    | 1, hu => simp [OD.cl] at hu; subst hu; exact hn.cell 1
    | 2, hu => simp [OD.cl] at hu; subst hu; exact hn.cell 2
    | j + 3, hu => simp [OD.cl] at hu
  have hone : ∀ u ∈ ob.cl, u.oneCell' = true := by
    intro u hu
    simp only [OD.cl, List.mem_cons, List.not_mem_nil, or_false] at hu
    rcases hu with rfl | rfl | rfl
    · rfl
    · exact sl_one ob
    · rfl
  obtain ⟨v', w', hrun, h2, h3, _, h5⟩ := run_append_own_at (P := Tryd.prog) w B 70 o.type 86 i _ 3 40 Tryd.underlying70 hi hz hsz hby rfl (by decide) OV os.length _ hown ⟨ad, 0, none⟩ 1 1 ob.cl rfl hnews hone (by unfold maxLen; omega) (by omega) hB
  unfold Oper.wp
  simp [execOp, ho, resolve, invoke, builtin, hs, hx, hrun, Result.andThen]
  exact hK v' w' (by rw [rowO_snoc]; exact h2) h3 h5
/-- Behind the append and the store of the field. -/
theorem MemP.push {w0 w w' : World} {B x g : Nat} {sp OV OV' : Value} {gl : Int} {os : List OD} {ob : OD} (h0 : MemP w0 B x sp OV gl os) (hb : Below w0.heap.size w0 w) (hg : w0.heap.size ≤ g) (he : ob.g = g) (hW : Whole w g 46 (rowA ob.vs))
    (hown : w'.ownsRow B 86 3 OV' (os.length + 1) (rowO (os ++ [ob]))) (hgr : w.grownBy w' OV.ownBlock) (hbl : OV'.ownBlock = OV.ownBlock ∨ OV'.ownBlock = some w.heap.size) :
    MemP (w'.setCell ⟨x, 0, none⟩ OV') B x sp OV' gl (os ++ [ob]) ∧ Below B w (w'.setCell ⟨x, 0, none⟩ OV') := by
  have h := h0.below hb
  have hBs : B ≤ w0.heap.size := by have := h0.lx; have := h0.m.lt; omega
  have hxl := h0.m.lt
  have hbs := hb.size
  have hOV : ∀ k, OV.ownBlock = some k → B ≤ k ∧ k < w0.heap.size := World.ownsRow.lt h0.own
  have hne : ∀ k, k < w0.heap.size → OV.ownBlock ≠ some k → OV'.ownBlock ≠ some k := fun k hk hn e => by
    rcases hbl with e2 | e2
    · exact hn (e2 ▸ e)
    · have := Option.some.inj (e2.symm.trans e); omega
  have hax : OV'.ownBlock ≠ some x := hne x hxl h0.ax
  have hgl := hW.lt
  have hgne : OV'.ownBlock ≠ some g := fun e => by
    rcases hbl with e2 | e2
    · have := hOV g (e2 ▸ e); omega
    · have := Option.some.inj (e2.symm.trans e); omega
  have hgne0 : OV.ownBlock ≠ some g := fun e => by have := hOV g e; omega
  have hm1 : Whole w' x 72 #[OV, .int .i64 gl, sp] := h.m.grown hgr (fun e => h.ax e.symm)
  have hxb : B ≤ x := h0.lx
  refine ⟨⟨h0.lx, hm1.set 0 OV', ?_, hax, ?_, ?_⟩, ?_⟩
  · have hk := World.ownsRow.kept (row := some x) hown (only_set (only_refl w' x) 0 OV') (by
      cases hv : OV'.ownBlock with
      | none => exact .inl rfl
      | some k => exact .inr (by rw [hv] at hax; exact hax))
    rw [List.length_append, List.length_singleton]
    exact hk
  · intro i o hi hn
    rcases Nat.lt_or_ge i os.length with hl | hl
    · rw [List.getElem?_append_left hl] at hi
      obtain ⟨h1, h2, h3, h4⟩ := h0.vals i o hi hn
      have h5 := h4.lt
      exact ⟨h1, h2, hne _ h5 h3, ((h4.below' hb).grown hgr (fun e => h3 e.symm)).far (fun e => h2 e) _⟩
    · rw [List.getElem?_append_right hl] at hi
      have hi0 : o = ob := by
        rcases Nat.eq_zero_or_pos (i - os.length) with h0 | h0
        · rw [h0] at hi; simpa using hi.symm
        · rw [List.getElem?_eq_none (by simp; omega)] at hi; cases hi
      subst hi0
      rw [he]
      exact ⟨by omega, by omega, hgne, (hW.grown hgr (fun e => hgne0 e.symm)).far (fun e => by have : g = x := e; omega) _⟩
  · intro i j o p hi hj hij hn1 hn2
    have key : ∀ (i : Nat) (o : OD), (os ++ [ob])[i]? = some o → o.vs ≠ [] → (i < os.length ∧ os[i]? = some o ∧ o.g < w0.heap.size) ∨ (i = os.length ∧ o.g = g) := by
      intro i o hi hn
      rcases Nat.lt_or_ge i os.length with hl | hl
      · rw [List.getElem?_append_left hl] at hi
        exact .inl ⟨hl, hi, (h0.vals i o hi hn).2.2.2.lt⟩
      · rw [List.getElem?_append_right hl] at hi
        rcases Nat.eq_zero_or_pos (i - os.length) with h0 | h0
        · rw [h0] at hi
          have : o = ob := by simpa using hi.symm
          exact .inr ⟨by omega, by rw [this, he]⟩
        · rw [List.getElem?_eq_none (by simp; omega)] at hi; cases hi
    rcases key i o hi hn1 with ⟨a1, a2, a3⟩ | ⟨a1, a2⟩ <;> rcases key j p hj hn2 with ⟨b1, b2, b3⟩ | ⟨b1, b2⟩
    · exact h0.sep i j o p a2 b2 hij hn1 hn2
    · omega
    · omega
    · omega
  · have hb1 : Below B w w' := (Below.refl B w).grown hgr (by omega) (fun k hk => (hOV k hk).1)
    exact hb1.setCell hxb _
theorem MemP.grown {w w' : World} {B x q : Nat} {sp OV : Value} {gl : Int} {os : List OD} (h : MemP w B x sp OV gl os) (hg : w.grownBy w' (some q)) (hx : x ≠ q) (hO : OV.ownBlock ≠ some q) (hv : ∀ (i : Nat) (o : OD), os[i]? = some o → o.vs ≠ [] → o.g ≠ q) : MemP w' B x sp OV gl os :=
  ⟨h.lx, h.m.grown hg (fun e => hx (Option.some.inj e)), World.ownsRow.kept (row := some q) h.own hg (by
    cases hv : OV.ownBlock with
    | none => exact .inl rfl
    | some k => exact .inr (by rw [hv] at hO; exact hO)), h.ax, fun i o ho hn => by
      obtain ⟨h1, h2, h3, h4⟩ := h.vals i o ho hn
      exact ⟨h1, h2, h3, h4.grown hg (fun e => hv i o ho hn (Option.some.inj e))⟩, h.sep⟩
theorem row_form {w : World} {B n m : Nat} {T : TypeId} {V : Value} {xs : List Value} (h : w.ownsRow B T m V n xs) : ∃ A c, V = .slice A n c ∧ c ≤ maxLen := by
  rcases h.2 with ⟨e, e2⟩ | ⟨g, cap, cur, e, _, _, _, hm, _⟩
  · exact ⟨none, 0, by rw [e, e2], by unfold maxLen; omega⟩
  · exact ⟨_, _, e, hm⟩
/-- A block of the call's own, behind the append and the store. -/
theorem Whole.push {w0 w w' : World} {B x g : Nat} {sp OV OV' : Value} {gl : Int} {os : List OD} {T : TypeId} {cs : Array Value} (h0 : MemP w0 B x sp OV gl os) (hW : Whole w g T cs) (hg : w0.heap.size ≤ g) (hgr : w.grownBy w' OV.ownBlock) : Whole (w'.setCell ⟨x, 0, none⟩ OV') g T cs := by
  have hOV : ∀ k, OV.ownBlock = some k → B ≤ k ∧ k < w0.heap.size := World.ownsRow.lt h0.own
  have hxl := h0.m.lt
  refine (hW.grown hgr (fun e => by have := hOV g e.symm; omega)).far (fun e => ?_) _
  have : g = x := e
  omega
theorem MemP.cell0 {w w' : World} {B x : Nat} {sp OV : Value} {gl : Int} {os : List OD} (h : MemP w B x sp OV gl os) (hgr : w.grownBy w' OV.ownBlock) : w'.cell? ⟨x, 0, none⟩ = some OV ∧ w'.frozen? ⟨x, 0, none⟩ = false := by
  have hm1 : Whole w' x 72 #[OV, .int .i64 gl, sp] := h.m.grown hgr (fun e => h.ax e.symm)
  exact ⟨hm1.cell 0, hm1.free 0⟩
theorem ptrC (x n : Int) (hx : -1 ≤ x) (w : World) : Calls Tryd.prog 38 #[.int .i64 x, .int .i64 n] w fun e w' => e = .returned (.agg #[.int .i64 5, .int .i64 x, .int .i64 n, .bool false, .bool false, .int .i64 0, .bool false, .bool false, .int .i64 0, .bool false, .bool false, .int .i64 0, .bool false, .bool false]) ∧ Below w.heap.size w w' := by
  have h := pointer_any x n w
  unfold mkPointer at h
  rw [if_neg (by omega)] at h
  exact h
/-- What Alloca keeps until the new object is laid. -/
structure AlS (w W : World) (B x q pb : Nat) (OV : Value) (gl : Int) (os : List OD) : Prop where
  m : MemAt W B x OV gl os
  b : Below w.heap.size w W
  zq : Whole W q 46 #[.int .i64 0, .int .i64 0, .int .i64 0, .bool false, .bool false, .int .i64 0, .bool false, .bool false, .int .i64 0, .bool false, .bool false, .int .i64 0, .bool false, .bool false]
  pq : Whole W pb 46 #[.int .i64 5, .int .i64 (os.length : Int), .int .i64 0, .bool false, .bool false, .int .i64 0, .bool false, .bool false, .int .i64 0, .bool false, .bool false, .int .i64 0, .bool false, .bool false]
  lq : w.heap.size ≤ q
  lp : q < pb
theorem AlS.next {w W W' : World} {B x q pb : Nat} {OV : Value} {gl : Int} {os : List OD} (h : AlS w W B x q pb OV gl os) (hb : Below W.heap.size W W') : AlS w W' B x q pb OV gl os :=
  ⟨h.m.below hb, h.b.trans (hb.mono h.b.size), h.zq.below' hb, h.pq.below' hb, h.lq, h.lp⟩
theorem AlS.low {w W : World} {B x q pb : Nat} {OV : Value} {gl : Int} {os : List OD} (h : AlS w W B x q pb OV gl os) {ob : Obj} : B ≤ (W.alloc ob).heap.size := by
  have := h.m.lx; have := h.m.m.lt; rw [World.size_alloc]; omega
theorem sl_rep {t : Int} {n : Nat} (g : Nat) (hn : 1 ≤ n) : OD.sl ⟨t, false, List.replicate n (pV t), g⟩ = .slice (some ⟨g, 0, none⟩) n n := by
  unfold OD.sl
  rw [if_neg (by simp; omega)]
  simp
/-- Only the memory's own block, and the row of its list, have turned. -/
def Fr (x : Nat) (OV : Value) (w w' : World) : Prop := ∀ j, j < w.heap.size → j ≠ x → OV.ownBlock ≠ some j → w'.heap[j]? = w.heap[j]?
theorem Fr.of_below {x : Nat} {OV : Value} {w w' : World} (h : Below w.heap.size w w') : Fr x OV w w' := fun j hj _ _ => h.block j hj
theorem Fr.step {x g : Nat} {OV : Value} {w w' w2 : World} (h : Fr x OV w w') (hs : w.heap.size ≤ w'.heap.size) (hg : w'.grownBy w2 (some g)) (hO : OV.ownBlock = some g) : Fr x OV w w2 :=
  fun j hj hx ho => (hg.block j (Nat.lt_of_lt_of_le hj hs) (fun e => ho (hO.trans e.symm))).trans (h j hj hx ho)
theorem Fr.whole {x r : Nat} {OV : Value} {w w' : World} {T : TypeId} {cs : Array Value} (h : Fr x OV w w') (hW : Whole w r T cs) (hx : r ≠ x) (hO : OV.ownBlock ≠ some r) : Whole w' r T cs := (h r hW.lt hx hO).trans hW
/-- Behind the append, and the store that follows it. -/
theorem al_end {w w4 xn w6 : World} {B x q pb g n : Nat} {OV OV' : Value} {gl t : Int} {os : List OD} {cs : Array Value} {T : TypeId} (hM : MemAt w B x OV gl os) (hS : AlS w w4 B x q pb OV gl os) (hX : AlS w xn B x q pb OV gl os)
    (hG : w4.heap.size ≤ g ∧ Whole xn g 46 (rowA (List.replicate n (pV t))) ∧ Below w4.heap.size w4 xn)
    (ho : w6.ownsRow B 86 3 OV' (os.length + 1) (rowO (os ++ [⟨t, false, List.replicate n (pV t), g⟩]))) (hgr : (xn.alloc (.cells cs T)).grownBy w6 OV.ownBlock) (hbl : OV'.ownBlock = OV.ownBlock ∨ OV'.ownBlock = some (xn.alloc (.cells cs T)).heap.size) :
    ∃ A' c', OV' = .slice A' (os.length + 1) c' ∧ w6.cell? ⟨x, 0, none⟩ = some OV ∧ w6.frozen? ⟨x, 0, none⟩ = false ∧
      (MemAt (w6.setCell ⟨x, 0, none⟩ (.slice A' (os.length + 1) c')) B x (.slice A' (os.length + 1) c') gl (os ++ [⟨t, false, List.replicate n (pV t), g⟩]) ∧ Below B w (w6.setCell ⟨x, 0, none⟩ (.slice A' (os.length + 1) c')) ∧
       Whole (w6.setCell ⟨x, 0, none⟩ (.slice A' (os.length + 1) c')) q 46 #[.int .i64 0, .int .i64 0, .int .i64 0, .bool false, .bool false, .int .i64 0, .bool false, .bool false, .int .i64 0, .bool false, .bool false, .int .i64 0, .bool false, .bool false] ∧ Whole (w6.setCell ⟨x, 0, none⟩ (.slice A' (os.length + 1) c')) pb 46 #[.int .i64 5, .int .i64 (os.length : Int), .int .i64 0, .bool false, .bool false, .int .i64 0, .bool false, .bool false, .int .i64 0, .bool false, .bool false, .int .i64 0, .bool false, .bool false] ∧
       x ≠ q ∧ (Value.slice A' (os.length + 1) c').ownBlock ≠ some q ∧ (∀ (i : Nat) (o : OD), (os ++ [⟨t, false, List.replicate n (pV t), g⟩])[i]? = some o → (o.vs ≠ [] → o.g ≠ q)) ∧ Fr x OV w (w6.setCell ⟨x, 0, none⟩ (.slice A' (os.length + 1) c')) ∧ ∀ j, j < w.heap.size → OV.ownBlock ≠ some j → (Value.slice A' (os.length + 1) c').ownBlock ≠ some j) := by
  obtain ⟨A', c', rfl, _⟩ := row_form ho
  have hal : Below xn.heap.size xn (xn.alloc (.cells cs T)) := (Below.refl _ _).alloc (Nat.le_refl _) _
  obtain ⟨h1, h2⟩ := MemP.push hS.m (Below.all hG.2.2 hal) hG.1 rfl (hG.2.1.alloc _) ho hgr hbl
  obtain ⟨c0, f0⟩ := MemP.cell0 (hX.m.below hal) hgr
  have hq := Whole.push (OV' := .slice A' (os.length + 1) c') hM (hX.zq.alloc (.cells cs T)) hX.lq hgr
  have hp := Whole.push (OV' := .slice A' (os.length + 1) c') hM (hX.pq.alloc (.cells cs T)) (Nat.le_of_lt (Nat.lt_of_le_of_lt hX.lq hX.lp)) hgr
  have hxq : x ≠ q := by have := hM.m.lt; have := hX.lq; omega
  have hOV : ∀ k, OV.ownBlock = some k → B ≤ k ∧ k < w.heap.size := World.ownsRow.lt hM.own
  have hql : q < w4.heap.size := hS.zq.lt
  refine ⟨A', c', rfl, c0, f0, h1, ?_, hq, hp, hxq, ?_, ?_, ?_, ?_⟩
  · exact (hS.b.mono (by have := hM.lx; have := hM.m.lt; omega)).trans ((hG.2.2.trans (hal.mono hG.2.2.size)).mono (by have := hM.lx; have := hM.m.lt; have := hS.b.size; omega) |>.trans h2)
  · intro e
    rcases hbl with e2 | e2
    · have := hOV q (e2 ▸ e); have := hX.lq; omega
    · have e3 := Option.some.inj (e2.symm.trans e)
      rw [World.size_alloc] at e3
      have := hX.zq.lt; omega
  · intro i o hi hn
    rcases Nat.lt_or_ge i os.length with hl | hl
    · rw [List.getElem?_append_left hl] at hi
      have := (hM.vals i o hi hn).2.2.2.lt; have := hX.lq; omega
    · rw [List.getElem?_append_right hl] at hi
      rcases Nat.eq_zero_or_pos (i - os.length) with h0 | h0
      · rw [h0] at hi
        have e4 : o = ⟨t, false, List.replicate n (pV t), g⟩ := by simpa using hi.symm
        subst e4
        have := hG.1
        show g ≠ q
        omega
      · rw [List.getElem?_eq_none (by simp; omega)] at hi; cases hi
  · intro j hj hjx hjo
    have e1 := hS.b.block j hj
    have e2 := hG.2.2.block j (Nat.lt_of_lt_of_le hj hS.b.size)
    have hjn := Nat.lt_of_lt_of_le (Nat.lt_of_lt_of_le hj hS.b.size) hG.2.2.size
    have e3 := hal.block j hjn
    have e4 := hgr.block j (Nat.lt_of_lt_of_le hjn hal.size) (fun e => hjo e.symm)
    exact (Below.heap_setCell w6 _ _ j hjx).trans (e4.trans (e3.trans (e2.trans e1)))
  · intro j hj hjo e
    rcases hbl with e2 | e2
    · exact hjo (e2.symm.trans e)
    · have e3 := Option.some.inj (e2.symm.trans e)
      rw [World.size_alloc] at e3
      have := hS.b.size
      have := hG.2.2.size
      omega
set_option maxRecDepth 100000 in
set_option maxHeartbeats 8000000 in
/-- Alloca, of what may be allocated. -/
theorem alloca_ok {w : World} {B x : Nat} {OV : Value} {gl : Int} {os : List OD} (h : MemAt w B x OV gl os) (t : Int) (ht : 2 ≤ t ∧ t ≤ 5) (n : Nat) (hn : 1 ≤ n ∧ n ≤ 256) (hg0 : 0 ≤ gl) (hg1 : gl ≤ os.length) (hl : (os.length : Int) - gl < 400) (hos : os.length ≤ 1000) :
    Calls Tryd.prog 18 #[.pointer (some ⟨x, 0, none⟩), .int .i64 t, .int .i64 (n : Int)] w fun e w' => e = .returned (.tuple #[.agg #[.int .i64 5, .int .i64 (os.length : Int), .int .i64 0, .bool false, .bool false, .int .i64 0, .bool false, .bool false, .int .i64 0, .bool false, .bool false, .int .i64 0, .bool false, .bool false], .bool true]) ∧
      ∃ g OV', MemAt w' B x OV' gl (os ++ [⟨t, false, List.replicate n (pV t), g⟩]) ∧ Below B w w' ∧ Fr x OV w w' ∧ ∀ j, j < w.heap.size → OV.ownBlock ≠ some j → OV'.ownBlock ≠ some j := by
  have HV : Hid (∀ W, MemAt W B x OV gl os → _) := hide (fun W h => mvalid_any h)
  have HK : Hid (∀ W, MemAt W B x OV gl os → _) := hide (fun W h => mark_any h)
  obtain ⟨A, c, hOV, hc⟩ := h.form
  have HM := hide h
  have hcell : (accN t != 1) = false := by unfold accN; rw [if_pos (by omega)]; rfl
  obtain ⟨an, han⟩ : ∃ a, accN t = a := ⟨_, rfl⟩
  have hac := acc_any t
  rw [han] at hcell hac
  have HAC := hide hac
  have s1 : decide ((n : Int) < 1) = false := by simp; omega
  have s2 : decide ((256 : Int) < (n : Int)) = false := by simp; omega
  have s3 : decide (256 < n) = false := by simp; omega
  have s4 : decide ((400 : Int) ≤ (os.length : Int) - gl) = false := by simp; omega
  have s5 : decide (n < 1) = false := by simp; omega
  obtain ⟨q, hq⟩ : ∃ x, w.heap.size = x := ⟨_, rfl⟩
  obtain ⟨w1, hw1⟩ : ∃ x, w.alloc (.cells #[.int .i64 0, .int .i64 0, .int .i64 0, .bool false, .bool false, .int .i64 0, .bool false, .bool false, .int .i64 0, .bool false, .bool false, .int .i64 0, .bool false, .bool false] 46) = x := ⟨_, rfl⟩
  have hb1 : Below w.heap.size w w1 := by rw [← hw1]; exact (Below.refl _ _).alloc (Nat.le_refl _) _
  have HQ1 : Hid (Whole w1 q 46 #[.int .i64 0, .int .i64 0, .int .i64 0, .bool false, .bool false, .int .i64 0, .bool false, .bool false, .int .i64 0, .bool false, .bool false, .int .i64 0, .bool false, .bool false]) := hide (by rw [← hw1, ← hq]; exact Whole.new _ _ _)
  have HM1 := hide (h.below hb1)
  have HB1 := hide hb1
  have c1 := HM1.out.m.cell 1
  have HPC := hide (fun W => poisoncells_any t ht n hn W)
  have HH := hide (And.intro hos (And.intro hg0 hg1))
  have HN := hide hn
  clear han hac h ht hn hb1
  go_enter Tryd.func18, Tryd.ntmps18
  go_upto_region 1 with fail
  have HQ := hide hq
  clear hw1 hq
  go_wp2_with fail
  refine (HAC.out _).mono ?_
  rintro en wn ⟨rfl, rfl⟩
  go_wp2_with fail
  go_quiet (first | (go_at_call 37; exact Calls.quiet_of_same ((HV.out _ (HM1.out.below (Below.drewN' (Below.refl _ _) _))).mono fun _ _ ⟨e1, e2⟩ => ⟨e1, e2.symm⟩)) | (go_at_call 21; exact Calls.quiet_of_same ((HK.out _ (HM1.out.below (Below.drewN' (Below.refl _ _) _))).mono fun _ _ ⟨e1, e2⟩ => ⟨e1, e2.symm⟩)))
  go_wp2_with fail
  refine (HK.out _ (HM1.out.below (Below.drewN' (Below.refl _ _) _))).mono ?_
  rintro en w2 ⟨rfl, rfl⟩
  go_wp2_with fail
  refine (ptrC (os.length : Int) 0 (by omega) _).mono ?_
  rintro en w3 ⟨rfl, hb3⟩
  have HB3 := hide hb3
  clear hb3 c1 s1 s2 s3 s4 s5 hcell
  go_upto_region 5 with fail
  obtain ⟨pb, hpb⟩ : ∃ x, w3.heap.size = x := ⟨_, rfl⟩
  obtain ⟨w4, hw4⟩ : ∃ x, w3.alloc (.cells #[.int .i64 5, .int .i64 (os.length : Int), .int .i64 0, .bool false, .bool false, .int .i64 0, .bool false, .bool false, .int .i64 0, .bool false, .bool false, .int .i64 0, .bool false, .bool false] 46) = x := ⟨_, rfl⟩
  have hb4 : Below w3.heap.size w3 w4 := by rw [← hw4]; exact (Below.refl _ _).alloc (Nat.le_refl _) _
  have h13 : Below w1.heap.size w1 w3 := Below.all (Below.drewN' (Below.refl _ _) _) HB3.out
  have HS : Hid (AlS w w4 B x q pb OV gl os) := hide (by
    have h14 := Below.all h13 hb4
    refine ⟨HM1.out.below h14, Below.all HB1.out h14, HQ1.out.below' h14, by rw [← hw4, ← hpb]; exact Whole.new _ _ _, by rw [← HQ.out]; exact Nat.le_refl _, ?_⟩
    rw [← hpb]
    exact Nat.lt_of_lt_of_le HQ1.out.lt h13.size)
  simp only [hw4, hpb]
  clear hw4 hpb hb4 h13
  subst hOV
  have c0 : w4.cell? ⟨x, 0, none⟩ = some (.slice A os.length c) := HS.out.m.m.cell 0
  go_region_law (first | (refine step_append_o rfl (.tmp 49) (.tmp 54) rfl B _ os (by simp [Act.eval]) (HX.out.m.below ((Below.refl _ _).alloc (Nat.le_refl _) _)).own xn.heap.size ⟨t, false, List.replicate n (pV t), g⟩ (by simp [Act.eval]) (by rw [sl_rep g HN.out.1]; exact Whole.new _ _ _) (by have := HH.out.1; omega) (HX.out.low) ?_; intro OV' w6 ho hgr hbl; have he := al_end HM.out HS.out HX.out HG.out ho hgr hbl; obtain ⟨A', c', rfl, c0', f0', hE⟩ := he; have HE := hide hE; clear ho hgr hbl hE) | (go_simp; go_at_call 39; refine (HPC.out _).mono ?_; rintro en xn ⟨g, rfl, hg, hW, hb⟩; have hb' : Below w4.heap.size w4 xn := ⟨hb.os, hb.tape, hb.output, hb.size, hb.block⟩; have c0x : xn.cell? ⟨x, 0, none⟩ = some (.slice A os.length c) := (HS.out.next hb').m.m.cell 0; have hxl : x < xn.heap.size := (HS.out.next hb').m.m.lt; have HX := hide (HS.out.next hb'); have HG := hide (And.intro (show w4.heap.size ≤ g from hg) (And.intro hW hb')); clear hb hb' hg hW))
  all_goals
    obtain ⟨h1, h2, hq6, hp6, e1, e2, e3, e4, e5⟩ := HE.out
    obtain ⟨W6, hW6⟩ : ∃ X, w6.setCell ⟨x, 0, none⟩ (.slice A' (os.length + 1) c') = X := ⟨_, rfl⟩
    rw [hW6] at h1 h2 hq6 hp6 e4
    simp only [hW6]
    have H1 := hide (And.intro h1 (And.intro h2 (And.intro e1 (And.intro e2 (And.intro e3 (And.intro e4 e5))))))
    have HQ6 := hide hq6
    have p0 : W6.cell? ⟨pb, 0, none⟩ = some (.int .i64 5) := hp6.cell 0
    have p1 : W6.cell? ⟨pb, 1, none⟩ = some (.int .i64 (os.length : Int)) := hp6.cell 1
    have p2 : W6.cell? ⟨pb, 2, none⟩ = some (.int .i64 0) := hp6.cell 2
    have p3 : W6.cell? ⟨pb, 3, none⟩ = some (.bool false) := hp6.cell 3
    have p4 : W6.cell? ⟨pb, 4, none⟩ = some (.bool false) := hp6.cell 4
    have p5 : W6.cell? ⟨pb, 5, none⟩ = some (.int .i64 0) := hp6.cell 5
    have p6 : W6.cell? ⟨pb, 6, none⟩ = some (.bool false) := hp6.cell 6
    have p7 : W6.cell? ⟨pb, 7, none⟩ = some (.bool false) := hp6.cell 7
    have p8 : W6.cell? ⟨pb, 8, none⟩ = some (.int .i64 0) := hp6.cell 8
    have p9 : W6.cell? ⟨pb, 9, none⟩ = some (.bool false) := hp6.cell 9
    have p10 : W6.cell? ⟨pb, 10, none⟩ = some (.bool false) := hp6.cell 10
    have p11 : W6.cell? ⟨pb, 11, none⟩ = some (.int .i64 0) := hp6.cell 11
    have p12 : W6.cell? ⟨pb, 12, none⟩ = some (.bool false) := hp6.cell 12
    have p13 : W6.cell? ⟨pb, 13, none⟩ = some (.bool false) := hp6.cell 13
    have z0 : W6.cell? ⟨q, 0, none⟩ = some (.int .i64 0) := hq6.cell 0
    have z1 : W6.cell? ⟨q, 1, none⟩ = some (.int .i64 0) := hq6.cell 1
    have z2 : W6.cell? ⟨q, 2, none⟩ = some (.int .i64 0) := hq6.cell 2
    have z3 : W6.cell? ⟨q, 3, none⟩ = some (.bool false) := hq6.cell 3
    have z4 : W6.cell? ⟨q, 4, none⟩ = some (.bool false) := hq6.cell 4
    have z5 : W6.cell? ⟨q, 5, none⟩ = some (.int .i64 0) := hq6.cell 5
    have z6 : W6.cell? ⟨q, 6, none⟩ = some (.bool false) := hq6.cell 6
    have z7 : W6.cell? ⟨q, 7, none⟩ = some (.bool false) := hq6.cell 7
    have z8 : W6.cell? ⟨q, 8, none⟩ = some (.int .i64 0) := hq6.cell 8
    have z9 : W6.cell? ⟨q, 9, none⟩ = some (.bool false) := hq6.cell 9
    have z10 : W6.cell? ⟨q, 10, none⟩ = some (.bool false) := hq6.cell 10
    have z11 : W6.cell? ⟨q, 11, none⟩ = some (.int .i64 0) := hq6.cell 11
    have z12 : W6.cell? ⟨q, 12, none⟩ = some (.bool false) := hq6.cell 12
    have z13 : W6.cell? ⟨q, 13, none⟩ = some (.bool false) := hq6.cell 13
    have hfr := hq6.free
    clear h1 h2 hq6 hp6 e1 e2 e3 e4 e5 hW6 HE HS HX HG c0 c0x c0' f0'
    go_wp2_with fail
    have hR : Whole (((((((((((((((W6.setCell ⟨q, 0, none⟩ (.int .i64 5)).setCell ⟨q, 1, none⟩ (.int .i64 (os.length : Int))).setCell ⟨q, 2, none⟩ (.int .i64 0)).setCell ⟨q, 3, none⟩ (.bool false)).setCell ⟨q, 4, none⟩ (.bool false)).setCell ⟨q, 5, none⟩ (.int .i64 0)).setCell ⟨q, 6, none⟩ (.bool false)).setCell ⟨q, 7, none⟩ (.bool false)).setCell ⟨q, 8, none⟩ (.int .i64 0)).setCell ⟨q, 9, none⟩ (.bool false)).setCell ⟨q, 10, none⟩ (.bool false)).setCell ⟨q, 11, none⟩ (.int .i64 0)).setCell ⟨q, 12, none⟩ (.bool false)).setCell ⟨q, 13, none⟩ (.bool false))) q 46 #[.int .i64 5, .int .i64 (os.length : Int), .int .i64 0, .bool false, .bool false, .int .i64 0, .bool false, .bool false, .int .i64 0, .bool false, .bool false, .int .i64 0, .bool false, .bool false] := Whole.setW (l := [.int .i64 0, .int .i64 0, .int .i64 0, .bool false, .bool false, .int .i64 0, .bool false, .bool false, .int .i64 0, .bool false, .bool false, .int .i64 0, .bool false, .bool false]) [.int .i64 5, .int .i64 (os.length : Int), .int .i64 0, .bool false, .bool false, .int .i64 0, .bool false, .bool false, .int .i64 0, .bool false, .bool false, .int .i64 0, .bool false, .bool false] 0 HQ6.out
    have hG := only_setW (g := q) [.int .i64 5, .int .i64 (os.length : Int), .int .i64 0, .bool false, .bool false, .int .i64 0, .bool false, .bool false, .int .i64 0, .bool false, .bool false, .int .i64 0, .bool false, .bool false] 0 (only_refl W6 q)
    have k0 : ((((((((((((((W6.setCell ⟨q, 0, none⟩ (.int .i64 5)).setCell ⟨q, 1, none⟩ (.int .i64 (os.length : Int))).setCell ⟨q, 2, none⟩ (.int .i64 0)).setCell ⟨q, 3, none⟩ (.bool false)).setCell ⟨q, 4, none⟩ (.bool false)).setCell ⟨q, 5, none⟩ (.int .i64 0)).setCell ⟨q, 6, none⟩ (.bool false)).setCell ⟨q, 7, none⟩ (.bool false)).setCell ⟨q, 8, none⟩ (.int .i64 0)).setCell ⟨q, 9, none⟩ (.bool false)).setCell ⟨q, 10, none⟩ (.bool false)).setCell ⟨q, 11, none⟩ (.int .i64 0)).setCell ⟨q, 12, none⟩ (.bool false)).setCell ⟨q, 13, none⟩ (.bool false)).cell? ⟨q, 0, none⟩ = some (.int .i64 5) := hR.cell 0
    have k1 : ((((((((((((((W6.setCell ⟨q, 0, none⟩ (.int .i64 5)).setCell ⟨q, 1, none⟩ (.int .i64 (os.length : Int))).setCell ⟨q, 2, none⟩ (.int .i64 0)).setCell ⟨q, 3, none⟩ (.bool false)).setCell ⟨q, 4, none⟩ (.bool false)).setCell ⟨q, 5, none⟩ (.int .i64 0)).setCell ⟨q, 6, none⟩ (.bool false)).setCell ⟨q, 7, none⟩ (.bool false)).setCell ⟨q, 8, none⟩ (.int .i64 0)).setCell ⟨q, 9, none⟩ (.bool false)).setCell ⟨q, 10, none⟩ (.bool false)).setCell ⟨q, 11, none⟩ (.int .i64 0)).setCell ⟨q, 12, none⟩ (.bool false)).setCell ⟨q, 13, none⟩ (.bool false)).cell? ⟨q, 1, none⟩ = some (.int .i64 (os.length : Int)) := hR.cell 1
    have k2 : ((((((((((((((W6.setCell ⟨q, 0, none⟩ (.int .i64 5)).setCell ⟨q, 1, none⟩ (.int .i64 (os.length : Int))).setCell ⟨q, 2, none⟩ (.int .i64 0)).setCell ⟨q, 3, none⟩ (.bool false)).setCell ⟨q, 4, none⟩ (.bool false)).setCell ⟨q, 5, none⟩ (.int .i64 0)).setCell ⟨q, 6, none⟩ (.bool false)).setCell ⟨q, 7, none⟩ (.bool false)).setCell ⟨q, 8, none⟩ (.int .i64 0)).setCell ⟨q, 9, none⟩ (.bool false)).setCell ⟨q, 10, none⟩ (.bool false)).setCell ⟨q, 11, none⟩ (.int .i64 0)).setCell ⟨q, 12, none⟩ (.bool false)).setCell ⟨q, 13, none⟩ (.bool false)).cell? ⟨q, 2, none⟩ = some (.int .i64 0) := hR.cell 2
    have k3 : ((((((((((((((W6.setCell ⟨q, 0, none⟩ (.int .i64 5)).setCell ⟨q, 1, none⟩ (.int .i64 (os.length : Int))).setCell ⟨q, 2, none⟩ (.int .i64 0)).setCell ⟨q, 3, none⟩ (.bool false)).setCell ⟨q, 4, none⟩ (.bool false)).setCell ⟨q, 5, none⟩ (.int .i64 0)).setCell ⟨q, 6, none⟩ (.bool false)).setCell ⟨q, 7, none⟩ (.bool false)).setCell ⟨q, 8, none⟩ (.int .i64 0)).setCell ⟨q, 9, none⟩ (.bool false)).setCell ⟨q, 10, none⟩ (.bool false)).setCell ⟨q, 11, none⟩ (.int .i64 0)).setCell ⟨q, 12, none⟩ (.bool false)).setCell ⟨q, 13, none⟩ (.bool false)).cell? ⟨q, 3, none⟩ = some (.bool false) := hR.cell 3
    have k4 : ((((((((((((((W6.setCell ⟨q, 0, none⟩ (.int .i64 5)).setCell ⟨q, 1, none⟩ (.int .i64 (os.length : Int))).setCell ⟨q, 2, none⟩ (.int .i64 0)).setCell ⟨q, 3, none⟩ (.bool false)).setCell ⟨q, 4, none⟩ (.bool false)).setCell ⟨q, 5, none⟩ (.int .i64 0)).setCell ⟨q, 6, none⟩ (.bool false)).setCell ⟨q, 7, none⟩ (.bool false)).setCell ⟨q, 8, none⟩ (.int .i64 0)).setCell ⟨q, 9, none⟩ (.bool false)).setCell ⟨q, 10, none⟩ (.bool false)).setCell ⟨q, 11, none⟩ (.int .i64 0)).setCell ⟨q, 12, none⟩ (.bool false)).setCell ⟨q, 13, none⟩ (.bool false)).cell? ⟨q, 4, none⟩ = some (.bool false) := hR.cell 4
    have k5 : ((((((((((((((W6.setCell ⟨q, 0, none⟩ (.int .i64 5)).setCell ⟨q, 1, none⟩ (.int .i64 (os.length : Int))).setCell ⟨q, 2, none⟩ (.int .i64 0)).setCell ⟨q, 3, none⟩ (.bool false)).setCell ⟨q, 4, none⟩ (.bool false)).setCell ⟨q, 5, none⟩ (.int .i64 0)).setCell ⟨q, 6, none⟩ (.bool false)).setCell ⟨q, 7, none⟩ (.bool false)).setCell ⟨q, 8, none⟩ (.int .i64 0)).setCell ⟨q, 9, none⟩ (.bool false)).setCell ⟨q, 10, none⟩ (.bool false)).setCell ⟨q, 11, none⟩ (.int .i64 0)).setCell ⟨q, 12, none⟩ (.bool false)).setCell ⟨q, 13, none⟩ (.bool false)).cell? ⟨q, 5, none⟩ = some (.int .i64 0) := hR.cell 5
    have k6 : ((((((((((((((W6.setCell ⟨q, 0, none⟩ (.int .i64 5)).setCell ⟨q, 1, none⟩ (.int .i64 (os.length : Int))).setCell ⟨q, 2, none⟩ (.int .i64 0)).setCell ⟨q, 3, none⟩ (.bool false)).setCell ⟨q, 4, none⟩ (.bool false)).setCell ⟨q, 5, none⟩ (.int .i64 0)).setCell ⟨q, 6, none⟩ (.bool false)).setCell ⟨q, 7, none⟩ (.bool false)).setCell ⟨q, 8, none⟩ (.int .i64 0)).setCell ⟨q, 9, none⟩ (.bool false)).setCell ⟨q, 10, none⟩ (.bool false)).setCell ⟨q, 11, none⟩ (.int .i64 0)).setCell ⟨q, 12, none⟩ (.bool false)).setCell ⟨q, 13, none⟩ (.bool false)).cell? ⟨q, 6, none⟩ = some (.bool false) := hR.cell 6
    have k7 : ((((((((((((((W6.setCell ⟨q, 0, none⟩ (.int .i64 5)).setCell ⟨q, 1, none⟩ (.int .i64 (os.length : Int))).setCell ⟨q, 2, none⟩ (.int .i64 0)).setCell ⟨q, 3, none⟩ (.bool false)).setCell ⟨q, 4, none⟩ (.bool false)).setCell ⟨q, 5, none⟩ (.int .i64 0)).setCell ⟨q, 6, none⟩ (.bool false)).setCell ⟨q, 7, none⟩ (.bool false)).setCell ⟨q, 8, none⟩ (.int .i64 0)).setCell ⟨q, 9, none⟩ (.bool false)).setCell ⟨q, 10, none⟩ (.bool false)).setCell ⟨q, 11, none⟩ (.int .i64 0)).setCell ⟨q, 12, none⟩ (.bool false)).setCell ⟨q, 13, none⟩ (.bool false)).cell? ⟨q, 7, none⟩ = some (.bool false) := hR.cell 7
    have k8 : ((((((((((((((W6.setCell ⟨q, 0, none⟩ (.int .i64 5)).setCell ⟨q, 1, none⟩ (.int .i64 (os.length : Int))).setCell ⟨q, 2, none⟩ (.int .i64 0)).setCell ⟨q, 3, none⟩ (.bool false)).setCell ⟨q, 4, none⟩ (.bool false)).setCell ⟨q, 5, none⟩ (.int .i64 0)).setCell ⟨q, 6, none⟩ (.bool false)).setCell ⟨q, 7, none⟩ (.bool false)).setCell ⟨q, 8, none⟩ (.int .i64 0)).setCell ⟨q, 9, none⟩ (.bool false)).setCell ⟨q, 10, none⟩ (.bool false)).setCell ⟨q, 11, none⟩ (.int .i64 0)).setCell ⟨q, 12, none⟩ (.bool false)).setCell ⟨q, 13, none⟩ (.bool false)).cell? ⟨q, 8, none⟩ = some (.int .i64 0) := hR.cell 8
    have k9 : ((((((((((((((W6.setCell ⟨q, 0, none⟩ (.int .i64 5)).setCell ⟨q, 1, none⟩ (.int .i64 (os.length : Int))).setCell ⟨q, 2, none⟩ (.int .i64 0)).setCell ⟨q, 3, none⟩ (.bool false)).setCell ⟨q, 4, none⟩ (.bool false)).setCell ⟨q, 5, none⟩ (.int .i64 0)).setCell ⟨q, 6, none⟩ (.bool false)).setCell ⟨q, 7, none⟩ (.bool false)).setCell ⟨q, 8, none⟩ (.int .i64 0)).setCell ⟨q, 9, none⟩ (.bool false)).setCell ⟨q, 10, none⟩ (.bool false)).setCell ⟨q, 11, none⟩ (.int .i64 0)).setCell ⟨q, 12, none⟩ (.bool false)).setCell ⟨q, 13, none⟩ (.bool false)).cell? ⟨q, 9, none⟩ = some (.bool false) := hR.cell 9
    have k10 : ((((((((((((((W6.setCell ⟨q, 0, none⟩ (.int .i64 5)).setCell ⟨q, 1, none⟩ (.int .i64 (os.length : Int))).setCell ⟨q, 2, none⟩ (.int .i64 0)).setCell ⟨q, 3, none⟩ (.bool false)).setCell ⟨q, 4, none⟩ (.bool false)).setCell ⟨q, 5, none⟩ (.int .i64 0)).setCell ⟨q, 6, none⟩ (.bool false)).setCell ⟨q, 7, none⟩ (.bool false)).setCell ⟨q, 8, none⟩ (.int .i64 0)).setCell ⟨q, 9, none⟩ (.bool false)).setCell ⟨q, 10, none⟩ (.bool false)).setCell ⟨q, 11, none⟩ (.int .i64 0)).setCell ⟨q, 12, none⟩ (.bool false)).setCell ⟨q, 13, none⟩ (.bool false)).cell? ⟨q, 10, none⟩ = some (.bool false) := hR.cell 10
    have k11 : ((((((((((((((W6.setCell ⟨q, 0, none⟩ (.int .i64 5)).setCell ⟨q, 1, none⟩ (.int .i64 (os.length : Int))).setCell ⟨q, 2, none⟩ (.int .i64 0)).setCell ⟨q, 3, none⟩ (.bool false)).setCell ⟨q, 4, none⟩ (.bool false)).setCell ⟨q, 5, none⟩ (.int .i64 0)).setCell ⟨q, 6, none⟩ (.bool false)).setCell ⟨q, 7, none⟩ (.bool false)).setCell ⟨q, 8, none⟩ (.int .i64 0)).setCell ⟨q, 9, none⟩ (.bool false)).setCell ⟨q, 10, none⟩ (.bool false)).setCell ⟨q, 11, none⟩ (.int .i64 0)).setCell ⟨q, 12, none⟩ (.bool false)).setCell ⟨q, 13, none⟩ (.bool false)).cell? ⟨q, 11, none⟩ = some (.int .i64 0) := hR.cell 11
    have k12 : ((((((((((((((W6.setCell ⟨q, 0, none⟩ (.int .i64 5)).setCell ⟨q, 1, none⟩ (.int .i64 (os.length : Int))).setCell ⟨q, 2, none⟩ (.int .i64 0)).setCell ⟨q, 3, none⟩ (.bool false)).setCell ⟨q, 4, none⟩ (.bool false)).setCell ⟨q, 5, none⟩ (.int .i64 0)).setCell ⟨q, 6, none⟩ (.bool false)).setCell ⟨q, 7, none⟩ (.bool false)).setCell ⟨q, 8, none⟩ (.int .i64 0)).setCell ⟨q, 9, none⟩ (.bool false)).setCell ⟨q, 10, none⟩ (.bool false)).setCell ⟨q, 11, none⟩ (.int .i64 0)).setCell ⟨q, 12, none⟩ (.bool false)).setCell ⟨q, 13, none⟩ (.bool false)).cell? ⟨q, 12, none⟩ = some (.bool false) := hR.cell 12
    have k13 : ((((((((((((((W6.setCell ⟨q, 0, none⟩ (.int .i64 5)).setCell ⟨q, 1, none⟩ (.int .i64 (os.length : Int))).setCell ⟨q, 2, none⟩ (.int .i64 0)).setCell ⟨q, 3, none⟩ (.bool false)).setCell ⟨q, 4, none⟩ (.bool false)).setCell ⟨q, 5, none⟩ (.int .i64 0)).setCell ⟨q, 6, none⟩ (.bool false)).setCell ⟨q, 7, none⟩ (.bool false)).setCell ⟨q, 8, none⟩ (.int .i64 0)).setCell ⟨q, 9, none⟩ (.bool false)).setCell ⟨q, 10, none⟩ (.bool false)).setCell ⟨q, 11, none⟩ (.int .i64 0)).setCell ⟨q, 12, none⟩ (.bool false)).setCell ⟨q, 13, none⟩ (.bool false)).cell? ⟨q, 13, none⟩ = some (.bool false) := hR.cell 13
    refine bodyPost_ret (v := .tuple #[.agg #[.int .i64 5, .int .i64 (os.length : Int), .int .i64 0, .bool false, .bool false, .int .i64 0, .bool false, .bool false, .int .i64 0, .bool false, .bool false, .int .i64 0, .bool false, .bool false], .bool true]) ?_ rfl ⟨rfl, g, _, MemP.grown H1.out.1 hG H1.out.2.2.1 H1.out.2.2.2.1 H1.out.2.2.2.2.1, H1.out.2.1.grown hG (by have := H1.out.1.lx; have := H1.out.1.m.lt; omega) (fun k hk => by have := Option.some.inj hk; subst this; rw [← HQ.out]; have := HM.out.lx; have := HM.out.m.lt; omega), fun j hj hx hO => (hG.block j (Nat.lt_of_lt_of_le hj H1.out.2.1.size) (fun e => by have := Option.some.inj e; have := HQ.out; omega)).trans (H1.out.2.2.2.2.2.1 j hj hx hO), H1.out.2.2.2.2.2.2⟩
    simp [results, Tryd.f18, go_sem, k0, k1, k2, k3, k4, k5, k6, k7, k8, k9, k10, k11, k12, k13]
end Go.Proofs.YtjphechnadoblaaDoor

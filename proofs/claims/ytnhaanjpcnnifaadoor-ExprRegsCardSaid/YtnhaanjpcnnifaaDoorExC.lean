/-
  Layer 23 (expr): what Check does for one node.
-/
import Derived.Test.YtnhaanjpcnnifaaDoorExB
namespace Go.Proofs.YtnhaanjpcnnifaaDoor
open Go.RowKit Go.Deep

theorem Own.front {w : World} {base : Nat} {e : TypeId} {k : IntKind} {A : Option Addr} {n c m : Nat} {l : List Int} (h : Own w base e k (.slice A n c) l) (hm : m ≤ n) : Own w base e k (.slice A m c) (l.take m) := by
  obtain ⟨h0, h1⟩ := h
  have hl : l.length = n := by
    rcases h1 with ⟨e1, e2⟩ | ⟨g, cap, cur, e1, _⟩
    · injection e1 with _ e1 _
      rw [e2, e1]
    · injection e1 with _ e1 _
      exact e1.symm
  have hlt : (l.take m).length = m := by rw [List.length_take]; omega
  refine ⟨by simp, ?_⟩
  rw [hlt]
  rcases h1 with ⟨e1, e2⟩ | ⟨g, cap, cur, e1, hb, hh, hc, hx, hs, ht⟩
  · injection e1 with e1 e3 e4
    have : m = 0 := by omega
    subst e1 e4 this
    exact .inl ⟨rfl, rfl⟩
  · injection e1 with e1 e3 e4
    subst e1 e4
    refine .inr ⟨g, c, cur, rfl, hb, hh, by omega, hx, hs, ?_⟩
    rw [List.map_take, ← ht, List.take_take]
    congr 1
    omega
/-- The stack of types behind its box. -/
def StkAt (w : World) (bS base : Nat) (st : List Int) : Prop := ∃ A c, Whole w bS 25 #[.slice A st.length c] ∧ Own w base 24 .i64 (.slice A st.length c) st ∧ bS < base ∧ base ≤ w.heap.size
theorem StkAt.below {w w' : World} {bS base : Nat} {st : List Int} (h : StkAt w bS base st) (hb : Below w.heap.size w w') : StkAt w' bS base st := by
  obtain ⟨A, c, h1, h2, h3, h4⟩ := h
  exact ⟨A, c, h1.below' hb, h2.below' hb, h3, Nat.le_trans h4 hb.size⟩
/-- A type is put onto the stack, above its first m. -/
theorem stk_put {w w' : World} {bS base m c : Nat} {A : Option Addr} {st : List Int} {v' : Value} {t : Int} (hw : Whole w bS 25 #[.slice A st.length c]) (ho : Own w base 24 .i64 (.slice A st.length c) st) (hbs : bS < base) (hbb : base ≤ w.heap.size)
    (hg : (w.alloc (.cells #[.int .i64 t] 24)).grownBy w' (Value.slice A m c).ownBlock) (ho' : Own w' base 24 .i64 v' (st.take m ++ [t])) :
    w'.cell? ⟨bS, 0, none⟩ = some (.slice A st.length c) ∧ w'.frozen? ⟨bS, 0, none⟩ = false ∧ StkAt (w'.setCell ⟨bS, 0, none⟩ v') bS base (st.take m ++ [t]) ∧ Below bS w (w'.setCell ⟨bS, 0, none⟩ v') := by
  have f1 : Frm w w' (Value.slice A m c).ownBlock.toList := ((Frm.refl w _).alloc _).trans (Frm.grown hg)
  have e0 : (Value.slice A m c).ownBlock = (Value.slice A st.length c).ownBlock := by cases A <;> rfl
  have hnb : bS ∉ (Value.slice A m c).ownBlock.toList := fun h => by rw [e0] at h; have := (ho.size bS (by simpa using h)).1; omega
  have hw' := hw.frm f1 hnb
  have hset : Frm w' (w'.setCell ⟨bS, 0, none⟩ v') [bS] := (Frm.refl w' [bS]).setCell _ _ (.inl (by simp))
  obtain ⟨A', c', e', -⟩ := id ho'.rd
  refine ⟨hw'.cell 0, hw'.free 0, ⟨A', c', ?_, ?_, hbs, by have := f1.size; have := hset.size; omega⟩, ?_⟩
  · rw [← e']
    exact hw'.set 0 v'
  · rw [← e']
    exact ho'.frm9 hset (fun g hg hm => by have := (ho'.size g hg).1; rw [List.mem_singleton] at hm; omega)
  · refine (f1.toBelow (B := bS) (fun g hg => ?_) (by omega)).trans (hset.toBelow (fun g hg => by rw [List.mem_singleton.1 hg]; exact Nat.le_refl _) (by have := f1.size; omega))
    rw [e0] at hg
    have := (ho.size g (by simpa using hg)).1
    omega
theorem fld_copy {ty n : Int} {rn gn : Nat} (h : fldE 4 ty n rn gn = 0) : 0 ≤ n ∧ n < rn := by
  unfold fldE at h
  split at h
  · omega
  · split at h
    · omega
    · rename_i h2
      by_cases h3 : 0 ≤ n ∧ n < (rn : Int)
      · exact h3
      · exact absurd (.inl ⟨rfl, h3⟩) h2
theorem fld_call {op ty n : Int} {rn gn : Nat} (h : fldE op ty n rn gn = 0) : ¬ op = 30 := by
  rintro rfl
  have : fldE 30 ty n rn gn = 9 := by
    unfold fldE
    rw [if_pos ⟨by omega, by decide⟩]
  omega
set_option maxRecDepth 100000 in
set_option maxHeartbeats 8000000 in
theorem eval_any (op ty n : Int) (st rl : List Int) (bS bF bM base : Nat) (v0 v1 v2 v4 : Value) (RA GA FA : Option Addr) (rc gn gc fc : Nat) (fs : List FD) (w : World) (hT : Tab w) (hO : OpTab w)
    (hS : StkAt w bS base st) (hst : st.length ≤ 1000) (hF : Whole w bF 28 #[v0, v1, v2, .slice RA rl.length rc, v4]) (hM : Whole w bM 32 #[.slice GA gn gc, .slice FA fs.length fc]) (hrl : Rd w .i64 (.slice RA rl.length rc) rl) (hfs : FnsAt w FA fs) (hfld : fldE op ty n rl.length gn = 0) :
    Calls Tryd.prog 24 #[.agg #[.int .i64 op, .int .i64 ty, .int .i64 n], .pointer (some ⟨bS, 0, none⟩), .pointer (some ⟨bF, 0, none⟩), .pointer (some ⟨bM, 0, none⟩)] w fun e w' =>
      e = .returned (.int .i64 (errE rl gn fs.length ⟨op, ty, n⟩ st)) ∧ (errE rl gn fs.length ⟨op, ty, n⟩ st = 0 → StkAt w' bS base (nextE rl ⟨op, ty, n⟩ st)) ∧ Below bS w w' := by
  obtain ⟨cnt, hcnt⟩ : ∃ k, cntE op ty = k := ⟨_, rfl⟩
  have hc4 : cnt ≤ 4 := by rw [← hcnt]; exact cntE_le op ty
  have herr : errE rl gn fs.length ⟨op, ty, n⟩ st = if st.length < cnt then 4 else if op = 4 then 0 else tyE ⟨op, ty, n⟩ (st.drop (st.length - cnt)) gn fs.length := by
    unfold errE
    simp only [hfld, hcnt]
    rw [if_neg (by simp)]
  have hnext : nextE rl ⟨op, ty, n⟩ st = st.take (st.length - cnt) ++ [if op = 4 then rl.getD n.toNat 0 else ty] := by
    unfold nextE resE
    simp only [hcnt]
  obtain ⟨ER, hER⟩ : ∃ z, errE rl gn fs.length ⟨op, ty, n⟩ st = z := ⟨_, rfl⟩
  obtain ⟨NX, hNX⟩ : ∃ z, nextE rl ⟨op, ty, n⟩ st = z := ⟨_, rfl⟩
  rw [hER] at herr ⊢
  rw [hNX] at hnext ⊢
  have HER := hide herr
  have HNX := hide hnext
  have h30 := hide (fld_call hfld)
  have hcp : Hid (op = 4 → cnt = 0 ∧ 0 ≤ n ∧ n < rl.length) := hide (fun h => by subst h; exact ⟨by rw [← hcnt]; rfl, fld_copy hfld⟩)
  obtain ⟨As, cs, hW, hOw, hbs0, hbb⟩ := hS
  have hcs : cs ≤ 9223372036854775807 := by
    obtain ⟨_, _, e1, _, hm, -⟩ := id hOw.rd
    injection e1 with _ _ e1
    unfold maxLen at hm
    omega
  have hcl : st.length ≤ cs := by
    obtain ⟨_, _, e1, hm, _, -⟩ := id hOw.rd
    injection e1 with _ _ e1
    omega
  have hrc : rc ≤ 9223372036854775807 := by
    obtain ⟨_, _, e1, _, hm, -⟩ := id hrl
    injection e1 with _ _ e1
    unfold maxLen at hm
    omega
  have HT := hide hT
  have HTo := hide hO
  have HW := hide hW
  have HOw := hide hOw
  have hbs := hide hbs0
  have HF := hide hF
  have HM := hide hM
  have HRL := hide hrl
  have HFS := hide hfs
  have HCN := hide hcnt
  obtain ⟨bN, hbN⟩ : ∃ b, w.heap.size = b := ⟨_, rfl⟩
  obtain ⟨w1, hw1⟩ : ∃ z, w.alloc (.cells #[.int .i64 op, .int .i64 ty, .int .i64 n] 40) = z := ⟨_, rfl⟩
  have HB : Hid (Below w.heap.size w w1.drew) := hide (by rw [← hw1]; exact ((Below.refl _ _).alloc (Nat.le_refl _) _).drew)
  have HN : Hid (Whole w1.drew bN 40 #[.int .i64 op, .int .i64 ty, .int .i64 n]) := hide (by rw [← hw1, ← hbN]; exact (Whole.new w _ _).drewN 1)
  have cc : w1.drew.cell? ⟨bN, 0, none⟩ = some (.int .i64 op) ∧ w1.drew.cell? ⟨bN, 1, none⟩ = some (.int .i64 ty) ∧ w1.drew.cell? ⟨bN, 2, none⟩ = some (.int .i64 n) ∧ w1.drew.cell? ⟨bS, 0, none⟩ = some (.slice As st.length cs) :=
    ⟨HN.out.cell 0, HN.out.cell 1, HN.out.cell 2, (HW.out.below' HB.out).cell 0⟩
  have cc0 := cc
  clear hT hO hW hOw hbs0 hF hM hrl hfs hcnt herr hnext hfld hER hNX
  go_enter Tryd.func24, Tryd.ntmps24
  go_upto_region 1 with fail
  clear hw1 hbN
  go_region_held3 (fun w' => w'.cell? ⟨bN, 0, none⟩ = some (.int .i64 op) ∧ w'.cell? ⟨bN, 1, none⟩ = some (.int .i64 ty) ∧ w'.cell? ⟨bN, 2, none⟩ = some (.int .i64 n) ∧ w'.cell? ⟨bS, 0, none⟩ = some (.slice As st.length cs)) (first | exact cc | exact cc0)
    (first | (go_at_call 25; refine (opcount_any op ty n _).mono ?_; rintro en w2 ⟨rfl, hb2⟩; rw [HCN.out]; have HZ := hide hb2; replace cc := And.intro (cell_below hb2 cc.1) (And.intro (cell_below hb2 cc.2.1) (And.intro (cell_below hb2 cc.2.2.1) (cell_below hb2 cc.2.2.2))); clear hb2))
  have HB2 : Hid (Below w.heap.size w w2) := hide (Below.all HB.out HZ.out)
  have HN2 := hide (HN.out.below' HZ.out)
  have HW2 := hide (HW.out.below' HB2.out)
  have HF2 := hide (HF.out.below' HB2.out)
  have HM2 := hide (HM.out.below' HB2.out)
  have HO2 := hide (HOw.out.below' HB2.out)
  have HRL2 := hide (HRL.out.below' HB2.out)
  have hbb2 : Hid (base ≤ w2.heap.size) := hide (Nat.le_trans hbb HB2.out.size)
  have hbSw : Hid (bS ≤ w.heap.size) := hide (by have := hbs.out; omega)
  clear HB HN HZ HW HF HM HOw cc0
  have n0 := cc.1
  have n1 := cc.2.1
  have n2 := cc.2.2.1
  have s0 := cc.2.2.2
  clear cc
  by_cases hlt : st.length < cnt
  · have hER : ER = 4 := by rw [HER.out, if_pos hlt]
    have g0 : decide ((st.length : Int) - (cnt : Int) < 0) = true := by simp; omega
    have HL := hide hlt
    subst hER
    clear n0 n1 n2 s0
    go_wp2_with fail
    go_ret
    exact ⟨rfl, fun h => by omega, HB2.out.mono hbSw.out⟩
  · obtain ⟨r, hr⟩ : ∃ r, st.length - cnt = r := ⟨_, rfl⟩
    have hrc2 : r + cnt = st.length := by omega
    have hs1 : IntKind.i64.wrap ((st.length : Int) - (cnt : Int)) = (r : Int) := by rw [show (st.length : Int) - (cnt : Int) = (r : Int) by omega]; exact IntWalk.i64_in _ (by omega)
    have hs2 : ((st.length : Int) - (cnt : Int)) = (r : Int) := by omega
    have g0 : decide ((r : Int) < 0) = false := by simp
    rw [hs1]
    rw [hr] at HER HNX
    have HLT := hide hlt
    have HR2 := hide hr
    clear hr hlt
    by_cases c4 : op = 4
    · obtain ⟨e0, hn0, hn1⟩ := hcp.out c4
      obtain rfl := e0
      obtain rfl : r = st.length := by omega
      have hER : ER = 0 := by rw [HER.out, if_neg HLT.out, if_pos c4]
      have hNX : NX = st.take st.length ++ [rl.getD n.toNat 0] := by rw [HNX.out, if_pos c4]
      obtain ⟨i, rfl⟩ : ∃ i : Nat, n = i := ⟨n.toNat, by omega⟩
      have hil : i < rl.length := by omega
      obtain ⟨t, ht⟩ : ∃ t, rl[i]? = some t := ⟨_, List.getElem?_eq_getElem hil⟩
      have htt : rl.getD ((i : Int)).toNat 0 = t := by rw [Int.toNat_natCast, List.getD, ht]; rfl
      rw [htt] at hNX
      have HNX' := hide hNX
      subst hER
      subst c4
      obtain ⟨bR, oR, eR, hbR, hcR⟩ := HRL2.out.toV.at i (.int .i64 t) (by rw [List.getElem?_map, ht]; rfl)
      subst eR
      have f3 : w2.cell? ⟨bF, 3, none⟩ = some (.slice (some ⟨bR, oR, none⟩) rl.length rc) := HF2.out.cell 3
      clear ht htt hNX hbR hn0 hn1 hs2
      obtain ⟨w3, hw3⟩ : ∃ z, w2 = z := ⟨_, rfl⟩
      have HW3 := HW2
      have HO3 := HO2
      have hbb3 := hbb2
      rw [hw3] at HW3 HO3 hbb3 n0 n1 n2 s0 f3 hcR HB2 ⊢
      clear hw3 HW2 HO2 hbb2 HN2 HF2 HM2 HRL2
      go_upto_region 10 with fail
      have hs3 : base ≤ (w3.alloc (.cells #[.int .i64 t] 24)).heap.size := by rw [World.size_alloc]; have := hbb3.out; omega
      have HO4 := hide (HO3.out.alloc (.cells #[.int .i64 t] 24))
      have hlt : Hid ((st.take st.length).length = st.length) := hide (by rw [List.length_take]; omega)
      have c3 : w3.cell? ⟨bS, 0, none⟩ = some (.slice As st.length cs) := HW3.out.cell 0
      go_wp2_with (refine wpList_append_rd _ rfl _ _ 25 rfl base 24 .i64 8 tysE9 (.slice As st.length cs) _ (by simp [Act.eval]) HO4.out _ [t] rfl (rd_one _ _ _) ?b0 ?b1 hs3 ?_)
      case b0 => (try rw [hlt.out]); (try simp only [List.length_singleton]); omega
      case b1 => (try rw [hlt.out]); (try simp only [List.length_singleton]); unfold maxLen; omega
      rintro v' w4 ho hg hbl -
      obtain ⟨A5, c5, e5, -⟩ := id ho.rd
      obtain ⟨L, hL⟩ : ∃ L, v' = .slice A5 L c5 := ⟨_, e5⟩
      clear e5
      subst hL
      obtain ⟨k1, k2, k3, k4⟩ := stk_put HW3.out HO3.out hbs.out hbb3.out hg (m := st.length) (by rw [List.take_length]; exact ho)
      have K3 := hide k3
      have K4 := hide k4
      clear k3 k4 ho hg hbl c3 hs3 HO4
      go_wp2_with fail
      go_ret
      exact ⟨rfl, by rw [HNX'.out]; exact K3.out, (HB2.out.mono hbSw.out).trans K4.out⟩
    · obtain ⟨ts, hts⟩ : ∃ ts, st.drop r = ts := ⟨_, rfl⟩
      have htl : ts.length = cnt := by rw [← hts, List.length_drop]; omega
      have hER : ER = tyE ⟨op, ty, n⟩ ts gn fs.length := by rw [HER.out, if_neg HLT.out, if_neg c4, hts]
      have hNX : NX = st.take r ++ [ty] := by rw [HNX.out, if_neg c4]
      have g4 : (op == 4) = false := by simpa using c4
      have HNX' := hide hNX
      have HER' := hide hER
      have HTL := hide htl
      have HTS := hide hts
      clear hER hNX htl hts c4 n0 n1 n2 s0
      -- the operands
      have hop : Hid (∀ W, Below w2.heap.size w2 W → ∀ A, (A = As ∧ r = 0 ∨ (∃ b, As = some ⟨b, 0, none⟩ ∧ A = some ⟨b, r, none⟩) ∨ r = st.length) → Calls Tryd.prog 26 #[.agg #[.int .i64 op, .int .i64 ty, .int .i64 n], .slice A (st.length - r) (cs - r), .agg #[.slice GA gn gc, .slice FA fs.length fc]] W fun e w' => e = .returned (.int .i64 ER) ∧ Below W.heap.size W w') := hide (fun W hW A hA => by
        have hbW := Below.all HB2.out hW
        have hrd := (HO2.out.below' hW).rd
        have hrt : Rd W .i64 (.slice A ts.length (cs - r)) ts := by
          rw [← HTS.out]
          rcases hA with ⟨rfl, rfl⟩ | ⟨b, rfl, rfl⟩ | h0
          · simpa using hrd
          · have := hrd.back (m := r) (by omega) (some ⟨b, r, none⟩) (.inl (by simp))
            rw [List.length_drop]
            exact this
          · subst h0
            rw [List.drop_length]
            exact ⟨A, cs - st.length, rfl, by simp, by unfold maxLen; omega, fun h => absurd h (by simp)⟩
        have h := ctypes_any ⟨op, ty, n⟩ A (cs - r) ts (by rw [HTL.out]; exact hc4) GA FA gn gc fc fs h30.out W (HT.out.below hbW) (HTo.out.below hbW) hrt (HFS.out.below hbW)
        rw [show ts.length = st.length - r by rw [← HTS.out, List.length_drop]] at h
        rw [HER'.out]
        exact h)
      have n0 : w2.drew.cell? ⟨bN, 0, none⟩ = some (.int .i64 op) := HN2.out.cell 0
      have n1 : w2.drew.cell? ⟨bN, 1, none⟩ = some (.int .i64 ty) := HN2.out.cell 1
      have n2 : w2.drew.cell? ⟨bN, 2, none⟩ = some (.int .i64 n) := HN2.out.cell 2
      have s0 : w2.drew.cell? ⟨bS, 0, none⟩ = some (.slice As st.length cs) := HW2.out.cell 0
      have m0 : w2.drew.cell? ⟨bM, 0, none⟩ = some (.slice GA gn gc) := HM2.out.cell 0
      have m1 : w2.drew.cell? ⟨bM, 1, none⟩ = some (.slice FA fs.length fc) := HM2.out.cell 1
      have n0' : w2.cell? ⟨bN, 0, none⟩ = some (.int .i64 op) := HN2.out.cell 0
      have n1' : w2.cell? ⟨bN, 1, none⟩ = some (.int .i64 ty) := HN2.out.cell 1
      go_upto_region 7 with fail
      clear n0' n1'
      have gr0 : (0 : Int) ≤ (r : Int) := by omega
      have gr1 : (r : Int) ≤ (st.length : Int) := by omega
      have gr2 : r ≤ st.length := by omega
      rcases HO2.out.2 with ⟨e1, e2⟩ | ⟨g, cap, _, e1, -, -, -, -, -, -⟩
      · injection e1 with e1 e3 e4
        subst e1
        subst e4
        obtain rfl : st = [] := List.eq_nil_of_length_eq_zero e2
        obtain rfl : r = 0 := by simp at hrc2; omega
        have hop3 : Hid (Calls Tryd.prog 26 #[.agg #[.int .i64 op, .int .i64 ty, .int .i64 n], .slice none 0 0, .agg #[.slice GA gn gc, .slice FA fs.length fc]] w2.drew fun e w' => e = .returned (.int .i64 ER) ∧ Below w2.drew.heap.size w2.drew w') := hide (by
          have h := hop.out _ (Below.drewN' (Below.refl _ _) 1) none (.inl ⟨rfl, rfl⟩)
          exact h)
        have K0 : w2.drew.cell? ⟨bN, 0, none⟩ = some (.int .i64 op) ∧ w2.drew.cell? ⟨bN, 1, none⟩ = some (.int .i64 ty) ∧ w2.drew.cell? ⟨bN, 2, none⟩ = some (.int .i64 n) ∧ w2.drew.cell? ⟨bS, 0, none⟩ = some (.slice none 0 0) ∧ w2.drew.cell? ⟨bM, 0, none⟩ = some (.slice GA gn gc) ∧ w2.drew.cell? ⟨bM, 1, none⟩ = some (.slice FA fs.length fc) := ⟨n0, n1, n2, s0, m0, m1⟩
        have cc := K0
        clear n0 n1 n2 s0 m0 m1
        go_region_held3 (fun w' => w'.cell? ⟨bN, 0, none⟩ = some (.int .i64 op) ∧ w'.cell? ⟨bN, 1, none⟩ = some (.int .i64 ty) ∧ w'.cell? ⟨bN, 2, none⟩ = some (.int .i64 n) ∧ w'.cell? ⟨bS, 0, none⟩ = some (.slice none 0 0) ∧ w'.cell? ⟨bM, 0, none⟩ = some (.slice GA gn gc) ∧ w'.cell? ⟨bM, 1, none⟩ = some (.slice FA fs.length fc)) (first | exact cc | exact K0)
          (first | (go_at_call 26; refine hop3.out.mono ?_; rintro en w4 ⟨rfl, hb4⟩; have HZ := hide hb4; replace cc := And.intro (cell_below hb4 cc.1) (And.intro (cell_below hb4 cc.2.1) (And.intro (cell_below hb4 cc.2.2.1) (And.intro (cell_below hb4 cc.2.2.2.1) (And.intro (cell_below hb4 cc.2.2.2.2.1) (cell_below hb4 cc.2.2.2.2.2))))); clear hb4))
        have b24 : Below w2.heap.size w2 w4 := (Below.drewN' (Below.refl _ _) 1).trans HZ.out
        have HB4 : Hid (Below bS w w4) := hide ((HB2.out.trans (b24.mono HB2.out.size)).mono hbSw.out)
        have HW3 := hide (HW2.out.below' b24)
        have HO3 := hide (HO2.out.below' b24)
        have hbb3 : Hid (base ≤ w4.heap.size) := hide (Nat.le_trans hbb2.out b24.size)
        clear HZ b24 hop hop3 K0 HN2 HW2 HF2 HM2 HO2 HRL2
        obtain ⟨w3, hw3⟩ : ∃ z, w4 = z := ⟨_, rfl⟩
        rw [hw3] at HB4 HW3 HO3 hbb3 cc ⊢
        clear hw3
        by_cases he : ER = 0
        · have ge : (ER != 0) = false := by simpa using he
          have HE := hide he
          clear he cc
          go_upto_region 10 with fail
          have hs3 : base ≤ (w3.alloc (.cells #[.int .i64 ty] 24)).heap.size := by rw [World.size_alloc]; have := hbb3.out; omega
          have HO4 := hide ((HO3.out.front (m := 0) (by omega)).alloc (.cells #[.int .i64 ty] 24))
          have hlt : Hid ((([] : List Int).take 0).length = 0) := hide (by rw [List.length_take]; omega)
          have c3 : w3.cell? ⟨bS, 0, none⟩ = some (.slice none 0 0) := HW3.out.cell 0
          go_wp2_with (refine wpList_append_rd _ rfl _ _ 25 rfl base 24 .i64 8 tysE9 (.slice none 0 0) _ (by simp [Act.eval]) HO4.out _ [ty] rfl (rd_one _ _ _) ?b0 ?b1 hs3 ?_)
          case b0 => simp
          case b1 => simp [maxLen]
          rintro v' w4 ho hg hbl -
          obtain ⟨A5, c5, e5, -⟩ := id ho.rd
          obtain ⟨L, hL⟩ : ∃ L, v' = .slice A5 L c5 := ⟨_, e5⟩
          clear e5
          subst hL
          obtain ⟨k1, k2, k3, k4⟩ := stk_put HW3.out HO3.out hbs.out hbb3.out hg (m := 0) (by first | exact ho | simpa using ho)
          have K3 := hide k3
          have K4 := hide k4
          clear k3 k4 ho hg hbl c3 hs3 HO4
          go_wp2_with fail
          go_ret
          rw [HE.out]
          exact ⟨rfl, fun _ => by rw [HNX'.out]; exact K3.out, HB4.out.trans K4.out⟩
        · have ge : (ER != 0) = true := by simpa using he
          have HE := hide he
          clear he cc
          go_wp2_with fail
          go_ret
          exact ⟨rfl, fun h => absurd h HE.out, HB4.out⟩
      · injection e1 with e1 e8 e9
        subst e1
        subst e9
        clear e8
        by_cases h9 : cs = r
        · obtain rfl : r = st.length := by omega
          obtain rfl : cs = st.length := by omega
          have hop3 : Hid (Calls Tryd.prog 26 #[.agg #[.int .i64 op, .int .i64 ty, .int .i64 n], .slice (some ⟨g, 0, none⟩) 0 0, .agg #[.slice GA gn gc, .slice FA fs.length fc]] w2.drew fun e w' => e = .returned (.int .i64 ER) ∧ Below w2.drew.heap.size w2.drew w') := hide (by
            have h := hop.out _ (Below.drewN' (Below.refl _ _) 1) (some ⟨g, 0, none⟩) (.inr (.inr rfl))
            rw [Nat.sub_self] at h
            exact h)
          have K0 : w2.drew.cell? ⟨bN, 0, none⟩ = some (.int .i64 op) ∧ w2.drew.cell? ⟨bN, 1, none⟩ = some (.int .i64 ty) ∧ w2.drew.cell? ⟨bN, 2, none⟩ = some (.int .i64 n) ∧ w2.drew.cell? ⟨bS, 0, none⟩ = some (.slice (some ⟨g, 0, none⟩) st.length st.length) ∧ w2.drew.cell? ⟨bM, 0, none⟩ = some (.slice GA gn gc) ∧ w2.drew.cell? ⟨bM, 1, none⟩ = some (.slice FA fs.length fc) := ⟨n0, n1, n2, s0, m0, m1⟩
          have cc := K0
          clear n0 n1 n2 s0 m0 m1
          go_region_held3 (fun w' => w'.cell? ⟨bN, 0, none⟩ = some (.int .i64 op) ∧ w'.cell? ⟨bN, 1, none⟩ = some (.int .i64 ty) ∧ w'.cell? ⟨bN, 2, none⟩ = some (.int .i64 n) ∧ w'.cell? ⟨bS, 0, none⟩ = some (.slice (some ⟨g, 0, none⟩) st.length st.length) ∧ w'.cell? ⟨bM, 0, none⟩ = some (.slice GA gn gc) ∧ w'.cell? ⟨bM, 1, none⟩ = some (.slice FA fs.length fc)) (first | exact cc | exact K0)
            (first | (go_at_call 26; refine hop3.out.mono ?_; rintro en w4 ⟨rfl, hb4⟩; have HZ := hide hb4; replace cc := And.intro (cell_below hb4 cc.1) (And.intro (cell_below hb4 cc.2.1) (And.intro (cell_below hb4 cc.2.2.1) (And.intro (cell_below hb4 cc.2.2.2.1) (And.intro (cell_below hb4 cc.2.2.2.2.1) (cell_below hb4 cc.2.2.2.2.2))))); clear hb4))
          have b24 : Below w2.heap.size w2 w4 := (Below.drewN' (Below.refl _ _) 1).trans HZ.out
          have HB4 : Hid (Below bS w w4) := hide ((HB2.out.trans (b24.mono HB2.out.size)).mono hbSw.out)
          have HW3 := hide (HW2.out.below' b24)
          have HO3 := hide (HO2.out.below' b24)
          have hbb3 : Hid (base ≤ w4.heap.size) := hide (Nat.le_trans hbb2.out b24.size)
          clear HZ b24 hop hop3 K0 HN2 HW2 HF2 HM2 HO2 HRL2
          obtain ⟨w3, hw3⟩ : ∃ z, w4 = z := ⟨_, rfl⟩
          rw [hw3] at HB4 HW3 HO3 hbb3 cc ⊢
          clear hw3
          by_cases he : ER = 0
          · have ge : (ER != 0) = false := by simpa using he
            have HE := hide he
            clear he cc
            go_upto_region 10 with fail
            have hs3 : base ≤ (w3.alloc (.cells #[.int .i64 ty] 24)).heap.size := by rw [World.size_alloc]; have := hbb3.out; omega
            have HO4 := hide (HO3.out.alloc (.cells #[.int .i64 ty] 24))
            have hlt : Hid ((st.take st.length).length = st.length) := hide (by rw [List.length_take]; omega)
            have c3 : w3.cell? ⟨bS, 0, none⟩ = some (.slice (some ⟨g, 0, none⟩) st.length st.length) := HW3.out.cell 0
            go_wp2_with (refine wpList_append_rd _ rfl _ _ 25 rfl base 24 .i64 8 tysE9 (.slice (some ⟨g, 0, none⟩) st.length st.length) _ (by simp [Act.eval]) HO4.out _ [ty] rfl (rd_one _ _ _) ?b0 ?b1 hs3 ?_)
            case b0 => (try rw [hlt.out]); (try simp only [List.length_singleton]); omega
            case b1 => (try rw [hlt.out]); (try simp only [List.length_singleton]); unfold maxLen; omega
            rintro v' w4 ho hg hbl -
            obtain ⟨A5, c5, e5, -⟩ := id ho.rd
            obtain ⟨L, hL⟩ : ∃ L, v' = .slice A5 L c5 := ⟨_, e5⟩
            clear e5
            subst hL
            obtain ⟨k1, k2, k3, k4⟩ := stk_put HW3.out HO3.out hbs.out hbb3.out hg (m := st.length) (by rw [List.take_length]; exact ho)
            have K3 := hide k3
            have K4 := hide k4
            clear k3 k4 ho hg hbl c3 hs3 HO4
            go_wp2_with fail
            go_ret
            rw [HE.out]
            exact ⟨rfl, fun _ => by rw [HNX'.out]; exact K3.out, HB4.out.trans K4.out⟩
          · have ge : (ER != 0) = true := by simpa using he
            have HE := hide he
            clear he cc
            go_wp2_with fail
            go_ret
            exact ⟨rfl, fun h => absurd h HE.out, HB4.out⟩
        · have h10 : ¬ r = cs := fun h => h9 h.symm
          have K0 : w2.drew.cell? ⟨bN, 0, none⟩ = some (.int .i64 op) ∧ w2.drew.cell? ⟨bN, 1, none⟩ = some (.int .i64 ty) ∧ w2.drew.cell? ⟨bN, 2, none⟩ = some (.int .i64 n) ∧ w2.drew.cell? ⟨bS, 0, none⟩ = some (.slice (some ⟨g, 0, none⟩) st.length cs) ∧ w2.drew.cell? ⟨bM, 0, none⟩ = some (.slice GA gn gc) ∧ w2.drew.cell? ⟨bM, 1, none⟩ = some (.slice FA fs.length fc) := ⟨n0, n1, n2, s0, m0, m1⟩
          have cc := K0
          clear n0 n1 n2 s0 m0 m1
          go_region_held3 (fun w' => w'.cell? ⟨bN, 0, none⟩ = some (.int .i64 op) ∧ w'.cell? ⟨bN, 1, none⟩ = some (.int .i64 ty) ∧ w'.cell? ⟨bN, 2, none⟩ = some (.int .i64 n) ∧ w'.cell? ⟨bS, 0, none⟩ = some (.slice (some ⟨g, 0, none⟩) st.length cs) ∧ w'.cell? ⟨bM, 0, none⟩ = some (.slice GA gn gc) ∧ w'.cell? ⟨bM, 1, none⟩ = some (.slice FA fs.length fc)) (first | exact cc | exact K0)
            (first | (go_at_call 26; refine (hop.out _ (Below.drewN' (Below.refl _ _) 1) _ (.inr (.inl ⟨g, rfl, rfl⟩))).mono ?_; rintro en w4 ⟨rfl, hb4⟩; have HZ := hide hb4; replace cc := And.intro (cell_below hb4 cc.1) (And.intro (cell_below hb4 cc.2.1) (And.intro (cell_below hb4 cc.2.2.1) (And.intro (cell_below hb4 cc.2.2.2.1) (And.intro (cell_below hb4 cc.2.2.2.2.1) (cell_below hb4 cc.2.2.2.2.2))))); clear hb4))
          have b24 : Below w2.heap.size w2 w4 := (Below.drewN' (Below.refl _ _) 1).trans HZ.out
          have HB4 : Hid (Below bS w w4) := hide ((HB2.out.trans (b24.mono HB2.out.size)).mono hbSw.out)
          have HW3 := hide (HW2.out.below' b24)
          have HO3 := hide (HO2.out.below' b24)
          have hbb3 : Hid (base ≤ w4.heap.size) := hide (Nat.le_trans hbb2.out b24.size)
          clear HZ b24 hop K0 HN2 HW2 HF2 HM2 HO2 HRL2
          obtain ⟨w3, hw3⟩ : ∃ z, w4 = z := ⟨_, rfl⟩
          rw [hw3] at HB4 HW3 HO3 hbb3 cc ⊢
          clear hw3
          by_cases he : ER = 0
          · have ge : (ER != 0) = false := by simpa using he
            have HE := hide he
            clear he cc
            go_upto_region 10 with fail
            have hs3 : base ≤ (w3.alloc (.cells #[.int .i64 ty] 24)).heap.size := by rw [World.size_alloc]; have := hbb3.out; omega
            have HO4 := hide ((HO3.out.front (m := r) (by omega)).alloc (.cells #[.int .i64 ty] 24))
            have hlt : Hid ((st.take r).length = r) := hide (by rw [List.length_take]; omega)
            have c3 : w3.cell? ⟨bS, 0, none⟩ = some (.slice (some ⟨g, 0, none⟩) st.length cs) := HW3.out.cell 0
            go_wp2_with (refine wpList_append_rd _ rfl _ _ 25 rfl base 24 .i64 8 tysE9 (.slice (some ⟨g, 0, none⟩) r cs) _ (by simp [Act.eval]) HO4.out _ [ty] rfl (rd_one _ _ _) ?b0 ?b1 hs3 ?_)
            case b0 => (try rw [hlt.out]); (try simp only [List.length_singleton]); omega
            case b1 => (try rw [hlt.out]); (try simp only [List.length_singleton]); unfold maxLen; omega
            rintro v' w4 ho hg hbl -
            obtain ⟨A5, c5, e5, -⟩ := id ho.rd
            obtain ⟨L, hL⟩ : ∃ L, v' = .slice A5 L c5 := ⟨_, e5⟩
            clear e5
            subst hL
            obtain ⟨k1, k2, k3, k4⟩ := stk_put HW3.out HO3.out hbs.out hbb3.out hg ho
            have K3 := hide k3
            have K4 := hide k4
            clear k3 k4 ho hg hbl c3 hs3 HO4
            go_wp2_with fail
            go_ret
            rw [HE.out]
            exact ⟨rfl, fun _ => by rw [HNX'.out]; exact K3.out, HB4.out.trans K4.out⟩
          · have ge : (ER != 0) = true := by simpa using he
            have HE := hide he
            clear he cc
            go_wp2_with fail
            go_ret
            exact ⟨rfl, fun h => absurd h HE.out, HB4.out⟩
end Go.Proofs.YtnhaanjpcnnifaaDoor

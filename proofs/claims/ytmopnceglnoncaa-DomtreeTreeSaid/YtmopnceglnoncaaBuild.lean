/-
  Layer 8 (domtree): Build.
-/
import Derived.Test.YtmopnceglnoncaaImm
import Derived.StillTailTactics
namespace Go.Proofs.Ytmopnceglnoncaa
open Go.RowKit

/-- The immediate dominators of the nodes of the first i places; -1 for the others. -/
def idfTo (L : List Nat) (dm : Nat → Nat) (i x : Nat) : Int := if x ∈ L ∧ L.idxOf x < i then (L.getD (dm (L.idxOf x)) 0 : Nat) else -1
theorem idx_get {L : List Nat} (h : L.Nodup) {p x : Nat} (hx : L[p]? = some x) : x ∈ L ∧ L.idxOf x = p := by
  have hm := List.mem_of_getElem? hx
  have h1 : L[L.idxOf x]? = some x := by
    rw [List.getElem?_eq_getElem (List.idxOf_lt_length_of_mem hm), List.getElem_idxOf]
  exact ⟨hm, nodup_get h h1 hx⟩
theorem idfTo_step {L : List Nat} (h : L.Nodup) {dm : Nat → Nat} {i x y : Nat} (hx : L[i]? = some x) (hy : L[dm i]? = some y) : idfTo L dm (i + 1) x = (y : Int) ∧ ∀ z, z ≠ x → idfTo L dm (i + 1) z = idfTo L dm i z := by
  obtain ⟨h1, h2⟩ := idx_get h hx
  refine ⟨?_, fun z hz => ?_⟩
  · unfold idfTo
    rw [if_pos ⟨h1, by omega⟩, h2, List.getD_eq_getElem?_getD, hy]; rfl
  · unfold idfTo
    by_cases c : z ∈ L
    · have hne : L.idxOf z ≠ i := fun e => by
        have h3 : L[L.idxOf z]? = some z := by
          rw [List.getElem?_eq_getElem (List.idxOf_lt_length_of_mem c), List.getElem_idxOf]
        rw [e, hx] at h3
        injection h3 with h3
        exact hz h3.symm
      by_cases l : L.idxOf z < i
      · rw [if_pos ⟨c, by omega⟩, if_pos ⟨c, l⟩]
      · rw [if_neg (fun d => by have := d.2; omega), if_neg (fun d => l d.2)]
    · rw [if_neg (fun d => c d.1), if_neg (fun d => c d.1)]

set_option maxRecDepth 100000 in
set_option maxHeartbeats 8000000 in
theorem build_bad (A : Option Addr) (c : Nat) (g : List (List Int)) (e : Int) (w : World) (hg : RdL w A c g) (hbad : codeG g ≠ 0 ∨ ¬ (0 ≤ e ∧ e < g.length)) :
    Calls Try.prog 12 #[.agg #[.slice A g.length c], .int .i64 e] w fun en w' => en = .returned (.slice none 0 0) ∧ Below w.heap.size w w' := by
  obtain ⟨w1, hw1⟩ : ∃ x, w.alloc (.cells #[.slice A g.length c] 24) = x := ⟨_, rfl⟩
  have hx1 : w1.cell? ⟨w.heap.size, 0, none⟩ = some (.slice A g.length c) := by rw [← hw1]; simp [go_sem]
  have hb1 : Below w.heap.size w w1 := by rw [← hw1]; exact (Below.refl _ _).alloc (Nat.le_refl _) _
  have HB1 := hide hb1
  have HK := hide (check_any A c g w1 (hg.below' hb1))
  clear hg hb1
  go_enter Try.func12, Try.ntmps12
  go_wp2_with fail
  refine HK.out.mono ?_
  rintro en w2 ⟨rfl, hb2⟩
  have HB2 : Hid (Below w.heap.size w w2) := hide (HB1.out.trans (hb2.mono HB1.out.size))
  have hx2 := (hb2.cell (p := ⟨w.heap.size, 0, none⟩) (lt_of_cell hx1)).trans hx1
  clear hw1 hx1 hb2 HK HB1
  by_cases hk : codeG g = 0
  · have hbad := hbad.resolve_left (fun h => h hk)
    rw [hk]
    by_cases h0 : e < 0
    · have t1 : decide (e < 0) = true := decide_eq_true h0
      clear hk hbad
      go_wp2_with fail
      go_ret
      exact ⟨rfl, HB2.out⟩
    · have t1 : decide (e < 0) = false := decide_eq_false h0
      have h1 : e ≥ g.length := by omega
      have t2 : decide (e ≥ (g.length : Int)) = true := decide_eq_true h1
      have t3 : (g.length : Int) ≤ e := h1
      clear hk hbad
      go_wp2_with fail
      go_ret
      exact ⟨rfl, HB2.out⟩
  · have t1 : (codeG g != 0) = true := by simpa using hk
    obtain ⟨k, hkk⟩ : ∃ k, codeG g = k := ⟨_, rfl⟩
    rw [hkk] at t1 ⊢
    clear hk hkk hbad
    go_wp2_with fail
    go_ret
    exact ⟨rfl, HB2.out⟩

theorem preds_rd {w : World} {base D : Nat} {R : List Value} {g : List (List Int)} (h : OwnL w base D R (preds g)) : RdL w (some ⟨D, 0, none⟩) g.length (preds g) := by
  have h1 := h.rd
  rw [h.len, preds_len] at h1
  exact h1
theorem imm_at (g : List (List Int)) (e : Nat) (L P : List Nat) (hok : okG g = true) (hN : g.length ≤ 65536) (hsp : Spans g e 0 [] [] L P) (w : World) (An Al Ap PA : Option Addr) (cn cl cp pc : Nat) (hpl : P.length = L.length) (hn : Rd w .i64 (.slice An L.length cn) (ints L)) (hl : Rd w .i64 (.slice Al g.length cl) (fz g.length (place L))) (hp : Rd w .i64 (.slice Ap L.length cp) (ints P)) (hpr : RdL w PA pc (preds g)) :
    Calls Try.prog 33 #[.agg #[.slice An L.length cn, .slice Al g.length cl, .slice Ap L.length cp], .slice PA g.length pc] w fun en w' => ∃ D dm, en = .returned (.slice (some ⟨D, 0, none⟩) L.length L.length) ∧ Own w' w.heap.size 3 .i64 (.slice (some ⟨D, 0, none⟩) L.length L.length) (fl L.length dm) ∧ (∀ p, 0 < p → p < L.length → IsIdom (PE g L) (dm p) p) ∧ dm 0 = 0 ∧ Below w.heap.size w w' := by
  have h := imm_any g e L P hok hN hsp w An Al Ap PA cn cl cp pc hn hl (by rw [hpl]; exact hp) hpr
  rw [hpl] at h
  exact h

set_option maxRecDepth 100000 in
set_option maxHeartbeats 8000000 in
theorem build_any (A : Option Addr) (c : Nat) (g : List (List Int)) (e : Nat) (w : World) (hg : RdL w A c g) (hok : codeG g = 0) (he : e < g.length) (hE : edges g ≤ 1000000) :
    Calls Try.prog 12 #[.agg #[.slice A g.length c], .int .i64 (e : Nat)] w fun en w' => ∃ D L P dm, en = .returned (.slice (some ⟨D, 0, none⟩) g.length g.length) ∧ Spans g e 0 [] [] L P ∧ (∀ p, 0 < p → p < L.length → IsIdom (PE g L) (dm p) p) ∧ dm 0 = 0 ∧ Own w' w.heap.size 3 .i64 (.slice (some ⟨D, 0, none⟩) g.length g.length) (fz g.length (idfTo L dm L.length)) ∧ Below w.heap.size w w' := by
  obtain ⟨hokG, hN⟩ := code_ok hok
  have hc := hg.cap
  have hc9 : c ≤ 9223372036854775807 := by unfold maxLen at hc; omega
  obtain ⟨w1, hw1⟩ : ∃ x, w.alloc (.cells #[.slice A g.length c] 24) = x := ⟨_, rfl⟩
  have hx1 : w1.cell? ⟨w.heap.size, 0, none⟩ = some (.slice A g.length c) := by rw [← hw1]; simp [go_sem]
  have hb1 : Below w.heap.size w w1 := by rw [← hw1]; exact (Below.refl _ _).alloc (Nat.le_refl _) _
  have HB1 := hide hb1
  have hck := check_any A c g w1 (hg.below' hb1)
  rw [hok] at hck
  have HK := hide hck
  have HOK := hide hok
  have HE := hide hE
  have HG := hide hg
  have t1 : decide ((e : Int) < 0) = false := decide_eq_false (by omega)
  have t2 : decide ((e : Int) ≥ (g.length : Int)) = false := decide_eq_false (by omega)
  have t2' : decide ((g.length : Int) ≤ (e : Int)) = false := decide_eq_false (by omega)
  have t3 : ¬ (g.length : Int) ≤ (e : Int) := by omega
  have t4 : ¬ (e : Int) < 0 := by omega
  have t5 : decide (g.length ≤ e) = false := decide_eq_false (by omega)
  clear hg hb1 hck hok hE hc
  go_enter Try.func12, Try.ntmps12
  go_wp2_with fail
  refine HK.out.mono ?_
  rintro en w2 ⟨rfl, hb2⟩
  have hB2 := HB1.out.trans (hb2.mono HB1.out.size)
  have hx2 := (hb2.cell (p := ⟨w.heap.size, 0, none⟩) (lt_of_cell hx1)).trans hx1
  have HSN := hide (span_any A c g e w2 (HG.out.below' hB2) hokG hN he)
  have HB2 := hide hB2
  clear hw1 hx1 hb2 HK HB1 hB2
  go_wp2_with fail
  refine HSN.out.mono ?_
  rintro en w3 ⟨nv, pv, L, P, q, rfl, hsp, hq, hnv, hpl, hpv, hb3⟩
  have hmN : L.length ≤ g.length := nodup_len hsp.tail.nodup hsp.tail.bnd
  have hPL := hsp.tail.len
  have HB3 : Hid (Below w.heap.size w w3) := hide (HB2.out.trans (hb3.mono HB2.out.size))
  have HW3 : Hid (w.heap.size ≤ w3.heap.size) := hide HB3.out.size
  have hx3 := (hb3.cell (p := ⟨w.heap.size, 0, none⟩) (lt_of_cell hx2)).trans hx2
  obtain ⟨An, cn, rfl, -, hcn, -⟩ := hnv.rd
  obtain ⟨Ap, cp, rfl, -, hcp, -⟩ := hpv.rd
  have HNV := hide hnv
  have HPLC := hide hpl
  have HPV := hide hpv
  have HSP := hide hsp
  rw [ints_len L] at HNV
  rw [ints_len P] at HPV
  rw [ints_len L, ints_len P, hPL]
  rw [hPL] at HPV
  have HPL := hide hPL
  clear hPL
  have hcn9 : cn ≤ 9223372036854775807 := by unfold maxLen at hcn; omega
  obtain ⟨tb, htb⟩ : ∃ x, w3.heap.size = x := ⟨_, rfl⟩
  obtain ⟨w4, hw4⟩ : ∃ x, w3.alloc (.cells #[.slice none 0 0, .slice none 0 0, .slice none 0 0] 46) = x := ⟨_, rfl⟩
  have hs4 : w4.heap.size = tb + 1 := by rw [← hw4, World.size_alloc, htb]
  have hb4 : Below w3.heap.size w3 w4 := by rw [← hw4]; exact (Below.refl _ _).alloc (Nat.le_refl _) _
  have hT4 : Whole w4 tb 46 #[.slice none 0 0, .slice none 0 0, .slice none 0 0] := by rw [← htb, ← hw4]; exact Whole.new _ _ _
  obtain ⟨w5, hw5⟩ : ∃ x, w4.setCell ⟨tb, 0, none⟩ (.slice An L.length cn) = x := ⟨_, rfl⟩
  have hT5 : Whole w5 tb 46 #[.slice An L.length cn, .slice none 0 0, .slice none 0 0] := by rw [← hw5]; exact hT4.set 0 _
  obtain ⟨w6, hw6⟩ : ∃ x, w5.setCell ⟨tb, 1, none⟩ (.slice (some ⟨q, 0, none⟩) g.length g.length) = x := ⟨_, rfl⟩
  have hT6 : Whole w6 tb 46 #[.slice An L.length cn, .slice (some ⟨q, 0, none⟩) g.length g.length, .slice none 0 0] := by rw [← hw6]; exact hT5.set 1 _
  obtain ⟨w7, hw7⟩ : ∃ x, w6.setCell ⟨tb, 2, none⟩ (.slice Ap L.length cp) = x := ⟨_, rfl⟩
  have hT7 : Whole w7 tb 46 #[.slice An L.length cn, .slice (some ⟨q, 0, none⟩) g.length g.length, .slice Ap L.length cp] := by rw [← hw7]; exact hT6.set 2 _
  have hs7 : w7.heap.size = tb + 1 := by rw [← hw7, ← hw6, ← hw5]; simpa [World.setCell] using hs4
  have hf7 : Frm w3 w7 [] := by
    rw [← hw7, ← hw6, ← hw5]
    exact (((Frm.below hb4).setCell _ _ (.inr (Nat.le_of_eq htb))).setCell _ _ (.inr (Nat.le_of_eq htb))).setCell _ _ (.inr (Nat.le_of_eq htb))
  have a0 : w4.cell? ⟨tb, 0, none⟩ = some (.slice none 0 0) := hT4.cell 0
  have a0f := hT4.free 0
  have a1 : w5.cell? ⟨tb, 1, none⟩ = some (.slice none 0 0) := hT5.cell 1
  have a1f := hT5.free 1
  have a2 : w6.cell? ⟨tb, 2, none⟩ = some (.slice none 0 0) := hT6.cell 2
  have a2f := hT6.free 2
  have hx7 : w7.cell? ⟨w.heap.size, 0, none⟩ = some (.slice A g.length c) := (hf7.cell (p := ⟨w.heap.size, 0, none⟩) (lt_of_cell hx3) (by simp)).trans hx3
  have hmk := run_made w7 28 3 (.int .i64 0) 8 Try.underlying28 infoInt rfl (by omega) g.length (by omega)
  obtain ⟨w8, hw8⟩ : ∃ x, w7.alloc (.cells (madeCells #[.int .i64 0] g.length) 3) = x := ⟨_, rfl⟩
  have hb8 : Below w7.heap.size w7 w8 := by rw [← hw8]; exact (Below.refl _ _).alloc (Nat.le_refl _) _
  have hs8 : w8.heap.size = tb + 1 + 1 := by rw [← hw8, World.size_alloc, hs7]
  have hI8 : Own w8 (tb + 1) 3 .i64 (.slice (some ⟨tb + 1, 0, none⟩) g.length g.length) (fz g.length (fun x => if x < 0 then -1 else 0)) := by
    rw [fz_ext (h := fun _ => 0) (fun i _ => by simp), ← hs7, ← hw8]
    refine OwnV.toI ?_
    rw [fz_const, List.map_replicate]
    exact own_madeV w7 3 (.int .i64 0) g.length w7.heap.size (by unfold maxLen; omega) (Nat.le_refl _)
  have hf8 : Frm w3 w8 [] := hf7.trans (Frm.below hb8)
  have HI8 := hide hI8
  have HF8 := hide hf8
  have HT8 := hide (hT7.below' hb8)
  have HX3 := hide hx3
  have HTB := hide htb
  have HS8 := hide hs8
  clear hnv hpl hpv hsp hb3 hcn hcp hT4 hT5 hT6 hT7 hb4 hb8 hI8 hf8 hf7 hx2 hx3 HSN HB2
  go_wp2_with fail
  clear a0 a0f a1 a1f a2 a2f hx7 hmk hw4 hw5 hw6 hw7 hw8 hs4 hs7 hs8 htb
  go_loopw [33] (fun z wr => ∃ i : Nat, i ≤ g.length ∧ z = .int .i64 (i : Nat) ∧ Hid (Own wr (tb + 1) 3 .i64 (.slice (some ⟨tb + 1, 0, none⟩) g.length g.length) (fz g.length (fun x => if x < i then -1 else 0))) ∧ Hid (Frm w8 wr [tb + 1])) (fun z _ => g.length - (intOf z).toNat)
  case atStart => exact ⟨0, Nat.zero_le _, rfl, HI8, hide (Frm.refl _ _)⟩
  case round =>
    clear HI8
    obtain ⟨wr, rfl⟩ : ∃ x, x = wr := ⟨_, rfl⟩
    obtain ⟨i, hi, rfl, HO, HF⟩ := hrel
    by_cases hlt : i < g.length
    · have hlt' : (i : Int) < g.length := by omega
      have c2 := HO.out.cellAt (fz_get (fun x => if x < i then -1 else 0) hlt)
      have c2f := HO.out.freeAt i
      have hset := HO.out.set i (-1)
      rw [fz_set (h := fun x => if x < i + 1 then -1 else 0) (by simp) (fun j hj => by
        by_cases e : j < i
        · simp [e]; omega
        · simp [e]; omega)] at hset
      have HX := hide (And.intro hset (HF.out.setCell (p := ⟨tb + 1, i, none⟩) (.int .i64 (-1)) (.inl (by simp))))
      clear hset
      go_wp2_with fail
      go_roundw
      case rel => exact ⟨i + 1, by omega, by go_num, hide HX.out.1, hide HX.out.2⟩
      case measure => simp [intOf]; omega
    · obtain rfl : i = g.length := by omega
      have HBR : Hid (Below w.heap.size w wr) := hide (HB3.out.trans ((HF8.out.mono (by simp)).trans' HF.out (T := [tb + 1]) (S := [tb + 1]) (fun _ h => .inl h) |>.toBelow (fun x hx => by rw [List.mem_singleton.1 hx]; have := HTB.out; have := HW3.out; omega) HW3.out))
      have hfr : Frm w3 wr [tb + 1] := (HF8.out.mono (by simp)).trans' HF.out (fun _ h => .inl h)
      have hrt : Whole wr tb 46 #[.slice An L.length cn, .slice (some ⟨q, 0, none⟩) g.length g.length, .slice Ap L.length cp] := (HF.out.block _ HT8.out.lt (by simp)).trans HT8.out
      have HRT := hide hrt
      have hcx : wr.cell? ⟨w.heap.size, 0, none⟩ = some (.slice A g.length c) := (hfr.cell (p := ⟨w.heap.size, 0, none⟩) (lt_of_cell HX3.out) (by show w.heap.size ∉ [tb + 1]; have := HTB.out; have := HW3.out; simp; omega)).trans HX3.out
      have HCX := hide hcx
      have d0 : wr.cell? ⟨tb, 0, none⟩ = some (.slice An L.length cn) := hrt.cell 0
      have d1 : wr.cell? ⟨tb, 1, none⟩ = some (.slice (some ⟨q, 0, none⟩) g.length g.length) := hrt.cell 1
      have d2 : wr.cell? ⟨tb, 2, none⟩ = some (.slice Ap L.length cp) := hrt.cell 2
      have off : ∀ v k b l, Own w3 b 3 k v l → ∀ x, v.ownBlock = some x → x ∉ [tb + 1] := fun v k b l h x hx hm => by
        have := (h.size x hx).2
        have := HTB.out
        rw [List.mem_singleton.1 hm] at *
        omega
      have HNR := hide (HNV.out.frmS hfr (off _ _ _ _ HNV.out))
      have HPLR := hide (HPLC.out.frmS hfr (off _ _ _ _ HPLC.out))
      have HPVR := hide (HPV.out.frmS hfr (off _ _ _ _ HPV.out))
      have HOFF : Hid (∀ x, (Value.slice An L.length cn).ownBlock = some x → x ≠ tb + 1) := hide (fun x hx => by
        have := (HNV.out.size x hx).2
        have := HTB.out
        omega)
      clear hfr hrt off HNV HPLC HPV HF8 HT8 HX3 hcx d0 d1 d2
      go_upto_region 10 with fail
      have HFD : Frm wr wr.drew [] := Frm.drew _ _
      replace HNR := hide (HNR.out.frmS HFD (fun _ _ => by simp))
      replace HPLR := hide (HPLR.out.frmS HFD (fun _ _ => by simp))
      replace HPVR := hide (HPVR.out.frmS HFD (fun _ _ => by simp))
      have HOR := hide (HO.out.frmS HFD (fun _ _ => by simp))
      have hrt : Whole wr.drew tb 46 #[.slice An L.length cn, .slice (some ⟨q, 0, none⟩) g.length g.length, .slice Ap L.length cp] := HRT.out
      have cc : wr.drew.cell? ⟨tb, 0, none⟩ = some (.slice An L.length cn) ∧ wr.drew.cell? ⟨tb, 1, none⟩ = some (.slice (some ⟨q, 0, none⟩) g.length g.length) ∧ wr.drew.cell? ⟨tb, 2, none⟩ = some (.slice Ap L.length cp) ∧ wr.drew.cell? ⟨w.heap.size, 0, none⟩ = some (.slice A g.length c) := ⟨hrt.cell 0, hrt.cell 1, hrt.cell 2, HCX.out⟩
      have HBD : Hid (Below w.heap.size w wr.drew) := hide HBR.out.drew
      have HWT := hide hrt
      clear HFD hrt HRT HCX HBR HO HF
      go_region_held3 (fun w' => w'.cell? ⟨tb, 0, none⟩ = some (.slice An L.length cn) ∧ w'.cell? ⟨tb, 1, none⟩ = some (.slice (some ⟨q, 0, none⟩) g.length g.length) ∧ w'.cell? ⟨tb, 2, none⟩ = some (.slice Ap L.length cp) ∧ w'.cell? ⟨w.heap.size, 0, none⟩ = some (.slice A g.length c)) (first | exact cc) (first | (go_at_call 34; refine (preds_any A c g _ (HG.out.below' HBD.out) HOK.out HE.out).mono ?_; rintro en wb ⟨PD, rfl, ⟨R, hR⟩, hb⟩; have HPD := hide hR; replace HNR := hide (HNR.out.below' hb); replace HPLR := hide (HPLR.out.below' hb); replace HPVR := hide (HPVR.out.below' hb); replace HOR := hide (HOR.out.below' hb); replace HWT := hide (HWT.out.below' hb); replace HBD := hide (HBD.out.trans (hb.mono HBD.out.size)); replace cc := And.intro (HWT.out.cell 0) (And.intro (HWT.out.cell 1) (And.intro (HWT.out.cell 2) ((hb.cell (p := ⟨w.heap.size, 0, none⟩) (lt_of_cell cc.2.2.2)).trans cc.2.2.2))); clear hb hR) | (go_at_call 33; refine (imm_at g e L P hokG hN HSP.out _ An (some ⟨q, 0, none⟩) Ap (some ⟨PD, 0, none⟩) cn g.length cp g.length HPL.out HNR.out.rd HPLR.out.rd HPVR.out.rd (preds_rd HPD.out)).mono ?_; rintro en wc ⟨D, dm, rfl, hD, hID, hdz, hb⟩; have HD := hide hD; have HID := hide hID; have HDZ := hide hdz; have HWB : Hid (tb + 1 < wb.heap.size) := hide (HOR.out.size (tb + 1) rfl).2; replace HNR := hide (HNR.out.below' hb); replace HOR := hide (HOR.out.below' hb); replace HWT := hide (HWT.out.below' hb); have HFR : Hid (w.heap.size ≤ wb.heap.size) := hide HBD.out.size; replace HBD := hide (HBD.out.trans (hb.mono HBD.out.size)); replace cc := And.intro (HWT.out.cell 0) (And.intro (HWT.out.cell 1) (And.intro (HWT.out.cell 2) ((hb.cell (p := ⟨w.heap.size, 0, none⟩) (lt_of_cell cc.2.2.2)).trans cc.2.2.2))); clear hb hD hID hdz))
      all_goals
        have HO0 : Hid (Own wc (tb + 1) 3 .i64 (.slice (some ⟨tb + 1, 0, none⟩) g.length g.length) (fz g.length (idfTo L dm 0))) := hide (by
          have := HOR.out
          rw [fz_ext (h := idfTo L dm 0) (fun x hx => by rw [if_pos hx]; unfold idfTo; rw [if_neg (fun d => Nat.not_lt_zero _ d.2)])] at this
          exact this)
        have hDt := (HD.out.size D rfl).1
        have hwt := HWB.out
        have HDT : Hid (D ≠ tb + 1) := hide (by omega)
        clear cc HOR hDt hwt
        go_wp2_with fail
        go_loopw [45] (fun z wx => ∃ i : Nat, i ≤ L.length ∧ z = .int .i64 (i : Nat) ∧ Hid (Own wx (tb + 1) 3 .i64 (.slice (some ⟨tb + 1, 0, none⟩) g.length g.length) (fz g.length (idfTo L dm i))) ∧ Hid (Frm wc wx [tb + 1])) (fun z _ => L.length - (intOf z).toNat)
        case atStart => exact ⟨0, Nat.zero_le _, rfl, HO0, hide (Frm.refl _ _)⟩
        case round =>
          clear HO0
          obtain ⟨wx, rfl⟩ : ∃ x, x = wr := ⟨_, rfl⟩
          obtain ⟨i, hi, rfl, HO, HF⟩ := hrel
          by_cases hlt : i < L.length
          · have hlt' : (i : Int) < L.length := by omega
            have hdi : dm i < L.length := by
              by_cases h0 : 0 < i
              · have := (HID.out i h0 hlt).lt; omega
              · have e0 : i = 0 := by omega
                rw [e0, HDZ.out]; omega
            have hdi' : (dm i : Int) < L.length := by omega
            obtain ⟨x, hx⟩ : ∃ x, L[i]? = some x := ⟨_, List.getElem?_eq_getElem hlt⟩
            obtain ⟨y, hy⟩ : ∃ y, L[dm i]? = some y := ⟨_, List.getElem?_eq_getElem hdi⟩
            have hxn := HSP.out.tail.bnd x (List.mem_of_getElem? hx)
            have hxn' : (x : Int) < g.length := by omega
            have k1 := (HD.out.frmS HF.out (own_off HD.out (fun e => HDT.out e.symm))).cellAt (fl_get dm hlt)
            have hnr := (HNR.out.frmS HF.out (fun g' hg' hm => HOFF.out g' hg' (List.mem_singleton.1 hm))).rd
            have hwt : Whole wx tb 46 #[.slice An L.length cn, .slice (some ⟨q, 0, none⟩) g.length g.length, .slice Ap L.length cp] := (HF.out.block _ HWT.out.lt (by simp)).trans HWT.out
            have k2 : wx.cell? ⟨tb, 0, none⟩ = some (.slice An L.length cn) := hwt.cell 0
            obtain ⟨b1, o1, e1, -, k3⟩ := rd_at hnr (k := i) (x := (x : Int)) (by rw [ints_get, hx]; rfl)
            subst e1
            obtain ⟨b2, o2, e2, -, k4⟩ := rd_at hnr (k := dm i) (x := (y : Int)) (by rw [ints_get, hy]; rfl)
            injection e2 with e2
            injection e2 with e2 e3
            subst e2 e3
            have k5 := HO.out.cellAt (fz_get (idfTo L dm i) hxn)
            have k5f := HO.out.freeAt x
            obtain ⟨st1, st2⟩ := idfTo_step HSP.out.tail.nodup hx hy
            have hset := HO.out.set x (y : Int)
            rw [fz_set (h := idfTo L dm (i + 1)) st1 st2] at hset
            have HX := hide (And.intro hset (HF.out.setCell (p := ⟨tb + 1, x, none⟩) (.int .i64 (y : Nat)) (.inl (by simp))))
            clear hset st1 st2 hwt hnr hx hy
            go_wp2_with fail
            go_still_tail 12, (by kernel_rfl)
            change wpList _ _ _ _ _ wx.drew
            go_wp2_with fail
            go_roundw
            case rel => exact ⟨i + 1, by omega, by go_num, hide HX.out.1, hide (HX.out.2.trans (Frm.drew _ _))⟩
            case measure => simp [intOf]; omega
          · obtain rfl : i = L.length := by omega
            have HZ := hide (And.intro (HO.out.low (b := w.heap.size) (by have := HTB.out; have := HW3.out; omega)) (HBD.out.trans (HF.out.toBelow (fun x hx => by rw [List.mem_singleton.1 hx]; have := HTB.out; have := HW3.out; omega) HBD.out.size)))
            clear HO HF
            go_wp2_with fail
            go_ret
            exact ⟨tb + 1, L, P, dm, rfl, HSP.out, HID.out, HDZ.out, HZ.out⟩
end Go.Proofs.Ytmopnceglnoncaa

/-
  Layer 6 (digraph): ShortestPath.
-/
import Derived.Test.YtaehfohljblmoaaShortMath
namespace Go.Proofs.Ytaehfohljblmoaa
open Go.RowKit

set_option maxRecDepth 100000 in
set_option maxHeartbeats 2000000 in
theorem short_bad (A : Option Addr) (c : Nat) (g : List (List Int)) (s t : Int) (w : World) (hg : RdL w A c g) (hbad : codeG g ≠ 0 ∨ ¬ (0 ≤ s ∧ s < g.length) ∨ ¬ (0 ≤ t ∧ t < g.length)) :
    Calls Try.prog 24 #[.agg #[.slice A g.length c], .int .i64 s, .int .i64 t] w fun en w' => en = .returned (.slice none 0 0) ∧ Below w.heap.size w w' := by
  have HA : Hid (Below w.heap.size w (w.alloc (.cells #[.slice A g.length c] 24))) := hide ((Below.refl _ _).alloc (Nat.le_refl _) _)
  have HG : Hid (RdL (w.alloc (.cells #[.slice A g.length c] 24)) A c g) := hide (hg.below' HA.out)
  have hx : (w.alloc (.cells #[.slice A g.length c] 24)).cell? ⟨w.heap.size, 0, none⟩ = some (.slice A g.length c) := by simp [go_sem]
  clear hg
  by_cases hc : codeG g = 0
  · have hbad2 := hbad.resolve_left (fun h => h hc)
    have HC := check_any A c g _ HG.out
    rw [hc] at HC
    have HCh := hide HC
    clear HC hbad hc
    by_cases hs : 0 ≤ s ∧ s < (g.length : Int)
    · have hsd : decide (0 ≤ s ∧ s < (g.length : Int)) = true := decide_eq_true hs
      have htd : decide (0 ≤ t ∧ t < (g.length : Int)) = false := decide_eq_false (hbad2.resolve_left (fun h => h hs))
      clear hbad2 hs
      go_enter Try.func24, Try.ntmps24
      go_wp2_with fail
      refine HCh.out.mono ?_
      rintro en w2 ⟨rfl, hb⟩
      have hx2 : w2.cell? ⟨w.heap.size, 0, none⟩ = some (.slice A g.length c) := (hb.cell (p := ⟨w.heap.size, 0, none⟩) (lt_of_cell hx)).trans hx
      have HB : Hid (Below w.heap.size w w2) := hide (HA.out.trans (hb.mono HA.out.size))
      clear hb HCh hx
      go_wp2_with fail
      refine (isNode_any _ _ _ _ _).mono ?_
      rintro en w3 ⟨rfl, hb⟩
      have hx3 : w3.cell? ⟨w.heap.size, 0, none⟩ = some (.slice A g.length c) := (hb.cell (p := ⟨w.heap.size, 0, none⟩) (lt_of_cell hx2)).trans hx2
      have HB3 : Hid (Below w.heap.size w w3) := hide (HB.out.trans (hb.mono HB.out.size))
      rw [hsd]
      clear hb hx2 HB hsd
      go_wp2_with fail
      refine (isNode_any _ _ _ _ _).mono ?_
      rintro en w4 ⟨rfl, hb⟩
      have HB4 : Hid (Below w.heap.size w w4) := hide (HB3.out.trans (hb.mono HB3.out.size))
      rw [htd]
      clear hb hx3 HB3 htd
      go_wp2_with fail
      go_ret
      exact ⟨rfl, HB4.out⟩
    · have hsd : decide (0 ≤ s ∧ s < (g.length : Int)) = false := decide_eq_false hs
      clear hbad2 hs
      go_enter Try.func24, Try.ntmps24
      go_wp2_with fail
      refine HCh.out.mono ?_
      rintro en w2 ⟨rfl, hb⟩
      have hx2 : w2.cell? ⟨w.heap.size, 0, none⟩ = some (.slice A g.length c) := (hb.cell (p := ⟨w.heap.size, 0, none⟩) (lt_of_cell hx)).trans hx
      have HB : Hid (Below w.heap.size w w2) := hide (HA.out.trans (hb.mono HA.out.size))
      clear hb HCh hx
      go_wp2_with fail
      refine (isNode_any _ _ _ _ _).mono ?_
      rintro en w3 ⟨rfl, hb⟩
      have HB3 : Hid (Below w.heap.size w w3) := hide (HB.out.trans (hb.mono HB.out.size))
      rw [hsd]
      clear hb hx2 HB hsd
      go_wp2_with fail
      go_ret
      exact ⟨rfl, HB3.out⟩
  · have hc' : (codeG g == 0) = false := by simpa using hc
    clear hbad
    go_enter Try.func24, Try.ntmps24
    go_wp2_with fail
    refine (check_any _ _ _ _ HG.out).mono ?_
    rintro en w2 ⟨rfl, hb⟩
    have HB : Hid (Below w.heap.size w w2) := hide (HA.out.trans (hb.mono HA.out.size))
    clear hb hx
    go_wp2_with fail
    go_ret
    exact ⟨rfl, HB.out⟩

set_option maxRecDepth 100000 in
set_option maxHeartbeats 4000000 in
theorem short_any (A : Option Addr) (c : Nat) (g : List (List Int)) (s t : Nat) (w : World) (hg : RdL w A c g) (hok : codeG g = 0) (hE : edges g ≤ 1000000) (hs : s < g.length) (ht : t < g.length) :
    Calls Try.prog 24 #[.agg #[.slice A g.length c], .int .i64 (s : Nat), .int .i64 (t : Nat)] w fun en w' => (∃ ov, en = .returned ov ∧ Own w' w.heap.size 3 .i64 ov (ints (short g s t))) ∧ Below w.heap.size w w' := by
  obtain ⟨b, off, -, -, rfl, -, -, -⟩ := hg.at (List.getElem?_eq_getElem hs)
  have hc := hg.cap
  have hc9 : c ≤ 9223372036854775807 := by unfold maxLen at hc; omega
  have HA : Hid (Below w.heap.size w (w.alloc (.cells #[.slice (some ⟨b, off, none⟩) g.length c] 24))) := hide ((Below.refl _ _).alloc (Nat.le_refl _) _)
  have HG : Hid (RdL (w.alloc (.cells #[.slice (some ⟨b, off, none⟩) g.length c] 24)) (some ⟨b, off, none⟩) c g) := hide (hg.below' HA.out)
  have hx : (w.alloc (.cells #[.slice (some ⟨b, off, none⟩) g.length c] 24)).cell? ⟨w.heap.size, 0, none⟩ = some (.slice (some ⟨b, off, none⟩) g.length c) := by simp [go_sem]
  have hsd : decide (0 ≤ (s : Int) ∧ (s : Int) < (g.length : Int)) = true := decide_eq_true (by omega)
  have htd : decide (0 ≤ (t : Int) ∧ (t : Int) < (g.length : Int)) = true := decide_eq_true (by omega)
  have hs' : (s : Int) < g.length := by omega
  have HC := check_any (some ⟨b, off, none⟩) c g _ HG.out
  rw [hok] at HC
  have HCh := hide HC
  have HOk := hide hok
  have HO := hide (code_ok hok).1
  have hn := (code_ok hok).2
  have HEd := hide hE
  clear HC hok hE hc hg
  go_enter Try.func24, Try.ntmps24
  go_wp2_with fail
  refine HCh.out.mono ?_
  rintro en w2 ⟨rfl, hb⟩
  have hx2 : w2.cell? ⟨w.heap.size, 0, none⟩ = some (.slice (some ⟨b, off, none⟩) g.length c) := (hb.cell (p := ⟨w.heap.size, 0, none⟩) (lt_of_cell hx)).trans hx
  have HB : Hid (Below w.heap.size w w2) := hide (HA.out.trans (hb.mono HA.out.size))
  have HG2 := hide (HG.out.below' hb)
  clear hb HCh hx HG HA
  go_wp2_with fail
  refine (isNode_any _ _ _ _ _).mono ?_
  rintro en w3 ⟨rfl, hb⟩
  have hx3 : w3.cell? ⟨w.heap.size, 0, none⟩ = some (.slice (some ⟨b, off, none⟩) g.length c) := (hb.cell (p := ⟨w.heap.size, 0, none⟩) (lt_of_cell hx2)).trans hx2
  have HB3 : Hid (Below w.heap.size w w3) := hide (HB.out.trans (hb.mono HB.out.size))
  have HG3 := hide (HG2.out.below' hb)
  rw [hsd]
  clear hb hx2 HB hsd HG2
  go_wp2_with fail
  refine (isNode_any _ _ _ _ _).mono ?_
  rintro en w4 ⟨rfl, hb⟩
  have hx4 : w4.cell? ⟨w.heap.size, 0, none⟩ = some (.slice (some ⟨b, off, none⟩) g.length c) := (hb.cell (p := ⟨w.heap.size, 0, none⟩) (lt_of_cell hx3)).trans hx3
  have HB4 : Hid (Below w.heap.size w w4) := hide (HB3.out.trans (hb.mono HB3.out.size))
  have HG4 := hide (HG3.out.below' hb)
  rw [htd]
  clear hb hx3 HB3 htd HG3
  go_wp2_with fail
  refine (reverse_any _ _ _ _ HG4.out HOk.out HEd.out).mono ?_
  rintro en w5 ⟨D, rfl, ⟨R, hL⟩, hb⟩
  have hx5 : w5.cell? ⟨w.heap.size, 0, none⟩ = some (.slice (some ⟨b, off, none⟩) g.length c) := (hb.cell (p := ⟨w.heap.size, 0, none⟩) (lt_of_cell hx4)).trans hx4
  have HB5 : Hid (Below w.heap.size w w5) := hide (HB4.out.trans (hb.mono HB4.out.size))
  have HG5 := hide (HG4.out.below' hb)
  have hRl : R.length = g.length := by rw [hL.len, rev_len]
  have HD := dist_any (some ⟨D, 0, none⟩) R.length (rev g) t w5 hL.rd (rev_ok g) (by rw [rev_len]; exact hn) (by rw [rev_len]; exact ht)
  rw [rev_len, hRl] at HD
  have HDh := hide HD
  have hgood := dist_good (v := t) (rev_ok g) (by rw [rev_len]; exact ht)
  rw [rev_len] at hgood
  obtain ⟨dl, hdl⟩ : ∃ dl, dl = dist (rev g) t := ⟨_, rfl⟩
  rw [← hdl] at hgood
  have HGd := hide hgood
  have HDl := hide hdl
  clear hb hx4 HB4 HG4 hL hRl HD hgood hdl
  go_wp2_with fail
  refine HDh.out.mono ?_
  rintro en w6 ⟨D2, rfl, ho, hb⟩
  rw [← HDl.out] at ho
  obtain ⟨w7, hw7⟩ : ∃ x, w6.alloc (.cells #[.slice (some ⟨D2, 0, none⟩) g.length g.length] 36) = x := ⟨_, rfl⟩
  have hb67 : Below w6.heap.size w6 w7 := by rw [← hw7]; exact (Below.refl _ _).alloc (Nat.le_refl _) _
  have hs7 : w7.heap.size = w6.heap.size + 1 := by rw [← hw7, World.size_alloc]
  have hx7 : w7.cell? ⟨w.heap.size, 0, none⟩ = some (.slice (some ⟨b, off, none⟩) g.length c) := (hb67.cell (p := ⟨w.heap.size, 0, none⟩) (Nat.lt_of_lt_of_le (lt_of_cell hx5) hb.size)).trans ((hb.cell (p := ⟨w.heap.size, 0, none⟩) (lt_of_cell hx5)).trans hx5)
  have hlp : w7.cell? ⟨w6.heap.size, 0, none⟩ = some (.slice (some ⟨D2, 0, none⟩) g.length g.length) := by rw [← hw7]; simp [go_sem]
  have HB7 : Hid (Below w.heap.size w w7) := hide ((HB5.out.trans (hb.mono HB5.out.size)).trans (hb67.mono (HB5.out.trans (hb.mono HB5.out.size)).size))
  have HG7 := hide ((HG5.out.below' hb).below' hb67)
  have HO7 := hide (ho.below' hb67)
  have hds : w7.cell? ⟨D2, s, none⟩ = some (.int .i64 (dl.getD s 0)) := HO7.out.cellAt (getD_get (by rw [HGd.out.len]; exact hs))
  have hD2 : D2 < w7.heap.size := (HO7.out.size D2 rfl).2
  obtain ⟨e, he⟩ : ∃ e, dl.getD s 0 = e := ⟨_, rfl⟩
  rw [he] at hds
  have HEs := hide he
  have hs7' := hide hs7
  have hB7 : ∀ W : World, Below w7.heap.size w7 W → W.cell? ⟨w.heap.size, 0, none⟩ = some (.slice (some ⟨b, off, none⟩) g.length c) ∧ W.cell? ⟨w6.heap.size, 0, none⟩ = some (.slice (some ⟨D2, 0, none⟩) g.length g.length) := fun W hW => ⟨(hW.cell (p := ⟨w.heap.size, 0, none⟩) (lt_of_cell hx7)).trans hx7, (hW.cell (p := ⟨w6.heap.size, 0, none⟩) (lt_of_cell hlp)).trans hlp⟩
  have HB9 := hide hB7
  clear hb hb67 ho hx5 hs7 he hB7 HB5 HG5 HDh
  by_cases he1 : e = -1
  · subst he1
    go_wp2_with fail
    go_ret
    refine ⟨⟨.slice none 0 0, rfl, ?_⟩, HB7.out⟩
    have e9 : short g s t = [] := by unfold short; rw [← HDl.out, HEs.out, if_pos rfl]
    rw [e9]
    exact Own.nil
  · have he1' : (e == -1) = false := by simpa using he1
    have he0 : 0 ≤ e := by
      have := (HGd.out.rng s hs).1
      rw [HEs.out] at this
      omega
    obtain ⟨k, rfl⟩ : ∃ k : Nat, e = k := ⟨e.toNat, by omega⟩
    have hkn : k ≤ g.length := by
      have := (HGd.out.rng s hs).2
      rw [HEs.out] at this
      omega
    have HSt : Hid (Own ((w7.alloc (.cells #[.int .i64 (s : Nat)] 3)).alloc (.cells #[.int .i64 (s : Nat)] 3)) w7.heap.size 3 .i64 (.slice (some ⟨w7.heap.size, 0, none⟩) 1 1) (ints [s]) ∧ Whole ((w7.alloc (.cells #[.int .i64 (s : Nat)] 3)).alloc (.cells #[.int .i64 (s : Nat)] 3)) (w7.heap.size + 1) 3 #[.int .i64 (s : Nat)] ∧ Below w7.heap.size w7 ((w7.alloc (.cells #[.int .i64 (s : Nat)] 3)).alloc (.cells #[.int .i64 (s : Nat)] 3))) := hide ⟨(own_one w7 w7.heap.size 3 (s : Int) (Nat.le_refl _)).alloc _, by
      have := Whole.new (w7.alloc (.cells #[.int .i64 (s : Nat)] 3)) 3 #[.int .i64 (s : Nat)]
      rw [World.size_alloc] at this
      exact this, ((Below.refl _ _).alloc (Nat.le_refl _) _).alloc (by simp) _⟩
    go_wp2_with fail
    clear hw7 hds
    go_loopg [8, 9] k (fun q z8 z9 wr => ∃ (u np : Nat) (p : List Nat), z9 = .pointer (some ⟨np, 0, none⟩) ∧ Hid (u < g.length ∧ dl.getD u 0 = (q : Nat)) ∧ Hid (p ++ spath g dl q u = s :: spath g dl k s) ∧ Hid (p.length + q = k + 1) ∧ Hid (Own wr w7.heap.size 3 .i64 z8 (ints p)) ∧ Hid (Whole wr np 3 #[.int .i64 (u : Nat)]) ∧ Hid (w7.heap.size ≤ np) ∧ Hid (∀ x, z8.ownBlock = some x → x ≠ np) ∧ Hid (Below w7.heap.size w7 wr))
    case atStart => exact ⟨s, w7.heap.size + 1, [s], rfl, hide ⟨hs, HEs.out⟩, hide rfl, hide (by simp; omega), hide HSt.out.1, hide HSt.out.2.1, hide (by omega), hide (fun x hx => by
      have e9 : x = w7.heap.size := by simpa [Value.ownBlock] using hx.symm
      omega), hide HSt.out.2.2⟩
    case round =>
      clear HSt
      obtain ⟨wz, rfl⟩ : ∃ x, x = wr := ⟨_, rfl⟩
      obtain ⟨q, rfl⟩ : ∃ x, x = gk := ⟨_, rfl⟩
      obtain ⟨u, np, p, rfl, HU, HP, HPl, HOw, HNp, HNl, HAp, HBl⟩ := hrel
      have cn : wz.cell? ⟨np, 0, none⟩ = some (.int .i64 (u : Nat)) := HNp.out.cell 0
      have fnp : wz.frozen? ⟨np, 0, none⟩ = false := HNp.out.free 0
      obtain ⟨cbx, clp⟩ := HB9.out wz HBl.out
      by_cases hut : u = t
      · subst hut
        have hq0 : q = 0 := by
          have h1 := HGd.out.dv
          have h2 := HU.out.2
          omega
        subst hq0
        have HPe : Hid (p = short g s u) := hide (by
          have h := HP.out
          unfold spath at h
          rw [List.append_nil] at h
          unfold short
          rw [← HDl.out, HEs.out, if_neg (by omega), Int.toNat_natCast]
          rw [h]
          cases k <;> rfl)
        go_wp2_with fail
        go_ret
        have h9 := HOw.out
        rw [HPe.out] at h9
        exact ⟨⟨_, rfl, h9.low HB7.out.size⟩, HB7.out.trans (HBl.out.mono HB7.out.size)⟩
      · have hut' : ¬ ((u : Int) = (t : Int)) := by omega
        have hutb : ((u : Int) == (t : Int)) = false := beq_eq_false_iff_ne.2 hut'
        have hun : u < g.length := HU.out.1
        have hun' : (u : Int) < g.length := by omega
        obtain ⟨q, rfl⟩ : ∃ q', q = q' + 1 := by
          cases q with
          | succ q => exact ⟨q, rfl⟩
          | zero => exact absurd (HGd.out.zero u hun (by have := HU.out.2; omega)) hut
        obtain ⟨x, hx, hxn, hxs, hxd, -⟩ := next_spec (k := q) HO.out HGd.out hun (by rw [HU.out.2]; rfl)
        obtain ⟨l, hl⟩ : ∃ l, g[u]? = some l := ⟨_, List.getElem?_eq_getElem hun⟩
        rw [getD_of hl] at hx
        obtain ⟨b', off', B, d, eA, hbl, hcell, hrow⟩ := (HG7.out.below' HBl.out).at hl
        injection eA with eA
        injection eA with eA eB
        subst eA eB
        have HLe := hide (least_any wz g.length w5.heap.size D2 w6.heap.size np u dl hn clp cn (HO7.out.below' HBl.out) HGd.out.len hun (by have := HGd.out.rng u hun; omega) _ l hrow (fun i m hm => ok_node HO.out hl hm))
        rw [hx] at HLe
        obtain ⟨_, _, e3, hd, hm, -⟩ := hrow
        injection e3 with e3 e4 e5
        subst e3 e5
        have hd9 : d ≤ 9223372036854775807 := by unfold maxLen at hm; omega
        have HX := hide (And.intro hx (And.intro hxn hxd))
        have HLg := hide hl
        clear hm hx hxn hxs hxd hl e4 hut
        go_wp2_with fail
        refine HLe.out.mono ?_
        rintro en w8 ⟨rfl, m, rfl⟩
        obtain ⟨w9, hw9⟩ : ∃ y, (wz.drewN m).setCell ⟨np, 0, none⟩ (.int .i64 (x : Nat)) = y := ⟨_, rfl⟩
        have hf9 : Frm wz w9 [np] := by rw [← hw9]; exact ((Frm.refl wz [np]).drewN m).setCell _ _ (.inl (by simp))
        have hN9 : Whole w9 np 3 #[.int .i64 (x : Nat)] := by rw [← hw9]; exact Whole.set (w := wz.drewN m) HNp.out 0 _
        have c9 : w9.cell? ⟨np, 0, none⟩ = some (.int .i64 (x : Nat)) := hN9.cell 0
        have ho9 := HOw.out.frmS hf9 (fun y hy => by simp; exact HAp.out y hy)
        have hf10 : Frm w9 (w9.alloc (.cells #[.int .i64 (x : Nat)] 3)) [] := (Frm.refl w9 []).alloc _
        have HO9 := hide ho9
        have HF9 := hide (And.intro hf9 (And.intro hN9 hf10))
        have hple : p.length ≤ 65537 := by have := HPl.out; omega
        obtain ⟨A8, c8, rfl, -, -, -⟩ := ho9.rd
        clear HLe hf9 hN9 ho9 hf10 hcell
        go_wp2_with (first | (refine wpList_append_v _ rfl _ _ 36 rfl w7.heap.size 3 (.int .i64 0) 8 intV _ ((ints p).map (Value.int .i64)) rfl (HO9.out.alloc _).toV _ [.int .i64 (x : Nat)] rfl (rdv_one w9 3 _) ?b0 ?b1 ?b2 ?b3 ?_))
        case b0 => intro y hy; rw [List.mem_singleton.1 hy]; rfl
        case b1 => rw [List.length_map, ints_len, List.length_singleton]; omega
        case b2 => rw [List.length_map, ints_len, List.length_singleton]; unfold maxLen; omega
        case b3 => exact Nat.le_trans (Nat.le_trans HBl.out.size HF9.out.1.size) HF9.out.2.2.size
        intro v' w10 ho10 hf11 hb10
        have ho11 : Own w10 w7.heap.size 3 .i64 v' (ints (p ++ [x])) := OwnV.toI (by rw [show ints (p ++ [x]) = ints p ++ [(x : Int)] by simp [ints], List.map_append]; exact ho10)
        have hnp : np ∉ (Value.slice A8 (ints p).length c8).ownBlock.toList := fun h => HAp.out np (by simpa using h) rfl
        have hN10 : Whole w10 np 3 #[.int .i64 (x : Nat)] := (HF9.out.2.1.frm HF9.out.2.2 (by simp)).frm hf11 hnp
        have c10 : w10.cell? ⟨np, 0, none⟩ = some (.int .i64 (x : Nat)) := hN10.cell 0
        have hB10 : Below w7.heap.size w7 w10 := ((HBl.out.trans (HF9.out.1.toBelow (fun y hy => by rw [List.mem_singleton.1 hy]; exact HNl.out) HBl.out.size)).trans (HF9.out.2.2.toBelow (by simp) (Nat.le_trans HBl.out.size HF9.out.1.size))).trans (hf11.toBelow (fun y hy => (HOw.out.size y (by simpa using hy)).1) (Nat.le_trans (Nat.le_trans HBl.out.size HF9.out.1.size) HF9.out.2.2.size))
        have HZ := hide (And.intro (ho11.alloc (.cells #[.int .i64 (x : Nat)] 3)) (And.intro (Whole.new w10 3 #[.int .i64 (x : Nat)]) (And.intro (hB10.alloc hB10.size (.cells #[.int .i64 (x : Nat)] 3)) hB10.size)))
        have HV : Hid (∀ y, v'.ownBlock = some y → y ≠ w10.heap.size) := hide fun y hy => Nat.ne_of_lt (ho11.size y hy).2
        have HPn : Hid ((p ++ [x]) ++ spath g dl q x = s :: spath g dl k s) := hide (by
          have h : p ++ ((lst (nearer dl u) (g.getD u [])).toNat :: spath g dl q (lst (nearer dl u) (g.getD u [])).toNat) = s :: spath g dl k s := HP.out
          rw [getD_of HLg.out, HX.out.1, Int.toNat_natCast] at h
          rw [List.append_assoc]
          exact h)
        clear ho10 ho11 hf11 hb10 hnp hN10 hB10 HO9 HF9
        go_wp2_with fail
        go_roundg q
        case measure => omega
        case rel => exact ⟨x, w10.heap.size, p ++ [x], rfl, hide ⟨HX.out.2.1, HX.out.2.2⟩, HPn, hide (by have := HPl.out; simp; omega), hide HZ.out.1, hide HZ.out.2.1, hide HZ.out.2.2.2, HV, hide HZ.out.2.2.1⟩
end Go.Proofs.Ytaehfohljblmoaa

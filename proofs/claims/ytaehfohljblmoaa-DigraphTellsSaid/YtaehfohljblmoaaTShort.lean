/-
  Layer 6 (digraph), the reference: ShortestPath.
-/
import Derived.Test.YtaehfohljblmoaaTDist
import Derived.Test.YtaehfohljblmoaaTRev
import Derived.Test.YtaehfohljblmoaaLeast
namespace Go.Proofs.Ytaehfohljblmoaa
open Go.RowKit

theorem Own.one_else {w : World} {b1 b2 D : Nat} {e1 e2 : TypeId} {k1 k2 : IntKind} {v : Value} {l m : List Int} {n c : Nat} (_h : Own w b1 e1 k1 v l) (k : Own w b2 e2 k2 (.slice (some ⟨D, 0, none⟩) n c) m) (hv : v.ownBlock ≠ some D) {w' : World} (hf : Frm w w' v.ownBlock.toList) : Own w' b2 e2 k2 (.slice (some ⟨D, 0, none⟩) n c) m :=
  k.frmS hf (fun g hg h => hv (by
    have e : g = D := by simpa [Value.ownBlock] using hg.symm
    subst e
    simpa using h))

set_option maxRecDepth 100000 in
set_option maxHeartbeats 2000000 in
theorem rshort_bad (A : Option Addr) (c : Nat) (g : List (List Int)) (s t : Int) (w : World) (hg : RdL w A c g) (hbad : ¬ (codeG g = 0 ∧ 0 ≤ s ∧ s < g.length) ∨ ¬ (codeG g = 0 ∧ 0 ≤ t ∧ t < g.length)) :
    Calls Try.prog 25 #[.agg #[.slice A g.length c], .int .i64 s, .int .i64 t] w fun en w' => en = .returned (.slice none 0 0) ∧ Below w.heap.size w w' := by
  have HA : Hid (Below w.heap.size w (w.alloc (.cells #[.slice A g.length c] 24))) := hide ((Below.refl _ _).alloc (Nat.le_refl _) _)
  have HG := hide (hg.below' HA.out)
  have hx : (w.alloc (.cells #[.slice A g.length c] 24)).cell? ⟨w.heap.size, 0, none⟩ = some (.slice A g.length c) := by simp [go_sem]
  by_cases hs : codeG g = 0 ∧ 0 ≤ s ∧ s < g.length
  · have HK := rok_any A c g s _ HG.out
    rw [decide_eq_true hs] at HK
    have HKh := hide HK
    have hbt := hbad.resolve_left (fun h => h hs)
    have HBT := hide hbt
    clear hg hbad HK hs hbt
    go_enter Try.func25, Try.ntmps25
    go_wp2_with fail
    refine HKh.out.mono ?_
    rintro en w2 ⟨rfl, hb⟩
    have HB := hide (HA.out.trans (hb.mono HA.out.size))
    have hx2 : w2.cell? ⟨w.heap.size, 0, none⟩ = some (.slice A g.length c) := (hb.cell (p := ⟨w.heap.size, 0, none⟩) (lt_of_cell hx)).trans hx
    have HK2 := rok_any A c g t _ (HG.out.below' hb)
    rw [decide_eq_false HBT.out] at HK2
    have HKh2 := hide HK2
    clear hb HA HG HKh hx HK2
    go_wp2_with fail
    refine HKh2.out.mono ?_
    rintro en w3 ⟨rfl, hb⟩
    have HZ := hide (HB.out.trans (hb.mono HB.out.size))
    clear hb HKh2 hx2
    go_wp2_with fail
    go_ret
    exact ⟨rfl, HZ.out⟩
  · have HK := rok_any A c g s _ HG.out
    rw [decide_eq_false hs] at HK
    have HKh := hide HK
    clear hg hbad HK hs
    go_enter Try.func25, Try.ntmps25
    go_wp2_with fail
    refine HKh.out.mono ?_
    rintro en w2 ⟨rfl, hb⟩
    have HZ := hide (HA.out.trans (hb.mono HA.out.size))
    clear hb HA HKh hx
    go_wp2_with fail
    go_ret
    exact ⟨rfl, HZ.out⟩

set_option maxRecDepth 100000 in
set_option maxHeartbeats 8000000 in
theorem rshort_any (A : Option Addr) (c : Nat) (g : List (List Int)) (s t : Nat) (w : World) (hg : RdL w A c g) (hok : codeG g = 0) (hs : s < g.length) (ht : t < g.length) :
    Calls Try.prog 25 #[.agg #[.slice A g.length c], .int .i64 (s : Nat), .int .i64 (t : Nat)] w fun en w' => (∃ ov, en = .returned ov ∧ Own w' w.heap.size 3 .i64 ov (ints (short g s t))) ∧ Below w.heap.size w w' := by
  have HA : Hid (Below w.heap.size w (w.alloc (.cells #[.slice A g.length c] 24))) := hide ((Below.refl _ _).alloc (Nat.le_refl _) _)
  have HG := hide (hg.below' HA.out)
  have hx : (w.alloc (.cells #[.slice A g.length c] 24)).cell? ⟨w.heap.size, 0, none⟩ = some (.slice A g.length c) := by simp [go_sem]
  have hN := (code_ok hok).2
  have HO := hide (code_ok hok).1
  have HOK := hide hok
  have hs' : (s : Int) < g.length := by omega
  have HK := rok_any A c g s _ HG.out
  rw [decide_eq_true (⟨hok, by omega, by omega⟩ : codeG g = 0 ∧ 0 ≤ (s : Int) ∧ (s : Int) < g.length)] at HK
  have HKh := hide HK
  clear hg HK hok
  go_enter Try.func25, Try.ntmps25
  go_wp2_with fail
  refine HKh.out.mono ?_
  rintro en w2 ⟨rfl, hb⟩
  have HB := hide (HA.out.trans (hb.mono HA.out.size))
  have HG2 := hide (HG.out.below' hb)
  have hx2 : w2.cell? ⟨w.heap.size, 0, none⟩ = some (.slice A g.length c) := (hb.cell (p := ⟨w.heap.size, 0, none⟩) (lt_of_cell hx)).trans hx
  have HK2 := rok_any A c g t _ HG2.out
  rw [decide_eq_true (⟨HOK.out, by omega, by omega⟩ : codeG g = 0 ∧ 0 ≤ (t : Int) ∧ (t : Int) < g.length)] at HK2
  have HKh2 := hide HK2
  clear hb HA HG HKh hx HK2
  go_wp2_with fail
  refine HKh2.out.mono ?_
  rintro en w3 ⟨rfl, hb⟩
  have HB3 := hide (HB.out.trans (hb.mono HB.out.size))
  have HG3 := hide (HG2.out.below' hb)
  have hx3 : w3.cell? ⟨w.heap.size, 0, none⟩ = some (.slice A g.length c) := (hb.cell (p := ⟨w.heap.size, 0, none⟩) (lt_of_cell hx2)).trans hx2
  clear hb HKh2 hx2 HB HG2
  go_wp2_with fail
  refine (rdist_any A c g t _ HG3.out HO.out hN ht).mono ?_
  rintro en w4 ⟨D1, rfl, hD, hb⟩
  have hgood := revGood (g := g) ht
  have hr := hgood.rng s hs
  have ds := hD.cellAt (getD_get (d := dist (rev g) t) (x := s) (by rw [hgood.len]; exact hs))
  have HB4 := hide hb
  have HD := hide hD
  have HGD := hide hgood
  have hx4 : w4.cell? ⟨w.heap.size, 0, none⟩ = some (.slice A g.length c) := (hb.cell (p := ⟨w.heap.size, 0, none⟩) (lt_of_cell hx3)).trans hx3
  have HX := hide hx3
  clear hb hD hgood
  by_cases hm1 : (dist (rev g) t).getD s 0 = -1
  · have e : short g s t = [] := by unfold short; rw [if_pos hm1]
    rw [hm1] at ds
    have HZ := hide (HB3.out.trans (HB4.out.mono HB3.out.size))
    have HE := hide e
    clear e hm1 hr
    go_wp2_with fail
    go_ret
    exact ⟨⟨_, rfl, by rw [HE.out]; exact Own.nil⟩, HZ.out⟩
  · obtain ⟨K, hK⟩ : ∃ K : Nat, (dist (rev g) t).getD s 0 = K := ⟨((dist (rev g) t).getD s 0).toNat, by omega⟩
    have HSH := hide (show [s] ++ spath g (dist (rev g) t) K s = short g s t by
      unfold short
      rw [if_neg hm1, hK, Int.toNat_natCast]
      rfl)
    have hKn : K ≤ g.length := by omega
    have HK0 := hide hK
    rw [hK] at ds
    have hKneg : decide ((K : Int) < 0) = false := decide_eq_false (by omega)
    obtain ⟨w5, hw5⟩ : ∃ x, w4.alloc (.cells #[.int .i64 (s : Nat)] 3) = x := ⟨_, rfl⟩
    have hb5 : Below w4.heap.size w4 w5 := by rw [← hw5]; exact (Below.refl _ _).alloc (Nat.le_refl _) _
    have HO5 : Hid (Own w5 w3.heap.size 3 .i64 (.slice (some ⟨w4.heap.size, 0, none⟩) 1 1) (ints [s])) := hide (by rw [← hw5]; exact own_one w4 w3.heap.size 3 (s : Int) HB4.out.size)
    have HD5 := hide (HD.out.below' hb5)
    have HB5 := hide (HB4.out.trans (hb5.mono HB4.out.size))
    have hDl := (HD.out.size D1 rfl).2
    clear hr hm1 hK hb5 HD HB4
    go_wp2_with fail
    clear hw5 ds hx4
    go_loopg [1, 8] K (fun q z v wr => ∃ (u : Nat) (acc : List Nat), z = .int .i64 u ∧ u < g.length ∧ Hid ((dist (rev g) t).getD u 0 = (q : Int)) ∧ Hid (acc ++ spath g (dist (rev g) t) q u = short g s t) ∧ Hid (acc.length + q ≤ g.length + 1) ∧ Hid (Own wr w3.heap.size 3 .i64 v (ints acc)) ∧ Hid (Own wr w3.heap.size 3 .i64 (.slice (some ⟨D1, 0, none⟩) g.length g.length) (dist (rev g) t)) ∧ Hid (v.ownBlock ≠ some D1) ∧ Hid (Below w3.heap.size w3 wr))
    case atStart => exact ⟨s, [s], rfl, hs, HK0, HSH, hide (by simp; omega), HO5, HD5, hide (by simp [Value.ownBlock]; omega), HB5⟩
    case round =>
      clear HK0 HSH HO5 HD5 HB5
      obtain ⟨wq, rfl⟩ : ∃ x, x = wr := ⟨_, rfl⟩
      obtain ⟨q, rfl⟩ : ∃ x, x = gk := ⟨_, rfl⟩
      obtain ⟨v, rfl⟩ : ∃ x, x = u8 := ⟨_, rfl⟩
      obtain ⟨u, acc, rfl, hu, hdu, hsh, hql, HOw, HDw, hne, HBw⟩ := hrel
      cases q with
      | zero =>
        have hut := HGD.out.zero u hu hdu.out
        subst hut
        have e : acc = short g s u := by have := hsh.out; rw [spath, List.append_nil] at this; exact this
        subst e
        have HZ := hide (And.intro (HOw.out.low HB3.out.size) (HB3.out.trans (HBw.out.mono HB3.out.size)))
        go_wp2_with fail
        go_ret
        exact ⟨⟨v, rfl, HZ.out.1⟩, HZ.out.2⟩
      | succ q =>
        have hut : u ≠ t := fun c => by have h1 := hdu.out; rw [c, HGD.out.dv] at h1; omega
        have hut1 : ((u : Int) == (t : Int)) = false := by simp; omega
        have hut2 : (u == t) = false := by simpa using hut
        obtain ⟨x, hx, hxn, hxs, hxd, -⟩ := next_spec HO.out HGD.out hu (k := q) (by have := hdu.out; omega)
        have hu' : (u : Int) < g.length := by omega
        have hx4 : wq.cell? ⟨w.heap.size, 0, none⟩ = some (.slice A g.length c) := (HBw.out.cell (p := ⟨w.heap.size, 0, none⟩) (lt_of_cell HX.out)).trans HX.out
        obtain ⟨l, hl⟩ : ∃ l, g[u]? = some l := ⟨_, List.getElem?_eq_getElem hu⟩
        rw [getD_of hl] at hx
        obtain ⟨Ab, Ao, B, d, rfl, hAb, hcell0, hrow⟩ := HG3.out.at hl
        have hcell := (HBw.out.cell (p := ⟨Ab, Ao + u, none⟩) hAb).trans hcell0
        have HL := hide hl
        have HR := hide hrow
        obtain ⟨_, _, e3, hd, hdm, -⟩ := hrow
        injection e3 with e3 e4 e5
        subst e3 e5
        have hd9 : d ≤ 9223372036854775807 := by unfold maxLen at hdm; omega
        have HXX := hide hx
        have HXD := hide hxd
        clear hl hdm e4 hcell0 hut hx hxd hxs
        go_wp2_with fail
        clear hcell hx4
        go_loopw [41, 9] (fun z nx wr => ∃ j : Nat, j ≤ l.length ∧ z = .int .i64 j ∧ nx = .int .i64 (lst (nearer (dist (rev g) t) u) (l.take j)) ∧ Hid (Below wq.heap.size wq wr)) (fun z _ _ => l.length - (intOf z).toNat)
        case atStart => exact ⟨0, Nat.zero_le _, rfl, rfl, hide (Below.refl _ _)⟩
        case round =>
          obtain ⟨wk, rfl⟩ : ∃ x, x = wr := ⟨_, rfl⟩
          obtain ⟨j, hj, rfl, rfl, HB⟩ := hrel
          by_cases hjt : j < l.length
          · have hjt' : (j : Int) < l.length := by omega
            obtain ⟨m, hm⟩ : ∃ x, l[j]? = some x := ⟨_, List.getElem?_eq_getElem hjt⟩
            have hlt := lst_take (nearer (dist (rev g) t) u) l j m hm
            obtain ⟨y, rfl, hyn⟩ := ok_node HO.out HL.out hm
            obtain ⟨b2, off2, rfl, hbl, cx⟩ := rd_at (HR.out.below' (Below.all HBw.out HB.out)) hm
            have hyn' : (y : Int) < g.length := by omega
            have hgl := HGD.out.len
            have dy := (HDw.out.below' HB.out).cellAt (getD_get (d := dist (rev g) t) (x := y) (by omega))
            have du := (HDw.out.below' HB.out).cellAt (getD_get (d := dist (rev g) t) (x := u) (by omega))
            obtain ⟨ey, hey⟩ : ∃ z, (dist (rev g) t).getD y 0 = z := ⟨_, rfl⟩
            obtain ⟨eu, heu⟩ : ∃ z, (dist (rev g) t).getD u 0 = z := ⟨_, rfl⟩
            obtain ⟨nx, hnx⟩ : ∃ z, lst (nearer (dist (rev g) t) u) (l.take j) = z := ⟨_, rfl⟩
            have hnear : nearer (dist (rev g) t) u (y : Nat) = decide (ey = eu - 1) := by unfold nearer; rw [Int.toNat_natCast, hey, heu]
            rw [hnear, hnx] at hlt
            rw [hnx]
            rw [hey] at dy
            rw [heu] at du
            have heq := hdu.out
            have hgr := HGD.out.rng u hu
            rw [heu] at heq hgr
            have hw1 : IntKind.i64.wrap (eu - 1) = eu - 1 := IntWalk.i64_in _ (by omega)
            have HT := hide hlt
            have heu0 : 0 ≤ eu - 1 := by omega
            clear hm hgl hey heu hnx hnear hlt heq hgr
            by_cases h1 : ey = eu - 1
            · have h1d : (ey == eu - 1) = true := by simpa using h1
              have h0 : 0 ≤ ey := by omega
              have h0d : decide (0 ≤ ey) = true := decide_eq_true h0
              by_cases h2 : nx < 0
              · have h2d : decide (nx < 0) = true := decide_eq_true h2
                have HT2 : Hid (lst (nearer (dist (rev g) t) u) (l.take (j + 1)) = (y : Int)) := hide (by rw [HT.out, if_pos ⟨by simpa using h1, .inl h2⟩])
                clear h1
                go_wp2_with fail
                go_quiet (fail)
                go_wp2_with fail
                go_roundw
                case rel => exact ⟨j + 1, by omega, by go_num, by rw [HT2.out], hide (by repeat (first | exact HB.out | refine Below.drewN' ?_ _ | refine Below.drew ?_))⟩
                case measure => simp [intOf]; omega
              · have h2d : decide (nx < 0) = false := decide_eq_false h2
                by_cases h3 : (y : Int) < nx
                · have h3d : decide ((y : Int) < nx) = true := decide_eq_true h3
                  have HT2 : Hid (lst (nearer (dist (rev g) t) u) (l.take (j + 1)) = (y : Int)) := hide (by rw [HT.out, if_pos ⟨by simpa using h1, .inr h3⟩])
                  clear h1 h2
                  go_wp2_with fail
                  go_quiet (fail)
                  go_wp2_with fail
                  go_roundw
                  case rel => exact ⟨j + 1, by omega, by go_num, by rw [HT2.out], hide (by repeat (first | exact HB.out | refine Below.drewN' ?_ _ | refine Below.drew ?_))⟩
                  case measure => simp [intOf]; omega
                · have h3d : decide ((y : Int) < nx) = false := decide_eq_false h3
                  have HT2 : Hid (lst (nearer (dist (rev g) t) u) (l.take (j + 1)) = nx) := hide (by rw [HT.out, if_neg (fun h => h.2.elim h2 h3)])
                  clear h1 h2 h3
                  go_wp2_with fail
                  go_quiet (fail)
                  go_wp2_with fail
                  go_roundw
                  case rel => exact ⟨j + 1, by omega, by go_num, by rw [HT2.out], hide (by repeat (first | exact HB.out | refine Below.drewN' ?_ _ | refine Below.drew ?_))⟩
                  case measure => simp [intOf]; omega
            · have h1d : (ey == eu - 1) = false := by simpa using h1
              have HT2 : Hid (lst (nearer (dist (rev g) t) u) (l.take (j + 1)) = nx) := hide (by rw [HT.out, if_neg (fun h => h1 (by simpa using h.1))])
              clear h1
              by_cases h0 : 0 ≤ ey
              · have h0d : decide (0 ≤ ey) = true := decide_eq_true h0
                go_wp2_with fail
                go_quiet (fail)
                go_wp2_with fail
                go_roundw
                case rel => exact ⟨j + 1, by omega, by go_num, by rw [HT2.out], hide (by repeat (first | exact HB.out | refine Below.drewN' ?_ _ | refine Below.drew ?_))⟩
                case measure => simp [intOf]; omega
              · have h0d : decide (0 ≤ ey) = false := decide_eq_false h0
                clear h0
                go_wp2_with fail
                go_quiet (fail)
                go_wp2_with fail
                go_roundw
                case rel => exact ⟨j + 1, by omega, by go_num, by rw [HT2.out], hide (by repeat (first | exact HB.out | refine Below.drewN' ?_ _ | refine Below.drew ?_))⟩
                case measure => simp [intOf]; omega
          · obtain rfl : j = l.length := by omega
            rw [List.take_length, HXX.out]
            have HO6 := hide (HOw.out.below' HB.out)
            have HD6 := hide (HDw.out.below' HB.out)
            have HB6 := hide (Below.all HBw.out HB.out)
            have hsz := HB6.out.size
            have hqq := hql.out
            clear HB HOw HDw HBw
            go_wp2_with (first | (refine wpList_append_rd _ rfl _ _ 36 rfl w3.heap.size 3 .i64 8 intE _ (ints acc) rfl (HO6.out.alloc _) _ [(x : Int)] rfl (rd_one wk 3 (x : Int)) ?b1 ?b2 ?b3 ?_))
            case b1 => rw [ints_len, List.length_singleton]; omega
            case b2 => unfold maxLen; rw [ints_len, List.length_singleton]; omega
            case b3 => rw [World.size_alloc]; omega
            intro v' w7 ho7 hg7 hb7 hblk
            have hf7 : Frm wk w7 v.ownBlock.toList := ((Frm.refl wk _).alloc _).trans (Frm.grown hg7)
            have HD7 := hide (HO6.out.one_else HD6.out hne.out hf7)
            have HO7 : Hid (Own w7 w3.heap.size 3 .i64 v' (ints (acc ++ [x]))) := hide (by
              have : ints (acc ++ [x]) = ints acc ++ [(x : Int)] := by simp [ints]
              rw [this]; exact ho7)
            have HB7 := hide (HB6.out.trans (hf7.toBelow (fun g hg => (HO6.out.size g (by simpa using hg)).1) HB6.out.size))
            have HN7 : Hid (v'.ownBlock ≠ some D1) := hide (by
              rcases hblk with h | h
              · rw [h]; exact hne.out
              · rw [h]
                have := (HD6.out.size D1 rfl).2
                simp
                omega)
            have HS7 : Hid (acc ++ [x] ++ spath g (dist (rev g) t) q x = short g s t) := hide (by
              have h1 := hsh.out
              rw [spath, getD_of HL.out, HXX.out, Int.toNat_natCast] at h1
              rw [List.append_assoc]
              exact h1)
            clear ho7 hg7 hb7 hblk hf7 hqq
            go_wp2_with fail
            go_roundg q
            case measure => omega
            case rel => exact ⟨x, acc ++ [x], rfl, hxn, HXD, HS7, hide (by have := hql.out; simp; omega), HO7, HD7, HN7, HB7⟩
end Go.Proofs.Ytaehfohljblmoaa

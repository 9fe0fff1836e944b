/-
  Layer 6 (digraph): distances.
-/
import Derived.Test.YtaehfohljblmoaaDistMath
namespace Go.Proofs.Ytaehfohljblmoaa
open Go.RowKit

def fillTo (n i : Nat) : List Int := (List.range n).map fun t => if t < i then -1 else 0
theorem fillTo_zero (n : Nat) : fillTo n 0 = List.replicate n 0 := by apply List.ext_getElem <;> simp [fillTo]
theorem fillTo_end (n : Nat) : fillTo n n = List.replicate n (-1) := by
  apply List.ext_getElem
  · simp [fillTo]
  · intro i h1 h2
    have : i < n := by simpa [fillTo] using h1
    simp [fillTo, this]
theorem fillTo_get (n i : Nat) {t : Nat} (h : t < n) : (fillTo n i)[t]? = some (if t < i then -1 else 0) := by simp [fillTo, h]
theorem fillTo_step (n i : Nat) (h : i < n) : (fillTo n i).set i (-1) = fillTo n (i + 1) := by
  apply List.ext_getElem?
  intro t
  by_cases ht : t < n
  · rw [fillTo_get n (i + 1) ht]
    by_cases e : i = t
    · subst e
      rw [List.getElem?_set_self (by simpa [fillTo] using h), if_pos (by omega)]
    · rw [List.getElem?_set_ne e, fillTo_get n i ht]
      by_cases h2 : t < i
      · rw [if_pos h2, if_pos (by omega)]
      · rw [if_neg h2, if_neg (by omega)]
  · rw [List.getElem?_eq_none (by rw [List.length_set]; simp [fillTo]; omega), List.getElem?_eq_none (by simp [fillTo]; omega)]

set_option maxRecDepth 100000 in
set_option maxHeartbeats 1500000 in
theorem dist_any (A : Option Addr) (c : Nat) (g : List (List Int)) (v : Nat) (w : World) (hg : RdL w A c g) (hok : okG g = true) (hn : g.length ≤ 65536) (hv : v < g.length) :
    Calls Try.prog 36 #[.agg #[.slice A g.length c], .int .i64 (v : Nat)] w fun en w' => ∃ D, en = .returned (.slice (some ⟨D, 0, none⟩) g.length g.length) ∧ Own w' w.heap.size 3 .i64 (.slice (some ⟨D, 0, none⟩) g.length g.length) (dist g v) ∧ Below w.heap.size w w' := by
  obtain ⟨b, off, -, -, rfl, -, -, -⟩ := hg.at (List.getElem?_eq_getElem hv)
  have hc := hg.cap
  have hc9 : c ≤ 9223372036854775807 := by unfold maxLen at hc; omega
  obtain ⟨w1, hw1⟩ : ∃ x, w.alloc (.cells #[.slice (some ⟨b, off, none⟩) g.length c] 24) = x := ⟨_, rfl⟩
  have hs1 : w1.heap.size = w.heap.size + 1 := by rw [← hw1, World.size_alloc]
  have hbox : w1.cell? ⟨w.heap.size, 0, none⟩ = some (.slice (some ⟨b, off, none⟩) g.length c) := by rw [← hw1]; simp [go_sem]
  have hf1 : Below w.heap.size w w1 := by rw [← hw1]; exact (Below.refl _ _).alloc (Nat.le_refl _) _
  have HG : Hid (RdL w1 (some ⟨b, off, none⟩) c g) := hide (hg.below' hf1)
  have HF1 := hide hf1
  have HO := hide hok
  have HS1 := hide hs1
  have hmk := run_made w1 36 3 (.int .i64 0) 8 Try.underlying36 infoInt rfl (by omega) g.length (by omega)
  have hv' : (v : Int) < g.length := by omega
  have HD : Hid (Own (w1.alloc (.cells (madeCells #[.int .i64 0] g.length) 3)) w1.heap.size 3 .i64 (.slice (some ⟨w1.heap.size, 0, none⟩) g.length g.length) (fillTo g.length 0) ∧ Below w1.heap.size w1 (w1.alloc (.cells (madeCells #[.int .i64 0] g.length) 3))) := hide ⟨by
    rw [fillTo_zero]
    have := own_madeV w1 3 (.int .i64 0) g.length w1.heap.size (by unfold maxLen; omega) (Nat.le_refl _)
    exact OwnV.toI (by simpa using this), (Below.refl _ _).alloc (Nat.le_refl _) _⟩
  have hB0 : ∀ W : World, Below w1.heap.size w1 W → W.cell? ⟨w.heap.size, 0, none⟩ = some (.slice (some ⟨b, off, none⟩) g.length c) := fun W hW => (hW.cell (p := ⟨w.heap.size, 0, none⟩) (lt_of_cell hbox)).trans hbox
  have HB0 := hide hB0
  clear hg hc hok hf1 hs1 hB0
  go_enter Try.func36, Try.ntmps36
  go_wp2_with fail
  go_loopw [16] (fun z wr => ∃ i : Nat, i ≤ g.length ∧ z = .int .i64 i ∧ Own wr w1.heap.size 3 .i64 (.slice (some ⟨w1.heap.size, 0, none⟩) g.length g.length) (fillTo g.length i) ∧ Below w1.heap.size w1 wr) (fun z _ => g.length - (intOf z).toNat)
  case atStart => exact ⟨0, Nat.zero_le _, rfl, HD.out.1, HD.out.2⟩
  case round =>
    clear HD hmk hbox hw1
    obtain ⟨wq, rfl⟩ : ∃ x, x = wr := ⟨_, rfl⟩
    obtain ⟨i, hi, rfl, hO, hb⟩ := hrel
    by_cases hlt : i < g.length
    · have hlt' : (i : Int) < g.length := by omega
      have c1 : wq.cell? ⟨w1.heap.size, i, none⟩ = some (.int .i64 0) := hO.cellAt (by rw [fillTo_get _ _ hlt, if_neg (Nat.lt_irrefl _)])
      have f1 : wq.frozen? ⟨w1.heap.size, i, none⟩ = false := hO.freeAt i
      have HS := hide (And.intro hO hb)
      clear hO hb
      go_wp2_with fail
      go_roundw
      case rel => exact ⟨i + 1, by omega, by go_num, by
        have := HS.out.1.set i (-1)
        rw [fillTo_step _ _ hlt] at this
        exact this, HS.out.2.setCell (p := ⟨w1.heap.size, i, none⟩) (Nat.le_refl _) _⟩
      case measure => simp [intOf]; omega
    · obtain rfl : i = g.length := by omega
      rw [fillTo_end] at hO
      have c1 : wq.cell? ⟨w1.heap.size, v, none⟩ = some (.int .i64 (-1)) := hO.cellAt (by rw [List.getElem?_replicate, if_pos hv])
      have f1 : wq.frozen? ⟨w1.heap.size, v, none⟩ = false := hO.freeAt v
      have hO2 := hO.set v 0
      obtain ⟨w3, hw3⟩ : ∃ x, wq.setCell ⟨w1.heap.size, v, none⟩ (.int .i64 0) = x := ⟨_, rfl⟩
      rw [hw3] at hO2
      have hb3 : Below w1.heap.size w1 w3 := by rw [← hw3]; exact hb.setCell (p := ⟨w1.heap.size, v, none⟩) (Nat.le_refl _) _
      have HD : Hid (Own (w3.alloc (.cells #[.int .i64 (v : Nat)] 3)) w1.heap.size 3 .i64 (.slice (some ⟨w1.heap.size, 0, none⟩) g.length g.length) (dist0 g.length v) ∧ Que (w3.alloc (.cells #[.int .i64 (v : Nat)] 3)) w1.heap.size (.slice (some ⟨w3.heap.size, 0, none⟩) 1 1) [v] ∧ w3.heap.size ≠ w1.heap.size ∧ Below w1.heap.size w1 (w3.alloc (.cells #[.int .i64 (v : Nat)] 3))) := hide ⟨hO2.alloc _, ⟨w3.heap.size, 0, 1, #[.int .i64 (v : Nat)], rfl, hb3.size, heap_alloc_new w3 _, Nat.le_refl _, by unfold maxLen; omega, Nat.le_refl _, fun j x hx => by
        cases j with
        | zero => simp only [List.getElem?_cons_zero, Option.some.injEq] at hx; subst hx; rfl
        | succ j => simp at hx⟩, Nat.ne_of_gt (show w1.heap.size < w3.heap.size from (hO2.size w1.heap.size rfl).2), hb3.alloc hb3.size _⟩
      clear hO hb hO2 hb3
      go_wp2_with fail
      clear c1 f1 hw3
      go_loopg [7] g.length (fun k z wr => ∃ (d : List Int) (q : List Nat), Hid (bfs g k d q = dist g v) ∧ Hid (Fair g.length k d q) ∧ Hid (Own wr w1.heap.size 3 .i64 (.slice (some ⟨w1.heap.size, 0, none⟩) g.length g.length) d) ∧ Hid (Que wr w1.heap.size z q) ∧ Hid (∀ x, z.ownBlock = some x → x ≠ w1.heap.size) ∧ Hid (Below w1.heap.size w1 wr))
      case atStart => exact ⟨_, _, hide rfl, hide (Fair.init hv), hide HD.out.1, hide HD.out.2.1, hide (fun x hx => by
        have e : x = w3.heap.size := by simpa [Value.ownBlock] using hx.symm
        rw [e]; exact HD.out.2.2.1), hide HD.out.2.2.2⟩
      case round =>
        clear HD
        obtain ⟨wp, rfl⟩ : ∃ x, x = wr := ⟨_, rfl⟩
        obtain ⟨n0, rfl⟩ : ∃ x, x = gk := ⟨_, rfl⟩
        obtain ⟨d, q, hrun, hfair, HOw, HQ, HAp, HBl⟩ := hrel
        cases q with
        | nil =>
          obtain ⟨gq, oq, cq, cur, rfl, -⟩ := id HQ.out
          go_wp2_with fail
          go_ret
          have e : d = dist g v := by rw [← hrun.out, bfs_nil]
          have h9 := HOw.out
          rw [e] at h9
          exact ⟨w1.heap.size, rfl, h9.low HF1.out.size, HF1.out.trans (HBl.out.mono HF1.out.size)⟩
        | cons u q =>
          obtain ⟨k, rfl⟩ : ∃ k, n0 = k + 1 := by
            cases n0 with
            | succ k => exact ⟨k, rfl⟩
            | zero =>
              have h1 := hfair.out.left
              simp only [List.length_cons] at h1
              omega
          obtain ⟨e, he⟩ : ∃ e, e = d.getD u 0 := ⟨_, rfl⟩
          have HI : Hid (Inn g.length k u e d q) := hide (he ▸ hfair.out.inn)
          have he0 : 0 ≤ e := HI.out.e0
          have he1 : e + 1 + k ≤ g.length := HI.out.e1
          clear he
          have hun : u < g.length := HI.out.un
          have hun' : (u : Int) < g.length := by omega
          obtain ⟨gq, oq, cq, cur, e0, -, -, hq1, hq2, -, -⟩ := id HQ.out
          simp only [List.length_cons] at e0 hq1
          subst e0
          have hcq9 : cq ≤ 9223372036854775807 := by unfold maxLen at hq2; omega
          have cq0 : wp.cell? ⟨gq, oq, none⟩ = some (.int .i64 (u : Nat)) := HQ.out.cellAt (j := 0) rfl
          obtain ⟨l, hl⟩ : ∃ l, g[u]? = some l := ⟨_, List.getElem?_eq_getElem hun⟩
          have hsu : succs g u = l.map Int.toNat := by unfold succs; rw [getD_of hl]
          have HSU := hide hsu
          have HLg := hide hl
          have hbx := HB0.out wp HBl.out
          obtain ⟨b', off', B, dd', eA, hbl, hcell, hrow⟩ := (HG.out.below' HBl.out).at hl
          injection eA with eA
          injection eA with eA eB
          subst eA eB
          obtain ⟨_, _, e3, hd, hm, -⟩ := hrow
          injection e3 with e3 e4 e5
          subst e3 e5
          have hd9 : dd' ≤ 9223372036854775807 := by unfold maxLen at hm; omega
          have HRow : Hid (∃ d9, dd' = d9 ∧ Rd w1 .i64 (.slice B l.length dd') l) := hide (by
            obtain ⟨b2, off2, B2, d2, e6, _, h7, h8⟩ := HG.out.at HLg.out
            injection e6 with e6
            injection e6 with e6 e7
            subst e6 e7
            have h9 := (HBl.out.cell (p := ⟨b, off + u, none⟩) (lt_of_cell h7)).trans h7
            rw [hcell] at h9
            injection h9 with h9
            injection h9 with h9 h10 h11
            subst h9 h11
            exact ⟨_, rfl, h8⟩)
          clear hm hsu hl e4 hq2
          go_wp2_with fail
          go_quiet (fail)
          go_wp2_with fail
          go_loopg [7, 41] l.length (fun k2 z7 z41 wr => ∃ (j : Nat) (d' : List Int) (q2 : List Nat), j + k2 = l.length ∧ z41 = .int .i64 j ∧ Hid (relax u ((succs g u).drop j) d' q2 = relax u (succs g u) d q) ∧ Hid (Inn g.length k u e d' q2) ∧ Hid (Own wr w1.heap.size 3 .i64 (.slice (some ⟨w1.heap.size, 0, none⟩) g.length g.length) d') ∧ Hid (Que wr w1.heap.size z7 (u :: q2)) ∧ Hid (∀ x, z7.ownBlock = some x → x ≠ w1.heap.size) ∧ Hid (Below w1.heap.size w1 wr))
          case atStart => exact ⟨0, d, q, by omega, rfl, hide (by rw [List.drop_zero]), HI, hide (HOw.out.drewN _), hide (HQ.out.frm ((Frm.refl wp []).drewN _) (by simp)), HAp, hide (Below.drewN' HBl.out _)⟩
          case round =>
            clear cq0 hbx hcell HOw HQ HAp HBl HI
            obtain ⟨wz, rfl⟩ : ∃ x, x = wr := ⟨_, rfl⟩
            obtain ⟨k2, rfl⟩ : ∃ x, x = gk := ⟨_, rfl⟩
            obtain ⟨j, d', q2, hj, rfl, hrel2, HI, HOw, HQ, HAp, HBl⟩ := hrel
            obtain ⟨gz, oz, cz, cur2, e0, -, -, hz1, hz2, -, -⟩ := id HQ.out
            simp only [List.length_cons] at e0 hz1
            subst e0
            have hcz9 : cz ≤ 9223372036854775807 := by unfold maxLen at hz2; omega
            clear hz2
            by_cases hjl : j < l.length
            · have hjl' : (j : Int) < l.length := by omega
              obtain ⟨m, hm⟩ : ∃ m, l[j]? = some m := ⟨_, List.getElem?_eq_getElem hjl⟩
              obtain ⟨x, rfl, hxn⟩ := ok_node HO.out HLg.out hm
              have hxn' : (x : Int) < g.length := by omega
              obtain ⟨d9, -, hrow⟩ := HRow.out
              obtain ⟨_, _, e6, -, -, hcl⟩ := hrow.below' HBl.out
              injection e6 with e6 e7 e8
              subst e6
              obtain ⟨b2, off2, rfl, hbl2, hcl⟩ := hcl (by omega)
              have hcell2 := hcl j _ hm
              have hsx : (succs g u)[j]? = some x := by rw [HSU.out, List.getElem?_map, hm]; simp
              have hdrop := drop_of hsx
              have HDR := hide hdrop
              have hxl : x < d'.length := by rw [HI.out.len]; exact hxn
              obtain ⟨y, hy⟩ : ∃ y, y = d'.getD x 0 := ⟨_, rfl⟩
              have hdx : d'[x]? = some y := by rw [hy]; exact getD_get hxl
              have cx : wz.cell? ⟨w1.heap.size, x, none⟩ = some (.int .i64 y) := HOw.out.cellAt hdx
              have fx : wz.frozen? ⟨w1.heap.size, x, none⟩ = false := HOw.out.freeAt x
              have HY := hide hy
              clear hcl hm hsx hdrop hdx hy hrow e7 e8
              by_cases hy1 : y = -1
              · subst hy1
                have cu : wz.cell? ⟨w1.heap.size, u, none⟩ = some (.int .i64 e) := HOw.out.cellAt (by rw [← HI.out.du]; exact getD_get (by rw [HI.out.len]; exact hun))
                have c0 : wz.cell? ⟨gz, oz, none⟩ = some (.int .i64 (u : Nat)) := HQ.out.cellAt (j := 0) rfl
                have hqn : (u :: q2).length + 1 ≤ 1000000 := by
                  have := HI.out.left
                  have := HI.out.k_le
                  simp only [List.length_cons]
                  omega
                obtain ⟨w6, hw6⟩ : ∃ x9, wz.setCell ⟨w1.heap.size, x, none⟩ (.int .i64 (e + 1)) = x9 := ⟨_, rfl⟩
                have hset : Frm wz w6 [w1.heap.size] := by rw [← hw6]; exact (Frm.refl wz _).setCell _ _ (.inl (by simp))
                have hq6 := HQ.out.frm hset (fun y hy => by simp; exact HAp.out y hy)
                have hb6 : Below w1.heap.size w1 w6 := by rw [← hw6]; exact HBl.out.setCell (p := ⟨w1.heap.size, x, none⟩) (Nat.le_refl _) _
                have ho6 : Own w6 w1.heap.size 3 .i64 (.slice (some ⟨w1.heap.size, 0, none⟩) g.length g.length) (d'.set x (e + 1)) := by rw [← hw6]; exact HOw.out.set x (e + 1)
                obtain ⟨v', w5, hrun5, hq5, hf5, hb5⟩ := run_que _ _ _ _ hq6 x hqn hb6.size
                have HQ5 := hide hq5
                have HO5 : Hid (Own w5 w1.heap.size 3 .i64 (.slice (some ⟨w1.heap.size, 0, none⟩) g.length g.length) (d'.set x (e + 1))) := hide (ho6.frmS hf5 (fun y hy hy2 => by
                  have e9 : y = w1.heap.size := by simpa [Value.ownBlock] using hy.symm
                  exact HAp.out y (by simpa using hy2) e9))
                have HA5 : Hid (∀ x, v'.ownBlock = some x → x ≠ w1.heap.size) := hide fun y hy => by
                  rcases hb5 with h | h
                  · rw [h] at hy; exact HAp.out y hy
                  · have := h y hy
                    have h8 : w1.heap.size < wz.heap.size := (HOw.out.size w1.heap.size rfl).2
                    have h9 := hset.size
                    omega
                have HB5 : Hid (Below w1.heap.size w1 w5) := hide (hb6.trans (hf5.toBelow (fun y hy => (hq6.size y (by simpa using hy)).1) hb6.size))
                have HR5 : Hid (relax u ((succs g u).drop (j + 1)) (d'.set x (e + 1)) (q2 ++ [x]) = relax u (succs g u) d q) := hide (by
                  have h := hrel2.out
                  rw [HDR.out, relax_new HY.out.symm, HI.out.du] at h
                  exact h)
                have HI5 := hide (HI.out.reach hxn HY.out.symm)
                clear hqn hset hq6 hb6 ho6 hq5 hf5 hb5 HOw HQ HAp HBl hrel2 HI
                go_wp2_with (first | (refine wpList_append_run rfl _ _ 36 rfl _ _ _ _ rfl rfl hrun5 ?_))
                go_roundg (k2 - 1)
                case measure => omega
                case rel => exact ⟨j + 1, d'.set x (e + 1), q2 ++ [x], by omega, by go_num, HR5, HI5, HO5, HQ5, HA5, HB5⟩
              · have hy1' : (y == -1) = false := by simpa using hy1
                have HR5 : Hid (relax u ((succs g u).drop (j + 1)) d' q2 = relax u (succs g u) d q) := hide (by
                  have h := hrel2.out
                  rw [HDR.out, relax_old (by rw [← HY.out]; exact hy1)] at h
                  exact h)
                go_wp2_with fail
                go_roundg (k2 - 1)
                case measure => omega
                case rel => exact ⟨j + 1, d', q2, by omega, by go_num, HR5, HI, HOw, HQ, HAp, HBl⟩
            · obtain rfl : j = l.length := by omega
              have HR5 : Hid (bfs g k d' q2 = dist g v) := hide (by
                have h := hrun.out
                have h2 := hrel2.out
                rw [List.drop_of_length_le (by rw [HSU.out, List.length_map]; exact Nat.le_refl _)] at h2
                have h3 : relax u [] d' q2 = (d', q2) := rfl
                rw [h3] at h2
                unfold bfs at h
                rw [← h2] at h
                exact h)
              by_cases hc1 : cz = 1
              · subst hc1
                obtain rfl : q2 = [] := List.eq_nil_of_length_eq_zero (by omega)
                have HQ5 : Hid (Que wz w1.heap.size (.slice (some ⟨gz, oz, none⟩) 0 0) []) := hide (by
                  obtain ⟨g', o', c', cur, e9, h1, h2, h3, h4, h5, h6⟩ := HQ.out
                  injection e9 with e1 e2 e3
                  injection e1 with e1
                  injection e1 with e1 e4
                  subst e1 e4
                  exact ⟨gz, oz, 0, cur, rfl, h1, h2, Nat.le_refl _, Nat.zero_le _, by omega, fun j x hx => by simp at hx⟩)
                have HA5 : Hid (∀ x, (Value.slice (some ⟨gz, oz, none⟩) 0 0).ownBlock = some x → x ≠ w1.heap.size) := hide fun y hy => HAp.out y hy
                simp only [List.length_nil] at hz1
                go_wp2_with fail
                go_roundg k
                case measure => omega
                case rel => exact ⟨d', [], HR5, hide HI.out.fair, HOw, HQ5, HA5, HBl⟩
              · have hc1' : ¬ (cz - 1 = 0) := by omega
                have HQ5 := hide HQ.out.tail
                have HA5 : Hid (∀ x, (Value.slice (some ⟨gz, oz + 1, none⟩) q2.length (cz - 1)).ownBlock = some x → x ≠ w1.heap.size) := hide fun y hy => HAp.out y hy
                go_wp2_with fail
                go_roundg k
                case measure => omega
                case rel => exact ⟨d', q2, HR5, hide HI.out.fair, HOw, HQ5, HA5, HBl⟩
end Go.Proofs.Ytaehfohljblmoaa

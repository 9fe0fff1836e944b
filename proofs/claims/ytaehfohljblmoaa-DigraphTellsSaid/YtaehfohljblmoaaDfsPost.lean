/-
  Layer 6 (digraph): depthFirst, where burnish/digraph.Postorder$1 is called for each node that is left.
-/
import Derived.Test.YtaehfohljblmoaaDfsState
import Derived.WalkMore
namespace Go.Proofs.Ytaehfohljblmoaa
open Go.RowKit

set_option maxRecDepth 100000 in
set_option maxHeartbeats 8000000 in
theorem dfs_post {J : List Nat → List Nat → World → Prop} (A : Option Addr) (c : Nat) (g : List (List Int)) (w : World) (v : Nat) (F0 : List Nat) (cap : Value) (L : Leave g.length 33 cap J) (hG : ∀ W, Frm w W F0 → RdL W A c g) (hok : okG g = true) (hn : g.length ≤ 65536) (hv : v < g.length) (hJ : J F0 [] w) :
    Calls Try.prog 30 #[.agg #[.slice A g.length c], .int .i64 (v : Nat), .func (.func 33) #[] #[cap]] w fun en w' => en = .returned (.tuple #[]) ∧ ∃ F', J F' (post g v) w' ∧ Frm w w' F0 ∧ ∀ x ∈ F', x ∈ F0 ∨ w.heap.size ≤ x := by
  obtain ⟨b, off, -, -, rfl, -, -, -⟩ := (hG w (Frm.refl _ _)).at (List.getElem?_eq_getElem hv)
  have hc := (hG w (Frm.refl _ _)).cap
  have hc9 : c ≤ 9223372036854775807 := by unfold maxLen at hc; omega
  obtain ⟨w1, hw1⟩ : ∃ x, w.alloc (.cells #[.slice (some ⟨b, off, none⟩) g.length c] 24) = x := ⟨_, rfl⟩
  have hs1 : w1.heap.size = w.heap.size + 1 := by rw [← hw1, World.size_alloc]
  have hbox : w1.cell? ⟨w.heap.size, 0, none⟩ = some (.slice (some ⟨b, off, none⟩) g.length c) := by rw [← hw1]; simp [go_sem]
  have hf1 : Frm w w1 [] := by rw [← hw1]; exact (Frm.refl w []).alloc _
  have hF0 : ∀ x ∈ F0, x < w.heap.size := L.lt _ _ _ hJ
  have HF1 := hide (And.intro hf1 hs1)
  have HG : Hid (∀ W, Frm w1 W F0 → RdL W (some ⟨b, off, none⟩) c g) := hide fun W hW => hG W ((hf1.mono (by simp)).trans hW)
  have HF0 := hide hF0
  have HL := hide L
  have HO := hide hok
  have hmk := fun W : World => run_made W 36 3 (.int .i64 0) 8 Try.underlying36 infoInt rfl (by omega) g.length (by omega)
  have HJ : Hid (J F0 [] w1) := hide (L.frm _ _ _ _ [] hJ hf1 (by simp))
  have hb0 : ∀ W : World, Frm w1 W F0 → W.cell? ⟨w.heap.size, 0, none⟩ = some (.slice (some ⟨b, off, none⟩) g.length c) := fun W hW => (hW.cell (p := ⟨w.heap.size, 0, none⟩) (by show w.heap.size < w1.heap.size; omega) (fun h => by have := hF0 _ h; simp only at this; omega)).trans hbox
  have HB0 := hide hb0
  have HMK := hide hmk
  clear hG hok hJ L hf1 hF0 hb0 hmk hc
  go_enter Try.func30, Try.ntmps30
  clear hs1
  go_wp2_with fail
  go_step3
  go_wp2_with fail
  have HW2 : Hid (Frm w1 (w1.alloc (.cells #[.int .i64 (v : Nat)] 3)) []) := hide ((Frm.refl w1 []).alloc _)
  refine (of_any g.length _ [(v : Int)] _ hn (rd_one w1 3 (v : Int))).mono ?_
  rintro en w3 ⟨rfl, ws, hS, hbit, hf3⟩
  have hf13 : Frm w1 w3 [] := HW2.out.trans hf3
  have hbox3 : w3.cell? ⟨w.heap.size, 0, none⟩ = some (.slice (some ⟨b, off, none⟩) g.length c) := HB0.out w3 (hf13.mono (by simp))
  have hmk3 := HMK.out w3
  have hbit' : ∀ i, bit ws i = (i == v) := fun i => by
    rw [hbit]
    by_cases e : i = v
    · subst e; simp [hv]
    · have h1 : ((i : Int) ∈ [(v : Int)]) = False := by simp; omega
      have h2 : (i == v) = false := by simpa using e
      rw [h2]; simp only [h1, decide_false, Bool.and_false]
  obtain ⟨w4, hw4⟩ : ∃ x, x = w3.alloc (.cells (madeCells #[.int .i64 0] g.length) 3) := ⟨_, rfl⟩
  have hbox4 : w4.cell? ⟨w.heap.size, 0, none⟩ = some (.slice (some ⟨b, off, none⟩) g.length c) := HB0.out w4 ((hf13.mono (by simp)).trans (by rw [hw4]; exact (Frm.refl w3 _).alloc _))
  rw [← hw4] at hmk3
  have hs1 := HF1.out.2
  have HD : Hid (DfsAt J w1 F0 g.length (w1.heap.size + 1) w3.heap.size (w4.alloc (.cells #[.int .i64 (v : Nat)] 3)) (Dfs.init v) (List.replicate g.length 0) ws (.slice (some ⟨w4.heap.size, 0, none⟩) 1 1) F0) := by
    have e1 : (w1.alloc (.cells #[.int .i64 (v : Nat)] 3)).heap.size = w1.heap.size + 1 := World.size_alloc _ _
    rw [e1] at hS
    have hlt := hS.lt
    have hf34 : Frm w3 w4 [] := by rw [hw4]; exact (Frm.refl w3 []).alloc _
    have hf45 : Frm w4 (w4.alloc (.cells #[.int .i64 (v : Nat)] 3)) [] := (Frm.refl w4 []).alloc _
    have hF0 := HF0.out
    have hs4 : w4.heap.size = w3.heap.size + 1 := by rw [hw4, World.size_alloc]
    have ht : Own w4 w1.heap.size 3 .i64 (.slice (some ⟨w3.heap.size, 0, none⟩) g.length g.length) (ints (List.replicate g.length 0)) := by
      refine OwnV.toI ?_
      have := own_madeV w3 3 (.int .i64 0) g.length w1.heap.size (by unfold maxLen; omega) hf13.size
      rw [← hw4] at this
      simpa [ints] using this
    refine hide ⟨(hS.frm hf34 (by simp) (by simp)).frm hf45 (by simp) (by simp), hbit', ht.frmS hf45 (fun _ _ => by simp), own_one w4 w1.heap.size 3 (v : Int) (by omega), HL.out.frm _ _ _ _ [] HJ.out ((hf13.trans hf34).trans hf45) (by simp), ((hf13.trans hf34).trans hf45).mono (by simp), fun x hx => .inl hx, by omega, ⟨fun h => ?_, fun h => ?_, fun h => ?_⟩, ⟨by omega, by omega⟩, fun x hx => ?_⟩
    · have := hF0 _ h; omega
    · have := hF0 _ h; omega
    · have := hF0 _ h; omega
    · have e : x = w4.heap.size := by simpa [Value.ownBlock] using hx.symm
      subst e
      exact ⟨fun h => by have := hF0 _ h; omega, by omega, by omega, by omega⟩
  clear hS hbit hf3 hf13 hbit' HW2 HJ HMK hbox hs1 hw4
  go_wp2_with fail
  go_step3
  go_wp2_with fail
  clear hbox3 hbox4 hmk3 hw1
  obtain ⟨tb, htb⟩ : ∃ x, x = w3.heap.size := ⟨_, rfl⟩
  rw [← htb] at HD ⊢
  obtain ⟨Bs, hBs⟩ : ∃ x, x = w1.heap.size + 1 := ⟨_, rfl⟩
  rw [← hBs] at HD ⊢
  clear htb hBs
  go_loopg [8] (2 * g.length) (fun k pv wr => ∃ (s : Dfs) (tr ws F : List Nat), Hid (Dfs.run g k s = Dfs.last g v) ∧ Hid (s.Fits g.length) ∧ Hid (s.out.length + k ≤ 2 * g.length ∧ s.path.length + k ≤ 2 * g.length + 1) ∧ Hid (Scan g s.vis tr) ∧ Hid (DfsAt J w1 F0 g.length Bs tb wr s tr ws pv F))
  case atStart => exact ⟨_, _, _, _, hide rfl, hide (Dfs.Fits.init hv), hide ⟨by show 0 + _ ≤ _; omega, by show 1 + _ ≤ _; omega⟩, hide (Scan.init g _), HD⟩
  case round =>
    clear HD
    obtain ⟨wq, rfl⟩ : ∃ x, x = wr := ⟨_, rfl⟩
    obtain ⟨n0, rfl⟩ : ∃ x, x = gk := ⟨_, rfl⟩
    obtain ⟨⟨vis, path, out⟩, tr, ws, F, hrun, hfit, hout, hscan, HD⟩ := hrel
    cases path with
    | nil =>
      have h0 := HD.out.path.rd
      obtain ⟨Av, cv, e1, -, -, -⟩ := h0
      rw [show (ints (List.reverse [])).length = 0 from rfl] at e1
      subst e1
      go_wp2_with fail
      go_end0
      have hlast : Dfs.last g v = ⟨vis, [], out⟩ := by rw [← hrun.out, Dfs.run_nil rfl]
      refine ⟨rfl, F, ?_, (HF1.out.1.mono (by simp)).trans HD.out.frm, fun x hx => ?_⟩
      · show J F (Dfs.last g v).out wq
        rw [hlast]
        exact HD.out.cb
      · rcases HD.out.far x hx with h | h
        · exact .inl h
        · have := HF1.out.2; right; omega
    | cons u p =>
      obtain ⟨k, rfl⟩ : ∃ k, n0 = k + 1 := by
        cases n0 with
        | succ k => exact ⟨k, rfl⟩
        | zero =>
          have h1 := Dfs.last_done HO.out hv
          rw [← hrun.out] at h1
          cases h1
      obtain ⟨pb, pc, e1, hpl, hpm, hpb1, hpb2⟩ := HD.out.path.form (by simp [ints])
      rw [show (ints (List.reverse (u :: p))).length = p.length + 1 by simp [ints]] at e1 hpl
      subst e1
      have hpc9 : pc ≤ 9223372036854775807 := by unfold maxLen at hpm; omega
      have hun : u < g.length := hfit.out.1 u (by simp)
      have hun' : (u : Int) < g.length := by omega
      have hcp : wq.cell? ⟨pb, p.length, none⟩ = some (.int .i64 (u : Nat)) := HD.out.path.cellAt (by rw [ints_get, List.reverse_cons, List.getElem?_append_right (by simp)]; simp)
      obtain ⟨l, hl⟩ : ∃ l, g[u]? = some l := ⟨_, List.getElem?_eq_getElem hun⟩
      have hsu : succs g u = l.map Int.toNat := by unfold succs; rw [getD_of hl]
      obtain ⟨t0, ht0⟩ : ∃ t, tr[u]? = some t := ⟨_, List.getElem?_eq_getElem (by rw [hscan.out.1]; exact hun)⟩
      obtain ⟨hs1, hs2⟩ := hscan.out.2 u t0 ht0
      have htl : t0 ≤ l.length := by rw [hsu, List.length_map] at hs1; exact hs1
      have HS2 := hide hs2
      have HT0 := hide ht0
      have HSU := hide hsu
      have HLg := hide hl
      clear hs1 hs2 ht0 hsu hl hpb1 hpb2 hpm
      go_wp2_with fail
      go_loopg [8, 11] (l.length - t0) (fun k2 z8 z wr => ∃ j : Nat, j + k2 = l.length ∧ z8 = .slice (some ⟨pb, 0, none⟩) (p.length + 1) pc ∧ Hid (∀ (i y : Nat), i < j → (succs g u)[i]? = some y → vis y = true) ∧ Hid (DfsAt J w1 F0 g.length Bs tb wr ⟨vis, u :: p, out⟩ (tr.set u j) ws (.slice (some ⟨pb, 0, none⟩) (p.length + 1) pc) F))
      case atStart => exact ⟨t0, by omega, rfl, HS2, by rw [set_self HT0.out]; exact HD⟩
      case round =>
        clear HS2 HT0 HD hcp
        obtain ⟨wp, rfl⟩ : ∃ x, x = wr := ⟨_, rfl⟩
        obtain ⟨k2, rfl⟩ : ∃ x, x = gk := ⟨_, rfl⟩
        obtain ⟨j, hj, rfl, hjs, HE⟩ := hrel
        have hbx := HB0.out wp HE.out.frm
        obtain ⟨b', off', B, d, eA, hbl, hcell, hrow⟩ := (HG.out wp HE.out.frm).at HLg.out
        injection eA with eA
        injection eA with eA eB
        subst eA eB
        have HR := hide hrow
        obtain ⟨_, _, e3, hd, hm, hcl⟩ := hrow
        injection e3 with e3 e4 e5
        subst e3 e5
        have hd9 : d ≤ 9223372036854775807 := by unfold maxLen at hm; omega
        have hlen : l.length ≤ 9223372036854775807 := by omega
        have htc : wp.cell? ⟨tb, u, none⟩ = some (.int .i64 (j : Nat)) := HE.out.tried.cellAt (by rw [ints_get, List.getElem?_set_self (by rw [hscan.out.1]; exact hun)]; rfl)
        have htf : wp.frozen? ⟨tb, u, none⟩ = false := HE.out.tried.freeAt u
        clear hm
        by_cases hjl : j < l.length
        · obtain ⟨m, hm⟩ : ∃ m, l[j]? = some m := ⟨_, List.getElem?_eq_getElem hjl⟩
          have hjl' : (j : Int) < l.length := by omega
          obtain ⟨x, rfl, hxn⟩ := ok_node HO.out HLg.out hm
          obtain ⟨b2, off2, rfl, hbl2, hcl⟩ := hcl (by omega)
          have hcell2 := hcl j _ hm
          have hsx : (succs g u)[j]? = some x := by rw [HSU.out, List.getElem?_map, hm]; simp
          have HSX := hide hsx
          clear hcl hm hsx e4
          go_wp2_with fail
          go_quiet (fail)
          go_wp2_with fail
          go_quiet (fail)
          go_wp2_with fail
          have HE2 : Hid (∀ q, DfsAt J w1 F0 g.length Bs tb ((wp.drewN q).setCell ⟨tb, u, none⟩ (.int .i64 ((j : Nat) + 1))) ⟨vis, u :: p, out⟩ (tr.set u (j + 1)) ws (.slice (some ⟨pb, 0, none⟩) (p.length + 1) pc) F) := hide (fun q => by
            have h := (HE.out.still HL.out ((Frm.refl wp []).drewN q)).turn HL.out u (j + 1)
            rw [List.set_set] at h
            exact h)
          cases hvx : vis x with
          | true =>
            refine (add_same _ Bs g.length ws (HE2.out _).set x (.inr (.inr (by rw [Int.toNat_natCast, HE.out.bits]; exact hvx)))).mono ?_
            rintro en w6 ⟨rfl, hf6⟩
            have HE3 := hide ((HE2.out _).still HL.out hf6)
            have HV := hide hvx
            clear hf6 HE2 HE hbx htc htf hcell hcell2 hvx HR
            go_wp2_with fail
            go_roundg (k2 - 1)
            case measure => omega
            case rel => exact ⟨j + 1, by omega, rfl, hide (fun i y hi hy => by
              rcases Nat.lt_succ_iff_lt_or_eq.1 hi with h | rfl
              · exact hjs.out i y h hy
              · rw [HSX.out] at hy
                injection hy with e
                subst e
                exact HV.out), HE3⟩
          | false =>
            refine (add_new _ Bs g.length ws (HE2.out _).set x hxn (by rw [HE.out.bits]; exact hvx)).mono ?_
            rintro en w6 ⟨rfl, us, hS6, hb6, hf6⟩
            have HE3 := hide ((HE2.out _).visit HL.out hS6 hb6 hf6)
            have hps := hout.out.2
            simp only [List.length_cons] at hps
            have HPB : Hid (p.length + 1 + (k + 1) ≤ 2 * g.length + 1) := hide hps
            have HV := hide hvx
            clear hf6 hS6 hb6 HE2 HE hbx htc htf hcell hcell2 hvx HR hps
            go_wp2_with (first | (refine wpList_append_v _ rfl _ _ 36 rfl w1.heap.size 3 (.int .i64 0) 8 intV _ ((ints (u :: p).reverse).map (Value.int .i64)) rfl (HE3.out.path.alloc _).toV _ [.int .i64 (x : Nat)] rfl (rdv_one w6 3 _) ?b0 ?b1 ?b2 ?b3 ?_))
            case b0 => intro y hy; rw [List.mem_singleton.1 hy]; rfl
            case b1 => have := HPB.out; rw [List.length_map, ints_len, List.length_reverse, List.length_cons, List.length_singleton]; omega
            case b2 => have := HPB.out; rw [List.length_map, ints_len, List.length_reverse, List.length_cons, List.length_singleton]; unfold maxLen; omega
            case b3 => exact Nat.le_trans HE3.out.frm.size (by rw [World.size_alloc]; exact Nat.le_succ _)
            intro v' w7 ho7 hf7 hb7
            have ho8 : Own w7 w1.heap.size 3 .i64 v' (ints (u :: p).reverse ++ [(x : Int)]) := OwnV.toI (by rw [List.map_append, List.reverse_cons]; exact ho7)
            have HP := hide ((HE3.out.still HL.out ((Frm.refl w6 []).alloc (.cells #[.int .i64 (x : Nat)] 3))).push HL.out ho8 hf7 (hb7.elim .inl (fun e => .inr (fun y hy => by rw [e] at hy; injection hy with e2; rw [← e2, World.size_alloc]; exact Nat.le_refl _))))
            have hfind : (succs g u).find? (fun x => !vis x) = some x := find_first HSX.out hjs.out HV.out
            have HR9 : Hid (Dfs.run g k ⟨fun i => vis i || i == x, x :: u :: p, out⟩ = Dfs.last g v) := hide (by
              have h := hrun.out
              unfold Dfs.run at h
              rw [Dfs.step_push hfind] at h
              exact h)
            have HF9 : Hid (Dfs.Fits g.length ⟨fun i => vis i || i == x, x :: u :: p, out⟩) := hide (by
              have h := hfit.out.step HO.out
              rw [Dfs.step_push hfind] at h
              exact h)
            have HS9 : Hid (Scan g (fun i => vis i || i == x) (tr.set u (j + 1))) := hide (hscan.out.more (fun i h => by rw [h]; rfl) (by rw [HSU.out, List.length_map]; omega) (fun i y hi hy => by
              rcases Nat.lt_succ_iff_lt_or_eq.1 hi with h | rfl
              · rw [hjs.out i y h hy]; rfl
              · rw [HSX.out] at hy
                injection hy with e
                subst e
                simp))
            clear ho7 ho8 hf7 hb7 HE3 hfind
            go_wp2_with fail
            go_roundg k
            case measure => omega
            case rel => exact ⟨⟨fun i => vis i || i == x, x :: u :: p, out⟩, _, _, _, HR9, HF9, hide (by have := hout.out; simp only [List.length_cons] at this ⊢; omega), HS9, HP⟩
        · obtain rfl : j = l.length := by omega
          clear hcl e4
          go_wp2_with fail
          go_quiet (fail)
          go_wp2_with fail
          have HE2 : Hid (∀ q, DfsAt J w1 F0 g.length Bs tb (wp.drewN q) ⟨vis, u :: p, out⟩ (tr.set u l.length) ws (.slice (some ⟨pb, 0, none⟩) (p.length + 1) pc) F) := hide (fun q => HE.out.still HL.out ((Frm.refl wp []).drewN q))
          refine (HL.out.call F out _ u (HE2.out _).cb hun (by have h9 : out.length + (k + 1) ≤ 2 * g.length := hout.out.1; omega)).mono ?_
          rintro en w6 ⟨rfl, F', hJ', hf', hF'⟩
          have HE3 := hide (DfsAt.leave (s := ⟨vis, p, out⟩) (HE2.out _) hJ' hf' hF')
          have hnone : (succs g u).find? (fun x => !vis x) = none := find_no fun i y hy => hjs.out i y (by have := (List.getElem?_eq_some_iff.1 hy).1; rw [HSU.out, List.length_map] at this; exact this) hy
          have HR9 : Hid (Dfs.run g k ⟨vis, p, out ++ [u]⟩ = Dfs.last g v) := hide (by
            have h := hrun.out
            unfold Dfs.run at h
            rw [Dfs.step_pop hnone] at h
            exact h)
          have HF9 : Hid (Dfs.Fits g.length ⟨vis, p, out ++ [u]⟩) := hide (by
            have h := hfit.out.step HO.out
            rw [Dfs.step_pop hnone] at h
            exact h)
          have HS9 : Hid (Scan g vis (tr.set u l.length)) := hide (hscan.out.more (fun _ h => h) (by rw [HSU.out, List.length_map]; exact Nat.le_refl _) hjs.out)
          clear hJ' hf' hF' HE2 HE hbx htc htf hcell HR hnone
          go_wp2_with fail
          go_roundg k
          case measure => omega
          case rel => exact ⟨⟨vis, p, out ++ [u]⟩, _, _, _, HR9, HF9, hide (by have := hout.out; simp only [List.length_append, List.length_cons, List.length_nil] at this ⊢; omega), HS9, HE3⟩
end Go.Proofs.Ytaehfohljblmoaa

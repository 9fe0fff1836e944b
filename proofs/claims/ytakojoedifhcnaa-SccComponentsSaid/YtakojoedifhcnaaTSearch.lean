/-
  Layer 7 (scc): Tarjan's search, walked: depthFirst with its three closures.
-/
import Derived.Test.YtakojoedifhcnaaTjAt
import Derived.Deep.LoopGhost
import Derived.WalkMore
import Derived.Deep.CutRange
import Derived.Deep.CutBlock
namespace Go.Proofs.Ytakojoedifhcnaa
open Go.RowKit

/-- What holds of the search besides: who has not entered has tried nothing; the first st nodes have entered. -/
structure Gd (g : List (List Int)) (s : Tj) (st : Nat) : Prop where
  inv : Inv g s
  t0 : ∀ x, s.turn x = 0 → s.tr x = 0
  tl : ∀ x, s.tr x ≤ (succs g x).length
  dn : ∀ y, y < st → s.turn y ≠ 0
section
variable {g : List (List Int)} {s : Tj} {st : Nat}
theorem Inv.nodup (h : Inv g s) : s.opn.Nodup := h.asc.imp fun hab e => by rw [e] at hab; exact Nat.lt_irrefl _ hab
theorem Inv.opnLen (h : Inv g s) : s.opn.length ≤ g.length := nodup_len h.nodup (fun x hx => h.bnd x (h.ent x hx))
theorem Inv.cnLe (h : Inv g s) : s.cn ≤ g.length := by have := h.cnN; omega
theorem Inv.pathLen (h : Inv g s) : s.path.length ≤ g.length := nodup_len (h.dsc.imp fun hab e => by rw [e] at hab; exact Nat.lt_irrefl _ hab) (fun x hx => h.bnd x (h.ent x (h.pin x hx)))
theorem Gd.enter (h : Gd g s st) {x : Nat} (hx : x < g.length) (h0 : s.turn x = 0) (hp : s.path = [] ∨ ∃ u p, s.path = u :: p ∧ (succs g u)[s.tr u]? = some x) : Gd g (s.enter x) st := by
  refine ⟨h.inv.enter hx h0 hp (h.t0 x h0), fun y hy => ?_, h.tl, fun y hy => ?_⟩
  · by_cases c : y = x
    · rw [c]; exact h.t0 x h0
    · exact h.t0 y (by have : set1 s.turn x (s.cn + 1) y = 0 := hy; rwa [set1_ne _ _ c] at this)
  · by_cases c : y = x
    · show set1 s.turn x (s.cn + 1) y ≠ 0
      rw [c, set1_at]; omega
    · show set1 s.turn x (s.cn + 1) y ≠ 0
      rw [set1_ne _ _ c]; exact h.dn y hy
theorem Gd.comp (h : Gd g s st) {u c : Nat} {p : List Nat} (hp : s.path = u :: p) (hc : (succs g u)[s.tr u]? = some c) (hce : s.turn c ≠ 0) : Gd g (s.comp u c) st := by
  have hut : s.turn u ≠ 0 := h.inv.ent u (h.inv.pin u (by rw [hp]; exact List.mem_cons_self ..))
  refine ⟨h.inv.comp hp hc hce, fun y hy => ?_, fun y => ?_, h.dn⟩
  · have hyu : y ≠ u := fun e => hut (e ▸ hy)
    show set1 s.tr u (s.tr u + 1) y = 0
    rw [set1_ne _ _ hyu]
    exact h.t0 y hy
  · show set1 s.tr u (s.tr u + 1) y ≤ _
    by_cases e : y = u
    · rw [e, set1_at]; exact (List.getElem?_eq_some_iff.1 hc).1
    · rw [set1_ne _ _ e]; exact h.tl y
theorem Gd.keep (h : Gd g s st) {u : Nat} {p : List Nat} (hp : s.path = u :: p) (hd : (succs g u).length ≤ s.tr u) (hlow : s.low u ≠ s.turn u) : Gd g (s.keep p) st := ⟨h.inv.keep hp hd hlow, h.t0, h.tl, h.dn⟩
theorem Gd.shutAt (h : Gd g s st) {u : Nat} {p a b : List Nat} (hp : s.path = u :: p) (hd : (succs g u).length ≤ s.tr u) (hlow : s.low u = s.turn u) (ho : s.opn = a ++ u :: b) : Gd g (s.shutAt g.length u a p) st := ⟨h.inv.shutAt hp hd hlow ho, h.t0, h.tl, h.dn⟩
theorem Gd.zero (g : List (List Int)) : Gd g Tj.zero 0 := ⟨Inv.zero g, fun _ _ => rfl, fun _ => Nat.zero_le _, fun y hy => by omega⟩
/-- At the end: who has the same first node are those who reach each other. -/
theorem Gd.done (h : Gd g s g.length) (hp : s.path = []) : (∀ x, x < g.length → s.first x < g.length) ∧ ∀ x y, x < g.length → y < g.length → (s.first x = s.first y ↔ SC g x y) := by
  have ho : ∀ x, x ∉ s.opn := fun x hx => by
    obtain ⟨q, hq, -⟩ := h.inv.under x hx (by rw [hp]; simp)
    rw [hp] at hq; cases hq
  exact ⟨fun x hx => h.inv.bnd _ (h.inv.frc x (h.dn x hx) (ho x)).1, fun x y hx hy => h.inv.frs x y (h.dn x hx) (ho x) (h.dn y hy) (ho y)⟩
end

def F5 (q : Nat) : List Nat := [q + 1, q + 2, q + 4, q + 6, q + 8]
/-- The search in memory; w1: the world when it began. -/
structure Sat (w1 wr : World) (q tb N : Nat) (s : Tj) (T : Nat → Nat) (P : List Nat) (ov pv : Value) : Prop where
  tj : TjAt wr q N s ov
  tried : Own wr w1.heap.size 3 .i64 (.slice (some ⟨tb, 0, none⟩) N N) (fl N T)
  path : Own wr w1.heap.size 3 .i64 pv (ints P.reverse)
  frm : Frm w1 wr (F5 q)
  far : ∀ y, ov.ownBlock = some y → w1.heap.size ≤ y
  q9 : q + 9 ≤ w1.heap.size
  a1 : ov.ownBlock ≠ some tb
  a2 : ∀ x, pv.ownBlock = some x → x ≠ tb ∧ ov.ownBlock ≠ some x
section
variable {w1 wr w' : World} {q tb N : Nat} {s s' : Tj} {T : Nat → Nat} {P : List Nat} {ov ov' pv pv' : Value}
theorem Sat.still (h : Sat w1 wr q tb N s T P ov pv) (hf : Frm wr w' []) : Sat w1 w' q tb N s T P ov pv :=
  ⟨h.tj.still hf, h.tried.frmS hf (fun _ _ => by simp), h.path.frmS hf (fun _ _ => by simp), h.frm.trans' hf (by simp), h.far, h.q9, h.a1, h.a2⟩
theorem Sat.tb_le (h : Sat w1 wr q tb N s T P ov pv) : w1.heap.size ≤ tb ∧ tb < wr.heap.size := h.tried.size tb rfl
theorem Sat.same (h : Sat w1 wr q tb N s T P ov pv) (ht : TjAt wr q N s' ov) : Sat w1 wr q tb N s' T P ov pv := ⟨ht, h.tried, h.path, h.frm, h.far, h.q9, h.a1, h.a2⟩
/-- A closure has been called. -/
theorem Sat.call (h : Sat w1 wr q tb N s T P ov pv) (ht : TjAt w' q N s' ov') (hf : Frm wr w' (Ft q ov)) (hv : ∀ y, ov'.ownBlock = some y → y ∈ ov.ownBlock.toList ∨ wr.heap.size ≤ y) : Sat w1 w' q tb N s' T P ov' pv := by
  have htb := h.tb_le
  have q9 := h.q9
  have ft : ∀ y, w1.heap.size ≤ y → ov.ownBlock ≠ some y → y ∉ Ft q ov := fun y hy hn hm => by
    unfold Ft at hm
    rcases List.mem_append.1 hm with hm | hm
    · simp at hm; omega
    · exact hn (by simpa using hm)
  refine ⟨ht, h.tried.frmS hf (fun y hy => ?_), h.path.frmS hf (fun y hy => ft y (h.path.size y hy).1 (h.a2 y hy).2), h.frm.trans' hf (fun y hy => ?_), fun y hy => ?_, q9, fun e => ?_, fun x hx => ⟨(h.a2 x hx).1, fun e => ?_⟩⟩
  · have e : y = tb := by simpa [Value.ownBlock] using hy.symm
    rw [e]; exact ft tb htb.1 h.a1
  · unfold Ft at hy
    rcases List.mem_append.1 hy with hy | hy
    · exact .inl hy
    · exact .inr (h.far y (by simpa using hy))
  · rcases hv y hy with hy | hy
    · exact h.far y (by simpa using hy)
    · exact Nat.le_trans h.frm.size hy
  · rcases hv tb e with hy | hy
    · exact h.a1 (by simpa using hy)
    · omega
  · rcases hv x e with hy | hy
    · exact (h.a2 x hx).2 (by simpa using hy)
    · have := (h.path.size x hx).2; omega
/-- tried[u] turned. -/
theorem Sat.turn (h : Sat w1 wr q tb N s T P ov pv) (u j : Nat) : Sat w1 (wr.setCell ⟨tb, u, none⟩ (.int .i64 (j : Nat))) q tb N s (set1 T u j) P ov pv := by
  have htb := h.tb_le
  have hf : Frm wr (wr.setCell ⟨tb, u, none⟩ (.int .i64 (j : Nat))) [tb] := (Frm.refl wr [tb]).setCell _ _ (.inl (by simp))
  have ht := h.tried.set u (j : Int)
  rw [fl_set (h := set1 T u j) (set1_at _ _ _) (fun z hz => set1_ne _ _ hz)] at ht
  exact ⟨h.tj.frm hf (fun x hx => by rw [List.mem_singleton.1 hx]; have := h.q9; omega) (fun x hx hm => h.a1 (by rw [List.mem_singleton.1 hm] at hx; exact hx)), ht, h.path.frmS hf (fun x hx hm => (h.a2 x hx).1 (List.mem_singleton.1 hm)), h.frm.trans' hf (fun x hx => by rw [List.mem_singleton.1 hx]; exact .inr htb.1), h.far, h.q9, h.a1, h.a2⟩
/-- The path has grown. -/
theorem Sat.push (h : Sat w1 wr q tb N s T P ov pv) {x : Nat} (ho : Own w' w1.heap.size 3 .i64 pv' (ints P.reverse ++ [(x : Int)])) (hf : Frm wr w' pv.ownBlock.toList) (hb : pv'.ownBlock = pv.ownBlock ∨ ∀ y, pv'.ownBlock = some y → wr.heap.size ≤ y) : Sat w1 w' q tb N s T (x :: P) ov pv' := by
  have htb := h.tb_le
  have q9 := h.q9
  have pl : ∀ y ∈ pv.ownBlock.toList, w1.heap.size ≤ y ∧ y < wr.heap.size := fun y hy => h.path.size y (by simpa using hy)
  refine ⟨h.tj.frm hf (fun y hy => by have := pl y hy; omega) (fun y hy hm => (h.a2 y (by simpa using hm)).2 hy), h.tried.frmS hf (fun y hy hm => ?_), by rw [List.reverse_cons, ints_snoc]; exact ho, h.frm.trans' hf (fun y hy => .inr (pl y hy).1), h.far, q9, h.a1, fun y hy => ?_⟩
  · have e : y = tb := by simpa [Value.ownBlock] using hy.symm
    rw [e] at hm
    exact (h.a2 tb (by simpa using hm)).1 rfl
  · rcases hb with e | e
    · rw [e] at hy; exact h.a2 y hy
    · have := e y hy
      refine ⟨by omega, fun c => ?_⟩
      have := (h.tj.ro.size y c).2
      omega
/-- The path's end has been cut off. -/
theorem Sat.pop {u pb m cap : Nat} (h : Sat w1 wr q tb N s T (u :: P) ov (.slice (some ⟨pb, 0, none⟩) (m + 1) cap)) (hm : m = P.length) : Sat w1 wr q tb N s T P ov (.slice (some ⟨pb, 0, none⟩) m cap) := by
  subst hm
  have hp := Own.cut h.path (q := P.length) (by rw [ints_len]; simp)
  have e : (ints (u :: P).reverse).take P.length = ints P.reverse := by
    rw [List.reverse_cons, ints_snoc, List.take_append_of_le_length (by rw [ints_len]; simp), List.take_of_length_le (by rw [ints_len]; simp)]
  rw [e] at hp
  exact ⟨h.tj, h.tried, hp, h.frm, h.far, h.q9, h.a1, h.a2⟩
end

set_option maxRecDepth 100000 in
set_option maxHeartbeats 8000000 in
theorem search_any (A : Option Addr) (c : Nat) (g : List (List Int)) (q : Nat) (w w0 : World) (hg : RdL w0 A c g) (hb0 : Below w0.heap.size w0 w) (hq0 : w0.heap.size ≤ q) (hok : okG g = true) (hN : g.length ≤ 65536) (ht : TjAt w q g.length Tj.zero (.slice none 0 0)) :
    Calls Try.prog 36 #[.agg #[.slice A g.length c], .func (.func 33) #[] #[.pointer (some ⟨q + 3, 0, none⟩), .pointer (some ⟨q + 1, 0, none⟩), .pointer (some ⟨q + 5, 0, none⟩), .pointer (some ⟨q + 8, 0, none⟩)], .func (.func 34) #[] #[.pointer (some ⟨q + 5, 0, none⟩)], .func (.func 35) #[] #[.pointer (some ⟨q + 5, 0, none⟩), .pointer (some ⟨q + 3, 0, none⟩), .pointer (some ⟨q + 8, 0, none⟩), .pointer (some ⟨q, 0, none⟩), .pointer (some ⟨q + 7, 0, none⟩)]] w fun en w' => en = .returned (.tuple #[]) ∧ ∃ s ov, Gd g s g.length ∧ s.path = [] ∧ TjAt w' q g.length s ov ∧ Frm w w' (F5 q) := by
  obtain ⟨w1, hw1⟩ : ∃ x, w.alloc (.cells #[.slice A g.length c] 24) = x := ⟨_, rfl⟩
  have hf1 : Frm w w1 [] := by rw [← hw1]; exact (Frm.refl _ _).alloc _
  have hs1 : w1.heap.size = w.heap.size + 1 := by rw [← hw1, World.size_alloc]
  have hbox : w1.cell? ⟨w.heap.size, 0, none⟩ = some (.slice A g.length c) := by rw [← hw1]; simp [go_sem]
  have hmk := run_made w1 29 3 (.int .i64 0) 8 Try.underlying29 infoInt rfl (by omega) g.length (by omega)
  obtain ⟨w2, hw2⟩ : ∃ x, w1.alloc (.cells (madeCells #[.int .i64 0] g.length) 3) = x := ⟨_, rfl⟩
  have hf2 : Frm w1 w2 [] := by rw [← hw2]; exact (Frm.refl _ _).alloc _
  obtain ⟨tb, htb⟩ : ∃ x, x = w1.heap.size := ⟨_, rfl⟩
  have hsz := ht.size
  have hT : Own w2 w1.heap.size 3 .i64 (.slice (some ⟨tb, 0, none⟩) g.length g.length) (fl g.length (fun _ => 0)) := by
    rw [← hw2, htb]
    have := own_madeV w1 3 (.int .i64 0) g.length w1.heap.size (by unfold maxLen; omega) (Nat.le_refl _)
    refine OwnV.toI ?_
    have e : (fl g.length (fun _ => 0)).map (Value.int .i64) = List.replicate g.length (.int .i64 0) := by
      unfold fl; apply List.ext_getElem <;> simp
    rw [e]; exact this
  have HS0 : Hid (Sat w1 w2 q tb g.length Tj.zero Tj.zero.tr [] (.slice none 0 0) (.slice none 0 0)) := hide ⟨(ht.still hf1).still hf2, hT, Own.nil, hf2.mono (by simp), fun y hy => by simp [Value.ownBlock] at hy, by omega, by simp [Value.ownBlock], fun x hx => by simp [Value.ownBlock] at hx⟩
  have hbox2 : w2.cell? ⟨w.heap.size, 0, none⟩ = some (.slice A g.length c) := (hf2.cell (p := ⟨w.heap.size, 0, none⟩) (by show w.heap.size < _; omega) (by simp)).trans hbox
  -- the graph and its cell, whatever the search turns
  have HB : Hid (∀ W, Frm w1 W (F5 q) → W.cell? ⟨w.heap.size, 0, none⟩ = some (.slice A g.length c)) := hide fun W hW => (hW.cell (p := ⟨w.heap.size, 0, none⟩) (by show w.heap.size < _; omega) (by show w.heap.size ∉ F5 q; unfold F5; simp; omega)).trans hbox
  have HG : Hid (∀ W, Frm w1 W (F5 q) → RdL W A c g) := hide fun W hW => hg.below' (hb0.trans (((hf1.mono (by simp)).trans hW).toBelow (fun x hx => by unfold F5 at hx; simp at hx; omega) hb0.size))
  have HF1 := hide (And.intro hf1 hs1)
  have HO := hide hok
  subst htb
  clear hg hb0 ht hf1 hf2 hT hok hs1 hsz
  go_enter Try.func36, Try.ntmps36
  go_wp2_with fail
  clear hw1 hw2 hmk hbox hbox2
  go_loopw [21, 9] (fun z pv wr => ∃ (st : Nat) (s : Tj) (ov : Value), st ≤ g.length ∧ z = .int .i64 st ∧ Hid (Gd g s st) ∧ Hid (s.path = []) ∧ Hid (Sat w1 wr q w1.heap.size g.length s s.tr [] ov pv)) (fun z _ _ => g.length - (intOf z).toNat)
  case atStart => exact ⟨0, _, _, Nat.zero_le _, rfl, hide (Gd.zero g), hide rfl, HS0⟩
  case round =>
    clear HS0
    obtain ⟨wq, rfl⟩ : ∃ x, x = wr := ⟨_, rfl⟩
    obtain ⟨pv, rfl⟩ : ∃ x, x = u9 := ⟨_, rfl⟩
    obtain ⟨st, s, ov, hst, rfl, HGd, hp0, HS⟩ := hrel
    by_cases hlt : st < g.length
    · have hlt' : (st : Int) < g.length := by omega
      go_upto_region 6 with fail
      go_step3
      apply wp_seq_k
      intro Kc hKc
      have hst' : st < g.length := hlt
      go_cut [9] from 23 to 85 (fun z9 wx => ∃ (s : Tj) (ov : Value), Hid (Gd g s (st + 1)) ∧ Hid (Sat w1 wx q w1.heap.size g.length s s.tr s.path ov z9))
      case first =>
        by_cases h0 : s.turn st = 0
        · have HE := hide (enter_new HS.out.tj hlt h0 hN HGd.out.inv.cnLe HGd.out.inv.opnLen)
          have HG2 : Hid (Gd g (s.enter st) (st + 1)) := hide (by
            have h1 := HGd.out.enter hlt h0 (.inl hp0.out)
            exact ⟨h1.inv, h1.t0, h1.tl, fun y hy => by
              rcases Nat.lt_succ_iff_lt_or_eq.1 hy with hy | rfl
              · exact h1.dn y hy
              · show set1 s.turn y (s.cn + 1) y ≠ 0
                rw [set1_at]; omega⟩)
          clear h0
          go_wp2_with fail
          refine HE.out.mono ?_
          rintro en w6 ⟨ov', rfl, ht6, hf6, hv6⟩
          have HS6 := hide (HS.out.call ht6 hf6 hv6)
          clear ht6 hf6 hv6 HS HE
          go_wp2_with (first | (refine wpList_append_rd _ rfl _ _ 29 rfl w1.heap.size 3 .i64 8 intE _ (ints (List.reverse [])) rfl (HS6.out.path.alloc _) _ [(st : Int)] rfl (rd_one w6 3 (st : Int)) ?b1 ?b2 ?b3 ?_))
          case b1 => simp [ints]
          case b2 => unfold maxLen; simp [ints]
          case b3 => have := HS6.out.frm.size; rw [World.size_alloc]; omega
          intro v' w7 ho7 hg7 hb7 hblk
          have HS7 := hide ((HS6.out.still ((Frm.refl w6 []).alloc (.cells #[.int .i64 (st : Int)] 3))).push ho7 (Frm.grown hg7) (hblk.imp id (fun e y hy => by rw [e] at hy; injection hy with e2; first | omega | (rw [← e2]; exact Nat.le_refl _) | (rw [World.size_alloc]; omega))))
          have hpe : (s.enter st).path = [st] := by show st :: s.path = _; rw [hp0.out]
          have HPE := hide hpe
          clear ho7 hg7 hb7 hblk HS6 hpe
          go_wp2_with fail
          go_meet
          exact ⟨s.enter st, ov', HG2, hide (by rw [HPE.out]; exact HS7.out)⟩
        · have HE := hide (enter_old HS.out.tj hlt h0)
          have HG2 : Hid (Gd g s (st + 1)) := hide ⟨HGd.out.inv, HGd.out.t0, HGd.out.tl, fun y hy => by
              rcases Nat.lt_succ_iff_lt_or_eq.1 hy with hy | rfl
              · exact HGd.out.dn y hy
              · exact h0⟩
          clear h0
          go_wp2_with fail
          refine HE.out.mono ?_
          rintro en w6 ⟨rfl, rfl⟩
          go_wp2_with fail
          go_meet
          exact ⟨s, ov, HG2, hide (by rw [hp0.out]; exact HS.out)⟩
      case rest =>
        clear HGd hp0 HS
        obtain ⟨s, ov, HGd, HS⟩ := hcut
        obtain ⟨pv, rfl⟩ : ∃ x, x = u9 := ⟨_, rfl⟩
        go_wp2_with fail
        go_step3
        go_wp2_with fail
        go_loopg [9] (3 * g.length) (fun k pv wr => ∃ (s : Tj) (ov : Value), Hid (2 * (g.length - s.cn) + s.path.length ≤ k) ∧ Hid (Gd g s (st + 1)) ∧ Hid (Sat w1 wr q w1.heap.size g.length s s.tr s.path ov pv))
        case atStart => exact ⟨s, ov, hide (by have := HGd.out.inv.pathLen; omega), HGd, HS⟩
        case round =>
          clear HGd HS
          obtain ⟨wp, rfl⟩ : ∃ x, x = wr := ⟨_, rfl⟩
          obtain ⟨n0, rfl⟩ : ∃ x, x = gk := ⟨_, rfl⟩
          obtain ⟨pv, rfl⟩ : ∃ x, x = u9 := ⟨_, rfl⟩
          obtain ⟨s, ov, hk, HGd, HS⟩ := hrel
          obtain ⟨P, hP⟩ : ∃ P, s.path = P := ⟨_, rfl⟩
          rw [hP] at HS hk
          cases P with
          | nil =>
            have h0 := HS.out.path.rd
            obtain ⟨Av, cv, e1, -, -, -⟩ := h0
            rw [show (ints (List.reverse [])).length = 0 from rfl] at e1
            subst e1
            have HP := hide hP
            clear hP
            go_wp2_with fail
            rw [Exit.noGoto_normal]
            go_wp2_with fail
            go_roundw
            case rel => exact ⟨st + 1, s, ov, by omega, by go_num, HGd, HP, HS⟩
            case measure => simp [intOf]; omega
          | cons u p =>
            obtain ⟨pb, pc, e1, hpl, hpm, hpb1, hpb2⟩ := HS.out.path.form (by simp [ints])
            rw [show (ints (List.reverse (u :: p))).length = p.length + 1 by simp [ints]] at e1 hpl
            subst e1
            have hpc9 : pc ≤ 9223372036854775807 := by unfold maxLen at hpm; omega
            have hun : u < g.length := HGd.out.inv.bnd u (HGd.out.inv.ent u (HGd.out.inv.pin u (by rw [hP]; simp)))
            have hun' : (u : Int) < g.length := by omega
            have hcp : wp.cell? ⟨pb, p.length, none⟩ = some (.int .i64 (u : Nat)) := HS.out.path.cellAt (by rw [ints_get, List.reverse_cons, List.getElem?_append_right (by simp)]; simp)
            obtain ⟨l, hl⟩ : ∃ l, g[u]? = some l := ⟨_, List.getElem?_eq_getElem hun⟩
            have htl : s.tr u ≤ l.length := by have := HGd.out.tl u; rw [succs_len hl] at this; exact this
            have hpn := HGd.out.inv.pathLen
            rw [hP, List.length_cons] at hpn
            have HL := hide hl
            have HP := hide hP
            have hk' : 2 * (g.length - s.cn) + (p.length + 1) ≤ n0 := by have := hk.out; simpa using this
            have hcnl := HGd.out.inv.cnLe
            clear hl hpb1 hpb2 hpm hP
            go_wp2_with fail
            clear hcp
            go_loopg [9, 13] (l.length - s.tr u) (fun k2 z9 z wr => ∃ (s2 : Tj) (ov2 : Value), z9 = .slice (some ⟨pb, 0, none⟩) (p.length + 1) pc ∧ Hid (s2.tr u + k2 = l.length) ∧ Hid (s2.path = u :: p) ∧ Hid (s2.cn = s.cn) ∧ Hid (Gd g s2 (st + 1)) ∧ Hid (Sat w1 wr q w1.heap.size g.length s2 s2.tr (u :: p) ov2 (.slice (some ⟨pb, 0, none⟩) (p.length + 1) pc)))
            case atStart => exact ⟨s, ov, rfl, hide (by omega), HP, hide rfl, HGd, HS⟩
            case round =>
              obtain ⟨wm, rfl⟩ : ∃ x, x = wr := ⟨_, rfl⟩
              obtain ⟨k2, rfl⟩ : ∃ x, x = gk := ⟨_, rfl⟩
              obtain ⟨s2, ov2, rfl, hj, hp2, hcn2, HGd2, HS2⟩ := hrel
              have hbx := HB.out wm HS2.out.frm
              obtain ⟨Ab, Ao, B, d, rfl, hAb, hcell, hrow⟩ := (HG.out wm HS2.out.frm).at HL.out
              have HR := hide hrow
              obtain ⟨_, _, e3, hd, hdm, hcl⟩ := hrow
              injection e3 with e3 e4 e5
              subst e3 e5
              have hd9 : d ≤ 9223372036854775807 := by unfold maxLen at hdm; omega
              have htc := HS2.out.tried.cellAt (fl_get s2.tr hun)
              have htf := HS2.out.tried.freeAt u
              obtain ⟨j, hjj⟩ : ∃ j, s2.tr u = j := ⟨_, rfl⟩
              have HJ := hide hjj
              have hjl0 := hj.out
              rw [hjj] at htc hjl0
              clear hdm hjj
              by_cases hjl : j < l.length
              · obtain ⟨m, hm⟩ : ∃ m, l[j]? = some m := ⟨_, List.getElem?_eq_getElem hjl⟩
                have hjl' : (j : Int) < l.length := by omega
                obtain ⟨x, rfl, hxn⟩ := ok_node HO.out HL.out hm
                obtain ⟨b2, off2, rfl, hbl2, hcl⟩ := hcl (by omega)
                have hcell2 := hcl j _ hm
                have HSX := hide (succs_get HL.out hm)
                have HE2 : Hid (∀ n, Sat w1 (wm.drewN n) q w1.heap.size g.length s2 s2.tr (u :: p) ov2 (.slice (some ⟨pb, 0, none⟩) (p.length + 1) pc)) := hide (fun n => HS2.out.still ((Frm.refl wm []).drewN n))
                clear hcl hm e4
                go_wp2_with fail
                go_quiet (fail)
                go_wp2_with fail
                go_quiet (fail)
                go_wp2_with fail
                by_cases h0 : s2.turn x = 0
                · refine (enter_new (HE2.out _).tj hxn h0 hN HGd2.out.inv.cnLe HGd2.out.inv.opnLen).mono ?_
                  rintro en w6 ⟨ov', rfl, ht6, hf6, hv6⟩
                  have HS6 := hide ((HE2.out _).call ht6 hf6 hv6)
                  have HG6 := hide (HGd2.out.enter hxn h0 (.inr ⟨u, p, hp2.out, by rw [HJ.out]; exact HSX.out⟩))
                  have hcn6 : s.cn + 1 ≤ g.length := by have := HG6.out.inv.cnLe; have h9 : (s2.enter x).cn = s2.cn + 1 := rfl; have := hcn2.out; omega
                  clear ht6 hf6 hv6 HS2 HE2 hbx htc htf hcell hcell2 HR h0
                  go_wp2_with (first | (refine wpList_append_rd _ rfl _ _ 29 rfl w1.heap.size 3 .i64 8 intE _ (ints (u :: p).reverse) rfl (HS6.out.path.alloc _) _ [(x : Int)] rfl (rd_one w6 3 (x : Int)) ?b1 ?b2 ?b3 ?_))
                  case b1 => rw [ints_len, List.length_reverse, List.length_cons, List.length_singleton]; omega
                  case b2 => unfold maxLen; rw [ints_len, List.length_reverse, List.length_cons, List.length_singleton]; omega
                  case b3 => have := HS6.out.frm.size; rw [World.size_alloc]; omega
                  intro v' w7 ho7 hg7 hb7 hblk
                  have ho7' : Own w7 w1.heap.size 3 .i64 v' (ints (u :: p).reverse ++ [(x : Int)]) := by rw [List.reverse_cons]; exact ho7
                  have HS7 := hide ((HS6.out.still ((Frm.refl w6 []).alloc (.cells #[.int .i64 (x : Int)] 3))).push ho7' (Frm.grown hg7) (hblk.imp id (fun e y hy => by rw [e] at hy; injection hy with e2; first | omega | (rw [← e2]; exact Nat.le_refl _) | (rw [World.size_alloc]; omega))))
                  have hpe : (s2.enter x).path = x :: u :: p := by show x :: s2.path = _; rw [hp2.out]
                  have HPE := hide hpe
                  clear ho7 ho7' hg7 hb7 hblk HS6 hpe
                  go_wp2_with fail
                  go_roundg (n0 - 1)
                  case measure => omega
                  case rel => exact ⟨s2.enter x, ov', hide (by have h9 : (s2.enter x).cn = s2.cn + 1 := rfl; have := hcn2.out; rw [h9, HPE.out, List.length_cons, List.length_cons]; omega), HG6, hide (by rw [HPE.out]; exact HS7.out)⟩
                · refine (enter_old (HE2.out _).tj hxn h0).mono ?_
                  rintro en w6 ⟨rfl, hw6⟩
                  subst hw6
                  have HC := hide (fun n => comp_any (HE2.out n).tj hun hxn)
                  have HG6 := hide (HGd2.out.comp hp2.out (by rw [HJ.out]; exact HSX.out) h0)
                  clear h0 htc htf
                  go_wp2_with fail
                  refine (HC.out _).mono ?_
                  rintro en w7 ⟨rfl, ht7, hf7⟩
                  have HS7 := hide ((HE2.out _).call ht7 hf7 (fun y hy => .inl (by simpa using hy)))
                  have htc := HS7.out.tried.cellAt (fl_get s2.tr hun)
                  have htf := HS7.out.tried.freeAt u
                  rw [HJ.out] at htc
                  have HS8 := hide (HS7.out.turn u (j + 1))
                  have hwj : IntKind.i64.wrap ((j : Int) + 1) = (j : Int) + 1 := IntWalk.i64_in _ (by omega)
                  clear ht7 hf7 HC HE2 HS2 hbx hcell hcell2 HR HS7
                  go_wp2_with fail
                  go_roundg (k2 - 1)
                  case measure => omega
                  case rel => exact ⟨s2.comp u x, ov2, rfl, hide (by show set1 s2.tr u (s2.tr u + 1) u + (k2 - 1) = _; rw [set1_at, HJ.out]; omega), hp2, hcn2, HG6, hide (by
                    have e : (s2.comp u x).tr = set1 s2.tr u (j + 1) := by show set1 s2.tr u (s2.tr u + 1) = _; rw [HJ.out]
                    rw [e]; exact HS8.out)⟩
              · obtain rfl : j = l.length := by omega
                clear hcl e4
                have HE2 : Hid (∀ n, Sat w1 (wm.drewN n) q w1.heap.size g.length s2 s2.tr (u :: p) ov2 (.slice (some ⟨pb, 0, none⟩) (p.length + 1) pc)) := hide (fun n => HS2.out.still ((Frm.refl wm []).drewN n))
                go_wp2_with fail
                go_quiet (fail)
                go_wp2_with fail
                have HD := hide (show (succs g u).length ≤ s2.tr u by rw [succs_len HL.out, HJ.out]; omega)
                by_cases hlow : s2.low u = s2.turn u
                · obtain ⟨a, b, ho⟩ := List.append_of_mem (HGd2.out.inv.pin u (by rw [hp2.out]; simp))
                  refine (leave_shut (HE2.out _).tj p hun hlow ho HGd2.out.inv.nodup (fun y hy => HGd2.out.inv.bnd y (HGd2.out.inv.ent y hy)) hN).mono ?_
                  rintro en w6 ⟨ov', rfl, ht6, hf6, hv6⟩
                  have HS6 := hide ((HE2.out _).call ht6 hf6 (fun y hy => .inl (hv6 y hy)))
                  have HG6 := hide (HGd2.out.shutAt hp2.out HD.out hlow ho)
                  clear ht6 hf6 hv6 HS2 HE2 hbx htc htf hcell HR hlow ho
                  go_wp2_with fail
                  go_roundg (n0 - 1)
                  case measure => omega
                  case rel => exact ⟨s2.shutAt g.length u a p, ov', hide (by have h9 : (s2.shutAt g.length u a p).cn = s2.cn := rfl; have h8 : (s2.shutAt g.length u a p).path = p := rfl; have := hcn2.out; rw [h9, h8]; omega), HG6, hide (HS6.out.pop rfl)⟩
                · refine (leave_keep (HE2.out _).tj hun hlow).mono ?_
                  rintro en w6 ⟨rfl, m6, rfl⟩
                  have hs6 := HE2.out (nq + m6)
                  have t6 := hs6.tj
                  have t7 : TjAt (wm.drewN (nq + m6)) q g.length (s2.keep p) ov2 := ⟨t6.bc, t6.be, t6.rt, t6.bt, t6.rl, t6.bl, t6.rf, t6.bf, t6.bo, t6.ro, t6.far⟩
                  have HS6 := hide (hs6.same t7)
                  clear hs6 t6 t7
                  have HG6 := hide (HGd2.out.keep hp2.out HD.out hlow)
                  clear HS2 HE2 hbx htc htf hcell HR hlow
                  go_wp2_with fail
                  go_roundg (n0 - 1)
                  case measure => omega
                  case rel => exact ⟨s2.keep p, ov2, hide (by have h9 : (s2.keep p).cn = s2.cn := rfl; have h8 : (s2.keep p).path = p := rfl; have := hcn2.out; rw [h9, h8]; omega), HG6, hide (HS6.out.pop rfl)⟩
    · obtain rfl : st = g.length := by omega
      have HZ := hide (And.intro HGd.out (And.intro hp0.out (And.intro HS.out.tj ((HF1.out.1.mono (by simp)).trans HS.out.frm))))
      clear HS
      go_wp2_with fail
      go_end0
      exact ⟨rfl, s, ov, HZ.out.1, HZ.out.2.1, HZ.out.2.2.1, HZ.out.2.2.2⟩
end Go.Proofs.Ytakojoedifhcnaa

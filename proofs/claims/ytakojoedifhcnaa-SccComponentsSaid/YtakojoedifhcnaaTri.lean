/-
  Layer 7 (scc): the chapter's example.
-/
import Derived.Deep.RegionHeld3
import Derived.Test.YtakojoedifhcnaaTOnCyc
namespace Go.Proofs.Ytakojoedifhcnaa
open Go.RowKit

def tri : List (List Int) := [[1], [0, 2], []]
theorem tri_stray : stray tri = tri := by decide
theorem tri_ok : okG tri = true := by decide
theorem tri_edges : edges tri ≤ 1000000 := by decide
theorem tri_two {x : Nat} (h : Way tri 2 x) : x = 2 := by
  induction h with
  | here => rfl
  | @step u z hw hz ih =>
    subst ih
    have : succs tri 2 = [] := by decide
    rw [this] at hz; cases hz
theorem tri_idx {cnt : Nat} {num : Nat → Nat} {lst : List Nat} (h : Lists tri cnt num lst) : cnt = 2 ∧ idx lst num 0 = 1 ∧ idx lst num 1 = 1 ∧ idx lst num 2 = 0 := by
  have hl : tri.length = 3 := rfl
  have e01 : idx lst num 0 = idx lst num 1 := (h.same (by omega) (by omega)).2 ⟨.step .here (by decide), .step .here (by decide)⟩
  have e02 : idx lst num 0 ≠ idx lst num 2 := fun e => by
    have := tri_two ((h.same (by omega) (by omega)).1 e).2
    omega
  have e12 : idx lst num 2 ≤ idx lst num 1 := h.edge tri_ok (by omega) (by decide)
  have l0 := h.lt (x := 0) (by omega)
  have on : ∀ k, k < cnt → idx lst num 0 = k ∨ idx lst num 2 = k := fun k hk => by
    obtain ⟨x, hx, e⟩ := h.onto hk
    rw [hl] at hx
    match x, hx with
    | 0, _ => exact .inl e
    | 1, _ => exact .inl (e01.trans e)
    | 2, _ => exact .inr e
  have o0 := on 0 (by omega)
  have o1 : 1 < cnt → _ := on 1
  have o2 : 2 < cnt → _ := on 2
  omega
theorem tri_on : bl 3 (fun x => path1B tri x x) = [.bool true, .bool true, .bool false] := by rfl
theorem part_three (f : Nat → Nat) (h0 : f 0 = 1) (h1 : f 1 = 1) (h2 : f 2 = 0) : partsTo f 3 2 = [[2], [0, 1]] := by
  simp [partsTo, part, List.range_succ, h0, h1, h2]
section
variable (A : Option Addr) (c : Nat) (W : World)
theorem t_comps (hg : RdL W A c tri) : Calls Try.prog 9 #[.agg #[.slice A 3 c]] W fun en w' => (∃ D d R, en = .returned (.slice (some ⟨D, 0, none⟩) 2 d) ∧ d ≤ 9223372036854775807 ∧ OwnG w' W.heap.size (.slice (some ⟨D, 0, none⟩) 2 d) R [[2], [0, 1]]) ∧ Below W.heap.size W w' := by
  refine (comps_any A c tri W hg (by decide) tri_edges).mono ?_
  rintro en w' ⟨⟨sv, R, cnt, num, lst, rfl, hls, hG⟩, hb⟩
  rw [tri_stray] at hls
  obtain ⟨rfl, h0, h1, h2⟩ := tri_idx hls
  rw [show tri.length = 3 from rfl, part_three _ h0 h1 h2] at hG
  obtain ⟨D, d, e, -, hd, -, -⟩ := hG.own.form (by rw [hG.len]; decide)
  rw [hG.len] at e
  subst e
  exact ⟨⟨D, d, R, rfl, by unfold maxLen at hd; omega, hG⟩, hb⟩
theorem t_index (hg : RdL W A c tri) : Calls Try.prog 12 #[.agg #[.slice A 3 c]] W fun en w' => (∃ F, en = .returned (.slice (some ⟨F, 0, none⟩) 3 3) ∧ Own w' W.heap.size 3 .i64 (.slice (some ⟨F, 0, none⟩) 3 3) [1, 1, 0]) ∧ Below W.heap.size W w' := by
  refine (index_any A c tri W hg (by decide) tri_edges).mono ?_
  rintro en w' ⟨⟨F, cnt, num, lst, rfl, hls, hF⟩, hb⟩
  rw [tri_stray] at hls
  obtain ⟨rfl, h0, h1, h2⟩ := tri_idx hls
  have e : fl tri.length (idx lst num) = [1, 1, 0] := by
    simp [fl, tri, List.range_succ, h0, h1, h2]
  rw [e] at hF
  exact ⟨⟨F, rfl, hF⟩, hb⟩
theorem t_on (hg : RdL W A c tri) : Calls Try.prog 15 #[.agg #[.slice A 3 c]] W fun en w' => (∃ F, en = .returned (.slice (some ⟨F, 0, none⟩) 3 3) ∧ OwnV w' W.heap.size 4 (.slice (some ⟨F, 0, none⟩) 3 3) (bl 3 (fun x => path1B tri x x))) ∧ Below W.heap.size W w' := by
  have h := on_any A c tri W hg (by decide) tri_edges
  rw [tri_stray] at h
  exact h
end
theorem rdv_block (w : World) (t : TypeId) (vs : List Value) (hl : vs.length ≤ maxLen) : RdV (w.alloc (.cells vs.toArray t)) (.slice (some ⟨w.heap.size, 0, none⟩) vs.length vs.length) vs :=
  ⟨_, _, rfl, Nat.le_refl _, hl, fun _ => ⟨w.heap.size, 0, rfl, by simp, fun j z hz => by
    have h := (Whole.new w t vs.toArray).cell (0 + j)
    rw [h, Nat.zero_add]
    simpa using hz⟩⟩
theorem eq_same {u v : Value} {l : List Int} {w : World} (hu : Rd w .i64 u l) (hv : Rd w .i64 v l) : Calls Try.prog 11 #[u, v] w fun e w' => e = .returned (.bool true) ∧ Below w.heap.size w w' :=
  (eqi_any u v l l w hu hv).mono fun _ _ ⟨a, b⟩ => ⟨by rw [a, decide_eq_true rfl], b⟩
/-- What awake holds. -/
structure TriH (w0 w : World) (tb : Nat) (A : Option Addr) (base D d F : Nat) (R : List Value) : Prop where
  gr : RdL w A 3 tri
  cell : w.cell? ⟨tb, 0, none⟩ = some (.slice A 3 3)
  comps : OwnG w base (.slice (some ⟨D, 0, none⟩) 2 d) R [[2], [0, 1]]
  on : OwnV w base 4 (.slice (some ⟨F, 0, none⟩) 3 3) (bl 3 (fun x => path1B tri x x))
  below : Below w0.heap.size w0 w
theorem TriH.next {w0 w w' : World} {tb : Nat} {A : Option Addr} {base D d F : Nat} {R : List Value} (h : TriH w0 w tb A base D d F R) (hb : Below w.heap.size w w') : TriH w0 w' tb A base D d F R :=
  ⟨h.gr.below' hb, (hb.cell (p := ⟨tb, 0, none⟩) (lt_of_cell h.cell)).trans h.cell, h.comps.frm (Frm.below hb), h.on.below' hb, h.below.trans (hb.mono h.below.size)⟩
set_option maxRecDepth 100000 in
set_option maxHeartbeats 4000000 in
theorem awake_any (w : World) : Calls Try.prog 8 #[] w fun en w' => en = .returned (.bool true) ∧ Below w.heap.size w w' := by
  go_enter Try.func8, Try.ntmps8
  go_upto_region 2 with fail
  obtain ⟨a, ha⟩ : ∃ x, w.alloc (.cells #[.int .i64 1] 3) = x := ⟨_, rfl⟩
  have sa : a.heap.size = w.heap.size + 1 := by rw [← ha, World.size_alloc]
  have ba : Below w.heap.size w a := by rw [← ha]; exact (Below.refl _ _).alloc (Nat.le_refl _) _
  have r1 : Rd a .i64 (.slice (some ⟨w.heap.size, 0, none⟩) 1 1) [1] := by rw [← ha]; exact rd_block w 3 [1] (by unfold maxLen; decide)
  rw [ha]
  obtain ⟨b, hb⟩ : ∃ x, a.alloc (.cells #[.int .i64 0, .int .i64 2] 3) = x := ⟨_, rfl⟩
  have sb : b.heap.size = w.heap.size + 1 + 1 := by rw [← hb, World.size_alloc, sa]
  have bb : Below a.heap.size a b := by rw [← hb]; exact (Below.refl _ _).alloc (Nat.le_refl _) _
  have r2 : Rd b .i64 (.slice (some ⟨a.heap.size, 0, none⟩) 2 2) [0, 2] := by rw [← hb]; exact rd_block a 3 [0, 2] (by unfold maxLen; decide)
  rw [hb]
  obtain ⟨c, hc⟩ : ∃ x, b.alloc (.cells #[.slice (some ⟨w.heap.size, 0, none⟩) 1 1, .slice (some ⟨w.heap.size + 1, 0, none⟩) 2 2, .slice none 0 0] 29) = x := ⟨_, rfl⟩
  have sc : c.heap.size = w.heap.size + 1 + 1 + 1 := by rw [← hc, World.size_alloc, sb]
  have bc : Below b.heap.size b c := by rw [← hc]; exact (Below.refl _ _).alloc (Nat.le_refl _) _
  have r3 : RdV c (.slice (some ⟨b.heap.size, 0, none⟩) 3 3) [.slice (some ⟨w.heap.size, 0, none⟩) 1 1, .slice (some ⟨w.heap.size + 1, 0, none⟩) 2 2, .slice none 0 0] := by rw [← hc]; exact rdv_block b 29 [.slice (some ⟨w.heap.size, 0, none⟩) 1 1, .slice (some ⟨w.heap.size + 1, 0, none⟩) 2 2, .slice none 0 0] (by simp [maxLen])
  rw [hc]
  obtain ⟨d, hd⟩ : ∃ x, c.alloc (.cells #[.slice (some ⟨w.heap.size + 1 + 1, 0, none⟩) 3 3] 24) = x := ⟨_, rfl⟩
  have bd : Below c.heap.size c d := by rw [← hd]; exact (Below.refl _ _).alloc (Nat.le_refl _) _
  have cd : d.cell? ⟨w.heap.size + 1 + 1 + 1, 0, none⟩ = some (.slice (some ⟨w.heap.size + 1 + 1, 0, none⟩) 3 3) := by rw [← hd, ← sc]; simp [go_sem]
  rw [hd]
  rw [sa] at r2
  rw [sb] at r3
  have HG : Hid (RdL d.drew (some ⟨w.heap.size + 1 + 1, 0, none⟩) 3 tri) := hide ⟨_, rfl, r3.below' bd.drew, fun i l hi => by
    match i, hi with
    | 0, hi => obtain rfl : [1] = l := by simpa [tri] using hi
               exact ⟨_, _, rfl, ((r1.below' bb).below' bc).below' bd.drew⟩
    | 1, hi => obtain rfl : [0, 2] = l := by simpa [tri] using hi
               exact ⟨_, _, rfl, (r2.below' bc).below' bd.drew⟩
    | 2, hi => obtain rfl : [] = l := by simpa [tri] using hi
               exact ⟨_, _, rfl, Rd.nil⟩
    | i + 3, hi => simp [tri] at hi⟩
  have HB : Hid (Below w.heap.size w d.drew) := hide ((((ba.trans (bb.mono ba.size)).trans (bc.mono (by omega))).trans (bd.mono (by omega))).drew)
  obtain ⟨tb, htb⟩ : ∃ x, w.heap.size + 1 + 1 + 1 = x := ⟨_, rfl⟩
  obtain ⟨gb, hgb⟩ : ∃ x, w.heap.size + 1 + 1 = x := ⟨_, rfl⟩
  have cc : d.drew.cell? ⟨w.heap.size + 1 + 1 + 1, 0, none⟩ = some (.slice (some ⟨w.heap.size + 1 + 1, 0, none⟩) 3 3) := cd
  rw [htb, hgb] at cc
  rw [hgb] at HG
  rw [htb, hgb]
  clear ha hb hc hd sa sb sc ba bb bc bd r1 r2 r3 cd htb hgb
  go_region_held3 (fun w' => w'.cell? ⟨tb, 0, none⟩ = some (.slice (some ⟨gb, 0, none⟩) 3 3)) (first | exact cc) (first | (go_at_call 9; refine (t_comps _ 3 _ HG.out).mono ?_; rintro en w1 ⟨⟨D, dc, R, rfl, hdc, hG⟩, hb⟩; replace cc := (hb.cell (p := ⟨tb, 0, none⟩) (lt_of_cell cc)).trans cc; have HC := hide (hG.low HB.out.size); replace HG := hide (HG.out.below' hb); replace HB := hide (HB.out.trans (hb.mono HB.out.size)); clear hb hG) | (go_at_call 15; refine (t_on _ 3 _ HG.out).mono ?_; rintro en w2 ⟨⟨F, rfl, hF⟩, hb⟩; replace cc := (hb.cell (p := ⟨tb, 0, none⟩) (lt_of_cell cc)).trans cc; have HF := hide (hF.low HB.out.size); replace HC := hide (HC.out.frm (Frm.below hb)); replace HG := hide (HG.out.below' hb); replace HB := hide (HB.out.trans (hb.mono HB.out.size)); clear hb hF))
  all_goals
    obtain ⟨v0, v1, rfl⟩ : ∃ v0 v1, R = [v0, v1] := by
      have := HC.out.len
      match R, this with
      | [a, b], _ => exact ⟨a, b, rfl⟩
    have HT : Hid (TriH w w2 tb (some ⟨gb, 0, none⟩) w.heap.size D dc F [v0, v1]) := hide ⟨HG.out, cc, HC.out, HF.out, HB.out⟩
    have c0 : w2.cell? ⟨D, 0, none⟩ = some v0 := HC.out.own.cellAt (j := 0) rfl
    have hr0 := (HC.out.row 0 v0 _ rfl rfl).rd
    have hr1 := (HC.out.row 1 v1 _ rfl rfl).rd
    have HR0 := hide hr0
    have HR1 := hide hr1
    obtain ⟨B0, d0, rfl, -⟩ := hr0
    obtain ⟨B1, d1, rfl, -⟩ := hr1
    clear HG HC HF HB cc
    obtain ⟨x1, hx1⟩ : ∃ x, w2.alloc (.cells #[.int .i64 2] 3) = x := ⟨_, rfl⟩
    have hb1 : Below w2.heap.size w2 x1 := by rw [← hx1]; exact (Below.refl _ _).alloc (Nat.le_refl _) _
    have HE1 := hide (eq_same (HR0.out.below' hb1) (by rw [← hx1]; exact rd_block w2 3 [2] (by simp [maxLen])))
    have HT1 := hide (HT.out.next hb1)
    have HR1b := hide (HR1.out.below' hb1)
    clear hb1
    go_wp2_with fail
    refine HE1.out.mono ?_
    rintro en x2 ⟨rfl, hb2⟩
    have HT2 := hide (HT1.out.next hb2)
    have HR1c := hide (HR1b.out.below' hb2)
    have c1 : x2.cell? ⟨D, 1, none⟩ = some (.slice B1 2 d1) := HT2.out.comps.own.cellAt (j := 1) rfl
    obtain ⟨x3, hx3⟩ : ∃ x, x2.alloc (.cells #[.int .i64 0, .int .i64 1] 3) = x := ⟨_, rfl⟩
    have hb3 : Below x2.heap.size x2 x3 := by rw [← hx3]; exact (Below.refl _ _).alloc (Nat.le_refl _) _
    have HE3 := hide (eq_same (HR1c.out.below' hb3) (by rw [← hx3]; exact rd_block x2 3 [0, 1] (by simp [maxLen])))
    have HT3 := hide (HT2.out.next hb3)
    clear hb2 hb3 hx1 HE1 c0
    go_wp2_with fail
    refine HE3.out.mono ?_
    rintro en x4 ⟨rfl, hb4⟩
    have HT4 := hide (HT3.out.next hb4)
    have cx := HT4.out.cell
    have HI4 := hide (t_index _ 3 _ HT4.out.gr)
    clear hb4 hx3 HE3 c1
    go_wp2_with fail
    refine HI4.out.mono ?_
    rintro en x5 ⟨⟨Fi, rfl, hFi⟩, hb5⟩
    have HT5 := hide (HT4.out.next hb5)
    obtain ⟨x6, hx6⟩ : ∃ x, x5.alloc (.cells #[.int .i64 1, .int .i64 1, .int .i64 0] 3) = x := ⟨_, rfl⟩
    have hb6 : Below x5.heap.size x5 x6 := by rw [← hx6]; exact (Below.refl _ _).alloc (Nat.le_refl _) _
    have HE6 := hide (eq_same (hFi.rd.below' hb6) (by rw [← hx6]; exact rd_block x5 3 [1, 1, 0] (by simp [maxLen])))
    have HT6 := hide (HT5.out.next hb6)
    clear hb5 hb6 hFi cx HI4
    go_wp2_with fail
    refine HE6.out.mono ?_
    rintro en x7 ⟨rfl, hb7⟩
    have HT7 := hide (HT6.out.next hb7)
    obtain ⟨x8, hx8⟩ : ∃ x, x7.alloc (.cells #[.bool true, .bool true, .bool false] 4) = x := ⟨_, rfl⟩
    have hb8 : Below x7.heap.size x7 x8 := by rw [← hx8]; exact (Below.refl _ _).alloc (Nat.le_refl _) _
    have HT8 := hide (HT7.out.next hb8)
    have HE8 := hide (eqb_any _ _ 3 (fun x => path1B tri x x) x8 HT8.out.on.rd (by rw [← hx8, tri_on]; exact rdv_block x7 4 [.bool true, .bool true, .bool false] (by simp [maxLen])))
    clear hb7 hb8 hx6 HE6
    go_wp2_with fail
    refine HE8.out.mono ?_
    rintro en x9 ⟨rfl, hb9⟩
    have HT9 := hide (HT8.out.next hb9)
    clear hb9 hx8 HE8
    go_wp2_with fail
    go_ret
    exact ⟨rfl, HT9.out.below⟩
end Go.Proofs.Ytakojoedifhcnaa

/-
  Layer 7 (scc): firstMembers: the boxes, the search, and what it leaves.
-/
import Derived.Test.YtakojoedifhcnaaTSearch
namespace Go.Proofs.Ytakojoedifhcnaa
open Go.RowKit

/-- The boxes that firstMembers makes. -/
theorem tj_new {N : Nat} (hN : N ≤ 65536) {w1 a b c d e f h i j : World}
    (h1 : w1.alloc (.cells #[.int .i64 ((N : Int) + 1)] 3) = a)
    (h2 : a.alloc (.cells #[.int .i64 0] 3) = b)
    (h3 : b.alloc (.cells (madeCells #[.int .i64 0] N) 3) = c)
    (h4 : c.alloc (.cells #[.slice (some ⟨w1.heap.size + 2, 0, none⟩) N N] 29) = d)
    (h5 : d.alloc (.cells (madeCells #[.int .i64 0] N) 3) = e)
    (h6 : e.alloc (.cells #[.slice (some ⟨w1.heap.size + 4, 0, none⟩) N N] 29) = f)
    (h7 : f.alloc (.cells (madeCells #[.int .i64 0] N) 3) = h)
    (h8 : h.alloc (.cells #[.slice (some ⟨w1.heap.size + 6, 0, none⟩) N N] 29) = i)
    (h9 : i.alloc (.cells #[.slice none 0 0] 29) = j) :
    TjAt j w1.heap.size N Tj.zero (.slice none 0 0) ∧ Frm w1 j [] ∧ a.heap.size = w1.heap.size + 1 ∧ b.heap.size = w1.heap.size + 2 ∧ c.heap.size = w1.heap.size + 3 ∧ d.heap.size = w1.heap.size + 4 ∧ e.heap.size = w1.heap.size + 5 ∧ f.heap.size = w1.heap.size + 6 ∧ h.heap.size = w1.heap.size + 7 ∧ i.heap.size = w1.heap.size + 8 := by
  obtain ⟨q, hq⟩ : ∃ x, w1.heap.size = x := ⟨_, rfl⟩
  rw [hq] at h4 h6 h8 ⊢
  have sa : a.heap.size = q + 1 := by rw [← h1, World.size_alloc, hq]
  have sb : b.heap.size = q + 2 := by rw [← h2, World.size_alloc, sa]
  have sc : c.heap.size = q + 3 := by rw [← h3, World.size_alloc, sb]
  have sd : d.heap.size = q + 4 := by rw [← h4, World.size_alloc, sc]
  have se : e.heap.size = q + 5 := by rw [← h5, World.size_alloc, sd]
  have sf : f.heap.size = q + 6 := by rw [← h6, World.size_alloc, se]
  have sh : h.heap.size = q + 7 := by rw [← h7, World.size_alloc, sf]
  have si : i.heap.size = q + 8 := by rw [← h8, World.size_alloc, sh]
  have fj : Frm i j [] := by rw [← h9]; exact (Frm.refl _ _).alloc _
  have fi : Frm h j [] := by refine Frm.trans ?_ fj; rw [← h8]; exact (Frm.refl _ _).alloc _
  have fh : Frm f j [] := by refine Frm.trans ?_ fi; rw [← h7]; exact (Frm.refl _ _).alloc _
  have ff : Frm e j [] := by refine Frm.trans ?_ fh; rw [← h6]; exact (Frm.refl _ _).alloc _
  have fe : Frm d j [] := by refine Frm.trans ?_ ff; rw [← h5]; exact (Frm.refl _ _).alloc _
  have fd : Frm c j [] := by refine Frm.trans ?_ fe; rw [← h4]; exact (Frm.refl _ _).alloc _
  have fc : Frm b j [] := by refine Frm.trans ?_ fd; rw [← h3]; exact (Frm.refl _ _).alloc _
  have fb : Frm a j [] := by refine Frm.trans ?_ fc; rw [← h2]; exact (Frm.refl _ _).alloc _
  have fa : Frm w1 j [] := by refine Frm.trans ?_ fb; rw [← h1]; exact (Frm.refl _ _).alloc _
  have row : ∀ {W W' : World}, W.alloc (.cells (madeCells #[.int .i64 0] N) 3) = W' → q ≤ W.heap.size → Own W' q 3 .i64 (.slice (some ⟨W.heap.size, 0, none⟩) N N) (fl N (fun _ => 0)) := fun {W W'} hW hb => by
    rw [← hW]
    have := own_madeV W 3 (.int .i64 0) N q (by unfold maxLen; omega) hb
    refine OwnV.toI ?_
    have e : (fl N (fun _ => 0)).map (Value.int .i64) = List.replicate N (.int .i64 0) := by
      unfold fl; apply List.ext_getElem <;> simp
    rw [e]; exact this
  have box : ∀ {W W' : World} {t : TypeId} {v : Value}, W.alloc (.cells #[v] t) = W' → Whole W' W.heap.size t #[v] := fun {W W' t v} hW => by rw [← hW]; exact Whole.new ..
  have x1 := box h1
  have x2 := box h2
  have r3 := row h3 (by omega)
  have x4 := box h4
  have r5 := row h5 (by omega)
  have x6 := box h6
  have r7 := row h7 (by omega)
  have x8 := box h8
  have x9 := box h9
  rw [hq] at x1
  rw [sa] at x2
  rw [sb] at r3
  rw [sc] at x4
  rw [sd] at r5
  rw [se] at x6
  rw [sf] at r7
  rw [sh] at x8
  rw [si] at x9
  exact ⟨⟨x1.frm fb (by simp), x2.frm fc (by simp), r3.frmS fd (by simp), x4.frm fe (by simp), r5.frmS ff (by simp), x6.frm fh (by simp), r7.frmS fi (by simp), x8.frm fj (by simp), x9, Own.nil, by simp [Value.ownBlock]⟩, fa, sa, sb, sc, sd, se, sf, sh, si⟩

set_option maxRecDepth 100000 in
/-- firstMembers: a row that says of each node the first of its component. -/
theorem first_any (A : Option Addr) (c : Nat) (g : List (List Int)) (w : World) (hg : RdL w A c g) (hok : okG g = true) (hN : g.length ≤ 65536) :
    Calls Try.prog 27 #[.agg #[.slice A g.length c]] w fun en w' => (∃ f F, en = .returned (.slice (some ⟨F, 0, none⟩) g.length g.length) ∧ (∀ x, x < g.length → f x < g.length) ∧ (∀ x y, x < g.length → y < g.length → (f x = f y ↔ SC g x y)) ∧ Own w' w.heap.size 3 .i64 (.slice (some ⟨F, 0, none⟩) g.length g.length) (fl g.length f)) ∧ Below w.heap.size w w' := by
  have hmk := fun W : World => run_made W 29 3 (.int .i64 0) 8 Try.underlying29 infoInt rfl (by omega) g.length (by omega)
  have hwN : IntKind.i64.wrap ((g.length : Int) + 1) = (g.length : Int) + 1 := IntWalk.i64_in _ (by omega)
  obtain ⟨w1, hw1⟩ : ∃ x, w.alloc (.cells #[.slice A g.length c] 24) = x := ⟨_, rfl⟩
  have hf1 : Frm w w1 [] := by rw [← hw1]; exact (Frm.refl _ _).alloc _
  have hs1 : w1.heap.size = w.heap.size + 1 := by rw [← hw1, World.size_alloc]
  have hbox : w1.cell? ⟨w.heap.size, 0, none⟩ = some (.slice A g.length c) := by rw [← hw1]; simp [go_sem]
  obtain ⟨wa, ha⟩ : ∃ x, w1.alloc (.cells #[.int .i64 ((g.length : Int) + 1)] 3) = x := ⟨_, rfl⟩
  obtain ⟨wb, hb⟩ : ∃ x, wa.alloc (.cells #[.int .i64 0] 3) = x := ⟨_, rfl⟩
  obtain ⟨wc, hc⟩ : ∃ x, wb.alloc (.cells (madeCells #[.int .i64 0] g.length) 3) = x := ⟨_, rfl⟩
  obtain ⟨wd, hd⟩ : ∃ x, wc.alloc (.cells #[.slice (some ⟨w1.heap.size + 2, 0, none⟩) g.length g.length] 29) = x := ⟨_, rfl⟩
  obtain ⟨we, he⟩ : ∃ x, wd.alloc (.cells (madeCells #[.int .i64 0] g.length) 3) = x := ⟨_, rfl⟩
  obtain ⟨wf, hf⟩ : ∃ x, we.alloc (.cells #[.slice (some ⟨w1.heap.size + 4, 0, none⟩) g.length g.length] 29) = x := ⟨_, rfl⟩
  obtain ⟨wh, hh⟩ : ∃ x, wf.alloc (.cells (madeCells #[.int .i64 0] g.length) 3) = x := ⟨_, rfl⟩
  obtain ⟨wi, hi⟩ : ∃ x, wh.alloc (.cells #[.slice (some ⟨w1.heap.size + 6, 0, none⟩) g.length g.length] 29) = x := ⟨_, rfl⟩
  obtain ⟨wj, hj⟩ : ∃ x, wi.alloc (.cells #[.slice none 0 0] 29) = x := ⟨_, rfl⟩
  obtain ⟨htj, hfj, sa, sb, sc, sd, se, sf, sh, si⟩ := tj_new hN ha hb hc hd he hf hh hi hj
  have e1 : wb.cell? ⟨w1.heap.size + 1, 0, none⟩ = some (.int .i64 0) := by rw [← hb, ← sa]; simp [go_sem]
  have e2 : wb.frozen? ⟨w1.heap.size + 1, 0, none⟩ = false := by rw [← hb, ← sa]; simp [go_sem]
  have e3 : wb.setCell ⟨w1.heap.size + 1, 0, none⟩ (.int .i64 0) = wb := by rw [← hb, ← sa]; simp [go_sem]
  have e4 : wj.cell? ⟨w.heap.size, 0, none⟩ = some (.slice A g.length c) := (hfj.cell (p := ⟨w.heap.size, 0, none⟩) (by show w.heap.size < _; omega) (by simp)).trans hbox
  have HT := hide htj
  have HF := hide (hf1.trans hfj)
  have HG := hide hg
  have HK := hide hok
  have hsz : wj.heap.size = w.heap.size + 10 := by rw [← hj, World.size_alloc, si]; omega
  rw [hs1] at sa sb sc sd se sf sh si e1 e2 e3 hd hf hi
  clear htj hfj hf1 hg hok
  go_enter Try.func27, Try.ntmps27
  go_wp2_with fail
  refine (search_any A c g (w.heap.size + 1) wj w HG.out (HF.out.toBelow (by simp) (Nat.le_refl _)) (by omega) HK.out hN (by rw [← hs1]; exact HT.out)).mono ?_
  rintro en w6 ⟨rfl, s, ov, hgd, hp, ht, hf6⟩
  have HD := hide (hgd.done hp)
  have c0 : w6.cell? ⟨w.heap.size + 1 + 7, 0, none⟩ = some (.slice (some ⟨w.heap.size + 1 + 6, 0, none⟩) g.length g.length) := ht.bf.cell 0
  have HZ : Hid (Own w6 w.heap.size 3 .i64 (.slice (some ⟨w.heap.size + 1 + 6, 0, none⟩) g.length g.length) (fl g.length s.first) ∧ Below w.heap.size w w6) := hide ⟨ht.rf.low (by omega), ((HF.out.mono (by simp)).trans hf6).toBelow (fun x hx => by unfold F5 at hx; simp at hx; omega) (Nat.le_refl _)⟩
  clear hgd hp ht hf6 e1 e2 e3 e4 hmk
  go_wp2_with fail
  go_ret
  exact ⟨⟨s.first, _, rfl, HD.out.1, HD.out.2, HZ.out.1⟩, HZ.out.2⟩
end Go.Proofs.Ytakojoedifhcnaa

/-
  Layer 7 (scc): arrange: the queue and the two rows in memory.
-/
import Derived.Test.YtakojoedifhcnaaTArr
import Derived.Test.YtakojoedifhcnaaTPop
namespace Go.Proofs.Ytakojoedifhcnaa
open Go.RowKit

theorem Bag.few {h : Nat → Nat} {n N : Nat} {S : Nat → Prop} (b : Bag h n S) (hS : ∀ x, S x → x < N) : n ≤ N := by
  have h1 : ((List.range n).map h).Nodup := by
    rw [List.nodup_iff_pairwise_ne, List.pairwise_map]
    refine List.Pairwise.imp_of_mem ?_ List.nodup_range
    intro i j hi hj hne e
    exact hne (b.inj i j (List.mem_range.1 hi) (List.mem_range.1 hj) e)
  have := nodup_len (n := N) h1 (fun x hx => by
    obtain ⟨i, hi, rfl⟩ := List.mem_map.1 hx
    exact hS _ (b.mem i (List.mem_range.1 hi)))
  simpa using this
theorem count_hits (c : Nat) (b a : Nat) (l : List Int) : (hits b a l).count (c : Int) = if a = c then l.count (b : Int) else 0 := by
  unfold hits
  induction l with
  | nil => split <;> rfl
  | cons m l ih =>
    by_cases e : m = (b : Int)
    · have e1 : (m == (b : Int)) = true := by simpa using e
      rw [List.filter_cons, if_pos e1, List.map_cons, List.count_cons, ih, List.count_cons, e1]
      by_cases h : a = c
      · subst h; simp
      · have : ¬ ((a : Int) == (c : Int)) = true := by simp; omega
        rw [if_neg h, if_neg h, if_neg this]
    · have e1 : ¬ (m == (b : Int)) = true := by simpa using e
      rw [List.filter_cons, if_neg e1, ih, List.count_cons, if_neg e1]; rfl
theorem count_revTo (g : List (List Int)) (c b : Nat) : ∀ n, (revTo g n b).count (c : Int) = if c < n then (g.getD c []).count (b : Int) else 0
  | 0 => by simp [revTo]
  | n + 1 => by
    rw [revTo_succ, List.count_append, count_revTo g c b n, count_hits]
    by_cases h1 : c < n
    · rw [if_pos h1, if_neg (by omega), if_pos (by omega)]; rfl
    · by_cases h2 : n = c
      · subst h2; rw [if_neg h1, if_pos rfl, if_pos (by omega), Nat.zero_add]
      · rw [if_neg h1, if_neg h2, if_neg (by omega)]
theorem revTo_mem (g : List (List Int)) (b n : Nat) {m : Int} (h : m ∈ revTo g n b) : ∃ x : Nat, m = x ∧ x < n := by
  unfold revTo at h
  obtain ⟨x, hx, h⟩ := List.mem_flatMap.1 h
  unfold hits at h
  obtain ⟨_, _, e⟩ := List.mem_map.1 h
  exact ⟨x, e.symm, List.mem_range.1 hx⟩
theorem row_edges {C : List (List Int)} (hE : edges C ≤ 1000000) (y : Nat) : (C.getD y []).length ≤ 1000000 := by
  by_cases hy : y < C.length
  · obtain ⟨l, hl⟩ : ∃ l, C[y]? = some l := ⟨_, List.getElem?_eq_getElem hy⟩
    rw [getD_of hl]
    have h3 := sum_take (C.map List.length) (y + 1)
    rw [List.take_add_one, List.sum_append, List.getElem?_map, hl] at h3
    unfold edges at hE
    simp only [Option.map_some, Option.toList_some, List.sum_cons, List.sum_nil] at h3
    omega
  · rw [List.getD_eq_getElem?_getD, List.getElem?_eq_none (by omega)]; simp
theorem miss_le (C : List (List Int)) (lst : List Nat) (k : Nat) : miss C lst k ≤ (C.getD k []).length := List.length_filter_le _ _

/-- What arrange holds: the queue sv at hb, the missing counts in block M, the places in block P. -/
structure ArrJ (w8 wr : World) (N M hb P qb mb : Nat) (svb : List Nat) (Q : Nat → Prop) (ms pl h : Nat → Nat) (n : Nat) (sv : Value) : Prop where
  q : QAt wr hb qb sv n h
  heap : HeapOk h n
  bag : Bag h n Q
  m : Own wr mb 3 .i64 (.slice (some ⟨M, 0, none⟩) N N) (fl N ms)
  p : Own wr mb 3 .i64 (.slice (some ⟨P, 0, none⟩) N N) (fl N pl)
  frm : Frm w8 wr (M :: hb :: P :: svb)
  new : ∀ b, sv.ownBlock = some b → (b ∈ svb ∨ w8.heap.size ≤ b) ∧ b ≠ M ∧ b ≠ P
  ne : M ≠ hb ∧ M ≠ P ∧ P ≠ hb
section
variable {w8 wr w' : World} {N M hb P qb mb n n' : Nat} {svb : List Nat} {Q Q' : Nat → Prop} {ms pl h h' : Nat → Nat} {sv sv' : Value}
theorem ArrJ.queue (j : ArrJ w8 wr N M hb P qb mb svb Q ms pl h n sv) (hf : Frm wr w' (hb :: sv.ownBlock.toList)) (hq : QAt w' hb qb sv' n' h') (ho : HeapOk h' n') (hbag : Bag h' n' Q') (hb' : sv'.ownBlock = sv.ownBlock ∨ ∀ b, sv'.ownBlock = some b → wr.heap.size ≤ b) : ArrJ w8 w' N M hb P qb mb svb Q' ms pl h' n' sv' := by
  have hM := (j.m.size M rfl).2
  have hP := (j.p.size P rfl).2
  refine ⟨hq, ho, hbag, j.m.frmS hf (fun y hy hm => ?_), j.p.frmS hf (fun y hy hm => ?_), j.frm.trans' hf (fun y hy => ?_), fun b hbk => ?_, j.ne⟩
  · have e : M = y := by simpa [Value.ownBlock] using hy
    subst e
    rcases List.mem_cons.1 hm with e | hm
    · exact j.ne.1 e
    · exact (j.new M (by simpa using hm)).2.1 rfl
  · have e : P = y := by simpa [Value.ownBlock] using hy
    subst e
    rcases List.mem_cons.1 hm with e | hm
    · exact j.ne.2.2 e
    · exact (j.new P (by simpa using hm)).2.2 rfl
  · rcases List.mem_cons.1 hy with e | hm
    · exact .inl (by simp [e])
    · exact (j.new y (by simpa using hm)).1.imp (fun h => by simp [h]) id
  · rcases hb' with e | e
    · exact j.new b (e ▸ hbk)
    · have h1 := e b hbk
      have h2 := j.frm.size
      exact ⟨.inr (by omega), by omega, by omega⟩
theorem ArrJ.setM (j : ArrJ w8 wr N M hb P qb mb svb Q ms pl h n sv) (y v : Nat) : ArrJ w8 (wr.setCell ⟨M, y, none⟩ (.int .i64 (v : Nat))) N M hb P qb mb svb Q (set1 ms y v) pl h n sv := by
  have hf : Frm wr (wr.setCell ⟨M, y, none⟩ (.int .i64 (v : Nat))) [M] := (Frm.refl _ _).setCell _ _ (.inl (by simp))
  have hset := j.m.set y (v : Int)
  rw [fl_set (h := set1 ms y v) (set1_at _ _ _) (fun z hz => set1_ne _ _ hz)] at hset
  refine ⟨j.q.frm hf (by simpa using fun e : hb = M => j.ne.1 e.symm) (fun x hx hm => (j.new x hx).2.1 (List.mem_singleton.1 hm)), j.heap, j.bag, hset, j.p.frmS hf (fun x hx hm => ?_), j.frm.trans' hf (fun x hx => .inl (by simp [List.mem_singleton.1 hx])), j.new, j.ne⟩
  have e : P = x := by simpa [Value.ownBlock] using hx
  exact j.ne.2.1 (by rw [e]; exact (List.mem_singleton.1 hm).symm)
theorem ArrJ.setP (j : ArrJ w8 wr N M hb P qb mb svb Q ms pl h n sv) (y v : Nat) : ArrJ w8 (wr.setCell ⟨P, y, none⟩ (.int .i64 (v : Nat))) N M hb P qb mb svb Q ms (set1 pl y v) h n sv := by
  have hf : Frm wr (wr.setCell ⟨P, y, none⟩ (.int .i64 (v : Nat))) [P] := (Frm.refl _ _).setCell _ _ (.inl (by simp))
  have hset := j.p.set y (v : Int)
  rw [fl_set (h := set1 pl y v) (set1_at _ _ _) (fun z hz => set1_ne _ _ hz)] at hset
  refine ⟨j.q.frm hf (by simpa using fun e : hb = P => j.ne.2.2 e.symm) (fun x hx hm => (j.new x hx).2.2 (List.mem_singleton.1 hm)), j.heap, j.bag, j.m.frmS hf (fun x hx hm => ?_), hset, j.frm.trans' hf (fun x hx => .inl (by simp [List.mem_singleton.1 hx])), j.new, j.ne⟩
  have e : M = x := by simpa [Value.ownBlock] using hx
  exact j.ne.2.1 (e.trans (List.mem_singleton.1 hm))
theorem ArrJ.bags (j : ArrJ w8 wr N M hb P qb mb svb Q ms pl h n sv) (e : ∀ x, Q x ↔ Q' x) : ArrJ w8 wr N M hb P qb mb svb Q' ms pl h n sv := ⟨j.q, j.heap, j.bag.congr e, j.m, j.p, j.frm, j.new, j.ne⟩
end
theorem place_snoc {lst : List Nat} {pl : Nat → Nat} {x : Nat} (h : ∀ i k, lst[i]? = some k → pl k = i) (hx : x ∉ lst) : ∀ i k, (lst ++ [x])[i]? = some k → set1 pl x lst.length k = i := by
  intro i k hk
  by_cases c : i < lst.length
  · rw [List.getElem?_append_left c] at hk
    rw [set1_ne _ _ (fun e => hx (by rw [← e]; exact List.mem_of_getElem? hk))]
    exact h i k hk
  · have hil := (List.getElem?_eq_some_iff.1 hk).1
    rw [List.length_append, List.length_singleton] at hil
    obtain rfl : i = lst.length := by omega
    rw [List.getElem?_append_right (Nat.le_refl _), Nat.sub_self, List.getElem?_cons_zero] at hk
    injection hk with hk
    rw [← hk, set1_at]
end Go.Proofs.Ytakojoedifhcnaa

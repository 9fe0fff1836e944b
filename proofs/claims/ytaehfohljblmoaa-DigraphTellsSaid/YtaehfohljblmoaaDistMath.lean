/-
  Layer 6 (digraph): distances, reckoned; the queue in memory.
-/
import Derived.Test.YtaehfohljblmoaaPreds
import Derived.ArgAppend
namespace Go.Proofs.Ytaehfohljblmoaa
open Go.RowKit

/-- The successors of u that nobody has reached, one step further than u. -/
def relax (u : Nat) : List Nat → List Int → List Nat → List Int × List Nat
  | [], d, q => (d, q)
  | x :: r, d, q => if d.getD x 0 = -1 then relax u r (d.set x (d.getD u 0 + 1)) (q ++ [x]) else relax u r d q
def bfs (g : List (List Int)) : Nat → List Int → List Nat → List Int
  | 0, d, _ => d
  | _ + 1, d, [] => d
  | k + 1, d, u :: q => bfs g k (relax u (succs g u) d q).1 (relax u (succs g u) d q).2
def dist0 (n v : Nat) : List Int := (List.replicate n (-1)).set v 0
/-- For each node the number of edges of a shortest path to it. -/
def dist (g : List (List Int)) (v : Nat) : List Int := bfs g g.length (dist0 g.length v) [v]
theorem bfs_nil (g : List (List Int)) (k : Nat) (d : List Int) : bfs g k d [] = d := by cases k <;> rfl

/-- How many are not reached. -/
def unr : List Int → Nat
  | [] => 0
  | z :: r => (if z = -1 then 1 else 0) + unr r
theorem unr_set : ∀ (d : List Int) (x : Nat) (y : Int), d[x]? = some (-1) → y ≠ -1 → unr (d.set x y) + 1 = unr d
  | [], x, y, h, _ => by simp at h
  | z :: r, 0, y, h, hy => by
    simp only [List.getElem?_cons_zero, Option.some.injEq] at h
    subst h
    simp only [List.set_cons_zero, unr, if_neg hy, if_true]
    omega
  | z :: r, x + 1, y, h, hy => by
    have := unr_set r x y (by simpa using h) hy
    simp only [List.set_cons_succ, unr]
    omega
theorem unr_rep : ∀ n, unr (List.replicate n (-1)) = n
  | 0 => rfl
  | n + 1 => by rw [List.replicate_succ]; unfold unr; rw [unr_rep n]; simp; omega
theorem unr_dist0 {n v : Nat} (h : v < n) : unr (dist0 n v) + 1 = n := by
  have := unr_set (List.replicate n (-1)) v 0 (by rw [List.getElem?_replicate, if_pos h]) (by omega)
  rw [unr_rep] at this
  exact this

/-- What holds of the distances and of the queue while k nodes at most are still to come. -/
structure Fair (n k : Nat) (d : List Int) (q : List Nat) : Prop where
  len : d.length = n
  big : ∀ z ∈ d, -1 ≤ z ∧ z + k ≤ n
  inq : ∀ u ∈ q, u < n ∧ 0 ≤ d.getD u 0
  left : unr d + q.length ≤ k
  k_le : k ≤ n
theorem getD_get {d : List Int} {x : Nat} (h : x < d.length) : d[x]? = some (d.getD x 0) := by rw [List.getD_eq_getElem?_getD, List.getElem?_eq_getElem h]; rfl
theorem getD_set {d : List Int} {x y : Nat} {z : Int} (h : x < d.length) : (d.set x z).getD y 0 = if x = y then z else d.getD y 0 := by
  by_cases e : x = y
  · subst e; rw [if_pos rfl, List.getD_eq_getElem?_getD, List.getElem?_set_self h]; rfl
  · rw [if_neg e, List.getD_eq_getElem?_getD, List.getElem?_set_ne e, ← List.getD_eq_getElem?_getD]
theorem mem_set_or {d : List Int} {x : Nat} {y z : Int} (h : z ∈ d.set x y) : z ∈ d ∨ z = y := by
  rcases List.mem_or_eq_of_mem_set h with h | h
  · exact .inl h
  · exact .inr h
/-- The same while the successors of u are gone through; u, at distance e, still stands at the queue's head. -/
structure Inn (n k u : Nat) (e : Int) (d : List Int) (q : List Nat) : Prop where
  len : d.length = n
  big : ∀ z ∈ d, -1 ≤ z ∧ z + k ≤ n
  inq : ∀ y ∈ q, y < n ∧ 0 ≤ d.getD y 0
  left : unr d + q.length ≤ k
  k_le : k ≤ n
  un : u < n
  du : d.getD u 0 = e
  e0 : 0 ≤ e
  e1 : e + 1 + k ≤ n
theorem Fair.inn {n k u : Nat} {d : List Int} {q : List Nat} (h : Fair n (k + 1) d (u :: q)) : Inn n k u (d.getD u 0) d q := by
  have hu := h.inq u (List.mem_cons_self ..)
  have hb := h.big (d.getD u 0) (List.mem_of_getElem? (getD_get (by rw [h.len]; exact hu.1)))
  have hl := h.left
  have hk := h.k_le
  simp only [List.length_cons] at hl
  exact ⟨h.len, fun z hz => by have := h.big z hz; omega, fun y hy => h.inq y (List.mem_cons_of_mem _ hy), by omega, by omega, hu.1, rfl, hu.2, by omega⟩
theorem Inn.fair {n k u : Nat} {e : Int} {d : List Int} {q : List Nat} (h : Inn n k u e d q) : Fair n k d q := ⟨h.len, h.big, h.inq, h.left, h.k_le⟩
theorem Inn.reach {n k u x : Nat} {e : Int} {d : List Int} {q : List Nat} (h : Inn n k u e d q) (hx : x < n) (hd : d.getD x 0 = -1) : Inn n k u e (d.set x (e + 1)) (q ++ [x]) := by
  have hxl : x < d.length := by rw [h.len]; exact hx
  have hux : x ≠ u := fun c => by have := h.du; have := h.e0; rw [c] at hd; omega
  have e0 := h.e0
  have e1 := h.e1
  refine ⟨by rw [List.length_set]; exact h.len, fun z hz => ?_, fun y hy => ?_, ?_, h.k_le, h.un, ?_, h.e0, h.e1⟩
  · rcases mem_set_or hz with h1 | rfl
    · exact h.big z h1
    · omega
  · rw [getD_set hxl]
    rcases List.mem_append.1 hy with h1 | h1
    · have := h.inq y h1
      split <;> omega
    · rw [List.mem_singleton.1 h1, if_pos rfl]
      omega
  · have := unr_set d x (e + 1) (by rw [getD_get hxl, hd]) (by omega)
    have := h.left
    rw [List.length_append, List.length_singleton]
    omega
  · rw [getD_set hxl, if_neg hux]
    exact h.du
theorem Fair.init {n v : Nat} (h : v < n) : Fair n n (dist0 n v) [v] := by
  have hl : v < (List.replicate n (-1 : Int)).length := by rw [List.length_replicate]; exact h
  refine ⟨by simp [dist0], fun z hz => ?_, fun u hu => ?_, ?_, Nat.le_refl _⟩
  · rcases mem_set_or hz with h1 | rfl
    · rw [(List.mem_replicate.1 h1).2]; omega
    · omega
  · rw [List.mem_singleton.1 hu]
    unfold dist0
    rw [getD_set hl, if_pos rfl]
    exact ⟨h, Int.le_refl _⟩
  · have := unr_dist0 h
    rw [List.length_singleton]
    omega
theorem relax_new {u x : Nat} {r : List Nat} {d : List Int} {q : List Nat} (h : d.getD x 0 = -1) : relax u (x :: r) d q = relax u r (d.set x (d.getD u 0 + 1)) (q ++ [x]) := by rw [relax, if_pos h]
theorem relax_old {u x : Nat} {r : List Nat} {d : List Int} {q : List Nat} (h : ¬ d.getD x 0 = -1) : relax u (x :: r) d q = relax u r d q := by rw [relax, if_neg h]

/-- A queue: a row of a block of the call's own, from a place on. -/
def Que (w : World) (base : Nat) (v : Value) (q : List Nat) : Prop :=
  ∃ g o c cur, v = .slice (some ⟨g, o, none⟩) q.length c ∧ base ≤ g ∧ w.heap[g]? = some (.cells cur 3 (0, 0)) ∧ q.length ≤ c ∧ c ≤ maxLen ∧ o + c ≤ cur.size ∧ ∀ (j x : Nat), q[j]? = some x → cur[o + j]? = some (.int .i64 (x : Nat))
theorem Que.frm {w w' : World} {base : Nat} {v : Value} {q : List Nat} {S : List Nat} (h : Que w base v q) (hf : Frm w w' S) (hv : ∀ g, v.ownBlock = some g → g ∉ S) : Que w' base v q := by
  obtain ⟨g, o, c, cur, rfl, h1, h2, h3, h4, h5, h6⟩ := h
  exact ⟨g, o, c, cur, rfl, h1, (hf.block g (Array.getElem?_eq_some_iff.1 h2).1 (hv g rfl)).trans h2, h3, h4, h5, h6⟩
theorem Que.size {w : World} {base : Nat} {v : Value} {q : List Nat} (h : Que w base v q) : ∀ g, v.ownBlock = some g → base ≤ g ∧ g < w.heap.size := by
  obtain ⟨g, o, c, cur, rfl, h1, h2, -⟩ := h
  intro x hx
  have e : x = g := by simpa [Value.ownBlock] using hx.symm
  rw [e]
  exact ⟨h1, (Array.getElem?_eq_some_iff.1 h2).1⟩
theorem Que.cellAt {w : World} {base : Nat} {g o n c : Nat} {q : List Nat} (h : Que w base (.slice (some ⟨g, o, none⟩) n c) q) {j x : Nat} (hx : q[j]? = some x) : w.cell? ⟨g, o + j, none⟩ = some (.int .i64 (x : Nat)) := by
  obtain ⟨g', o', c', cur, e, h1, h2, h3, h4, h5, h6⟩ := h
  injection e with e1 e2 e3
  injection e1 with e1
  injection e1 with e1 e4
  subst e1 e4
  have hW : Whole w g 3 cur := h2
  rw [hW.cell]
  exact h6 j x hx
theorem Que.tail {w : World} {base : Nat} {g o c u : Nat} {q : List Nat} (h : Que w base (.slice (some ⟨g, o, none⟩) (q.length + 1) c) (u :: q)) : Que w base (.slice (some ⟨g, o + 1, none⟩) q.length (c - 1)) q := by
  obtain ⟨g', o', c', cur, e, h1, h2, h3, h4, h5, h6⟩ := h
  injection e with e1 e2 e3
  injection e1 with e1
  injection e1 with e1 e4
  subst e1 e4 e3
  simp only [List.length_cons] at h3
  exact ⟨g, o + 1, c - 1, cur, rfl, h1, h2, by omega, by omega, by omega, fun j x hx => by
    have := h6 (j + 1) x (by simpa using hx)
    rw [show o + 1 + j = o + (j + 1) by omega]
    exact this⟩
theorem drop_of {l : List Nat} {j x : Nat} (h : l[j]? = some x) : l.drop j = x :: l.drop (j + 1) := by
  obtain ⟨hj, e⟩ := List.getElem?_eq_some_iff.1 h
  rw [List.drop_eq_getElem_cons hj, e]
theorem run_que (w : World) (base : Nat) (v : Value) (q : List Nat) (h : Que w base v q) (x : Nat) (hlen : q.length + 1 ≤ 1000000) (hb : base ≤ w.heap.size) :
    ∃ v' w', (Builtin.append_ #[36, 36] 36 #[v, .slice (some ⟨w.heap.size, 0, none⟩) 1 1]).run Try.prog (w.alloc (.cells #[.int .i64 (x : Nat)] 3)) = .ok v' w' ∧ Que w' base v' (q ++ [x]) ∧ Frm w w' v.ownBlock.toList ∧ (v'.ownBlock = v.ownBlock ∨ ∀ y, v'.ownBlock = some y → w.heap.size ≤ y) := by
  obtain ⟨g, o, c, cur, rfl, h1, h2, h3, h4, h5, h6⟩ := h
  obtain ⟨i, hi, hz, hs1, hby⟩ := info_parts infoInt
  have hW : Whole w g 3 cur := h2
  have hW1 : Whole (w.alloc (.cells #[.int .i64 (x : Nat)] 3)) g 3 cur := hW.alloc _
  have hnew : ∀ (j : Nat) (u : Value), [Value.int .i64 (x : Nat)][j]? = some u → (w.alloc (.cells #[.int .i64 (x : Nat)] 3)).cell? ((⟨w.heap.size, 0, none⟩ : Addr).add j) = some u := fun j u hj => by
    cases j with
    | zero => simp only [List.getElem?_cons_zero, Option.some.injEq] at hj; subst hj; simp [go_sem]
    | succ j => simp at hj
  by_cases hr : q.length + 1 ≤ c
  · have := run_append_room_cells (P := Try.prog) (w.alloc (.cells #[.int .i64 (x : Nat)] 3)) 36 36 3 i Try.underlying36 hi g o q.length c ⟨w.heap.size, 0, none⟩ 1 1 [.int .i64 (x : Nat)] (by simp [hs1]) hnew (by simp [Value.oneCell']) hr
      (fun j hj => by
        obtain rfl : j = 0 := by simpa using hj
        rw [hs1, Nat.mul_one, Nat.add_zero, hW1.cell, Array.getElem?_eq_getElem (by omega)]; rfl)
      (fun j hj => hW1.free _)
    rw [hs1, Nat.mul_one] at this
    refine ⟨_, _, this, ?_, ?_, .inl rfl⟩
    · refine ⟨g, o, c, cur.setIfInBounds (o + q.length) (.int .i64 (x : Nat)), by rw [List.length_append, List.length_singleton], h1, hW1.set _ _, by rw [List.length_append, List.length_singleton]; exact hr, h4, by rw [Array.size_setIfInBounds]; exact h5, fun j y hy => ?_⟩
      by_cases e : j = q.length
      · subst e
        rw [List.getElem?_append_right (Nat.le_refl _), Nat.sub_self] at hy
        simp only [List.getElem?_cons_zero, Option.some.injEq] at hy
        subst hy
        rw [Array.getElem?_setIfInBounds_self_of_lt (by omega)]
      · have hjl : j < q.length := by
          have := (List.getElem?_eq_some_iff.1 hy).1
          rw [List.length_append, List.length_singleton] at this
          omega
        rw [List.getElem?_append_left hjl] at hy
        rw [Array.getElem?_setIfInBounds_ne (by omega)]
        exact h6 j y hy
    · exact ((Frm.refl w _).alloc _).setCell _ _ (.inl (by simp [Value.ownBlock]))
  · obtain ⟨v', w', hrun, r1, r2⟩ := run_append_arg_grows (P := Try.prog) (w := w.alloc (.cells #[.int .i64 (x : Nat)] 3)) 36 36 3 i (.int .i64 0) 1 8 Try.underlying36 hi hz hs1 hby rfl (by omega) ⟨g, o, none⟩ q.length c (q.map fun (y : Nat) => Value.int .i64 (y : Int)) (by simp)
      (fun j u hj => by
        rw [Addr.add_lit, hW1.cell]
        rw [List.getElem?_map] at hj
        cases hq : q[j]? with
        | none => rw [hq] at hj; cases hj
        | some y =>
          rw [hq] at hj
          simp only [Option.map_some, Option.some.injEq] at hj
          rw [← hj]
          exact h6 j y hq) ⟨w.heap.size, 0, none⟩ 1 1 [.int .i64 (x : Nat)] (by simp) hnew (by omega) (by unfold maxLen; omega) (by omega)
    obtain ⟨hl, r1⟩ := r1
    rcases r1 with ⟨_, h0⟩ | ⟨g', cap', cur', rfl, hg', hc', hn', hm', hs', ht'⟩
    · omega
    · refine ⟨_, _, hrun, ⟨g', 0, cap', cur', by rw [List.length_append, List.length_singleton], ?_, hc', by rw [List.length_append, List.length_singleton]; exact hn', hm', by omega, fun j y hy => ?_⟩, ?_, .inr fun y hy => ?_⟩
      · rw [World.size_alloc] at hg'; omega
      · have e2 : (q.map fun (y : Nat) => Value.int .i64 (y : Int)) ++ [.int .i64 (x : Nat)] = (q ++ [x]).map fun (y : Nat) => Value.int .i64 (y : Int) := by simp
        rw [e2] at ht'
        have h7 := congrArg (fun l => l[j]?) ht'
        simp only [List.getElem?_map, hy, Option.map_some] at h7
        rw [List.getElem?_take_of_lt (by have := (List.getElem?_eq_some_iff.1 hy).1; rw [List.length_append, List.length_singleton] at this; omega)] at h7
        rw [Nat.zero_add, ← Array.getElem?_toList]
        exact h7
      · exact ((Frm.refl w []).alloc (.cells #[.int .i64 (x : Nat)] 3)).trans (Frm.grown r2) |>.mono (by simp)
      · have e : y = g' := by simpa [Value.ownBlock] using hy.symm
        rw [World.size_alloc] at hg'
        omega
/-- 'append' where it is known what it comes to. -/
theorem wpList_append_run {P : Program} {w : World} {ops : Array Oper} {rest : List Oper} {o : Oper} {a : Act} {Q : Exit → Act → World → Prop} (hgd : o.guard = none) (s x : Operand) (t : TypeId)
    (ho : o.op = .call { callee := .builtin .append, args := #[s, x], argTypes := #[t, t] }) (v u v' : Value) (w' : World) (hs : a.eval s = v) (hx : a.eval x = u)
    (hrun : (Builtin.append_ #[t, t] o.type #[v, u]).run P w = .ok v' w') (h : wpList P ops Q rest (a.put o.dst v') w') : wpList P ops Q (o :: rest) a w := by
  refine wpList_plain hgd fun _ hK => ?_
  unfold Oper.wp execOp
  simp only [ho, resolve, invoke, builtin, Sem.run_bind, Sem.run_pure, Result.andThen_ok, List.map_toArray, List.map_cons, List.map_nil, hs, hx, hrun]
  exact hK _ _ h
end Go.Proofs.Ytaehfohljblmoaa

/-
  Rows of m cells an element that the call itself made: what they read as, append, a store of one element. For every seat; no program is named here.
-/
import Derived.Test.YtnhaanjpcnnifaaDoorDeepK
import Derived.Deep.MidRow
import Derived.Laws.NewBlocks
import Derived.Maps.AppendAt
import Derived.Laws.OwnMore
namespace Go.Proofs.YtnhaanjpcnnifaaDoor
open Go.RowKit

/-- Rows of m cells, one behind another: the place of a cell. -/
theorem flat_at {m : Nat} : ∀ (rows : List (List Value)) (i j : Nat) (r : List Value) (z : Value), (∀ x ∈ rows, x.length = m) → rows[i]? = some r → r[j]? = some z → rows.flatten[i * m + j]? = some z
  | [], i, j, r, z, _, h, _ => by simp at h
  | x :: t, 0, j, r, z, hm, h, hz => by
    simp at h; subst h
    have hj := (List.getElem?_eq_some_iff.1 hz).1
    rw [List.flatten_cons, Nat.zero_mul, Nat.zero_add, List.getElem?_append_left hj]
    exact hz
  | x :: t, i + 1, j, r, z, hm, h, hz => by
    have hx := hm x (by simp)
    rw [List.flatten_cons, List.getElem?_append_right (by rw [hx, Nat.succ_mul]; omega), hx, show (i + 1) * m + j - m = i * m + j by rw [Nat.succ_mul]; omega]
    exact flat_at t i j r z (fun y hy => hm y (by simp [hy])) (by simpa using h) hz
theorem flat_len {m : Nat} : ∀ rows : List (List Value), (∀ x ∈ rows, x.length = m) → rows.flatten.length = rows.length * m
  | [], _ => by simp
  | x :: t, h => by
    rw [List.flatten_cons, List.length_append, h x (by simp), flat_len t (fun y hy => h y (by simp [hy])), List.length_cons, Nat.succ_mul]
    omega
/-- .. and back: which row a cell belongs to. -/
theorem flat_inv {m : Nat} (h0 : 0 < m) {rows : List (List Value)} (hm : ∀ x ∈ rows, x.length = m) {j : Nat} {z : Value} (h : rows.flatten[j]? = some z) : ∃ r, rows[j / m]? = some r ∧ r[j % m]? = some z := by
  have hj := (List.getElem?_eq_some_iff.1 h).1
  rw [flat_len rows hm] at hj
  have hi : j / m < rows.length := Nat.div_lt_of_lt_mul (by rw [Nat.mul_comm]; exact hj)
  obtain ⟨r, hr⟩ : ∃ r, rows[j / m]? = some r := ⟨_, List.getElem?_eq_getElem hi⟩
  have hrl := hm r (List.mem_of_getElem? hr)
  obtain ⟨y, hy⟩ : ∃ y, r[j % m]? = some y := ⟨_, List.getElem?_eq_getElem (by rw [hrl]; exact Nat.mod_lt _ h0)⟩
  have := flat_at rows (j / m) (j % m) r y hm hr hy
  rw [Nat.div_add_mod', h] at this
  injection this with this
  subst this
  exact ⟨r, hr, hy⟩

/-- The slice value v is a row of the call's own, from block base on, of the given rows of m cells. -/
def OwnN (w : World) (base : Nat) (e : TypeId) (m : Nat) (v : Value) (rows : List (List Value)) : Prop := w.ownsRow base e m v rows.length rows.flatten ∧ ∀ r ∈ rows, r.length = m
/-- A slice type and its elements of m cells, in the program's tables. -/
structure ElemN (P : Program) (t e : TypeId) (m : Nat) (z : Value) (bytes : Nat) : Prop where
  sl : P.underlying t = some (.slice e)
  size : z.cells.size = m
  pos : 0 < m
  info : ∃ i, P.info? e = some i ∧ i.zero = some z ∧ i.size = m ∧ i.bytes = bytes

section
variable {w w' : World} {base m : Nat} {e : TypeId} {v : Value} {rows : List (List Value)} {S : List Nat}
theorem OwnN.nil (w : World) (base : Nat) (e : TypeId) (m : Nat) : OwnN w base e m (.slice none 0 0) [] := ⟨⟨by simp, .inl ⟨rfl, rfl⟩⟩, fun _ h => (by cases h)⟩
theorem OwnN.lt (h : OwnN w base e m v rows) : ∀ g, v.ownBlock = some g → base ≤ g ∧ g < w.heap.size := World.ownsRow.lt h.1
theorem OwnN.rd (h : OwnN w base e m v rows) : RdN w m v rows := by
  obtain ⟨h1, hm⟩ := h
  refine ⟨hm, ?_⟩
  rcases h1.2 with ⟨rfl, h0⟩ | ⟨g, cap, cur, rfl, hg, hh, hn, hx, hs, ht⟩
  · exact ⟨none, 0, by rw [h0], by omega, by unfold maxLen; omega, fun hn => by omega⟩
  · refine ⟨_, cap, rfl, hn, hx, fun _ => ⟨g, 0, rfl, ?_, fun i j r z hr hz => ?_⟩⟩
    · rcases Nat.lt_or_ge g w.heap.size with hlt | hge
      · exact hlt
      · rw [Array.getElem?_eq_none hge] at hh; cases hh
    · have hf := flat_at rows i j r z hm hr hz
      have hlt := (List.getElem?_eq_some_iff.1 hf).1
      rw [flat_len rows hm] at hlt
      rw [← ht, List.getElem?_take_of_lt (by omega)] at hf
      simp only [World.cell?, Nat.zero_add, hh]
      simpa using hf
theorem OwnN.frm (h : OwnN w base e m v rows) (hf : Frm w w' S) (hv : ∀ g, v.ownBlock = some g → g ∉ S) : OwnN w' base e m v rows := by
  obtain ⟨⟨h1, h2⟩, hm⟩ := h
  refine ⟨⟨h1, ?_⟩, hm⟩
  rcases h2 with h2 | ⟨g, cap, cur, rfl, hg, hh, r⟩
  · exact .inl h2
  · refine .inr ⟨g, cap, cur, rfl, hg, ?_, r⟩
    have hlt : g < w.heap.size := by
      rcases Nat.lt_or_ge g w.heap.size with hlt | hge
      · exact hlt
      · rw [Array.getElem?_eq_none hge] at hh; cases hh
    exact (hf.block g hlt (hv g rfl)).trans hh
theorem OwnN.below' (h : OwnN w base e m v rows) (hb : Below w.heap.size w w') : OwnN w' base e m v rows := h.frm (S := []) (Frm.below hb) (fun _ _ => by simp)
theorem OwnN.alloc (h : OwnN w base e m v rows) (o : Obj) : OwnN (w.alloc o) base e m v rows := ⟨World.ownsRow.alloc h.1 o, h.2⟩
theorem OwnN.drew (h : OwnN w base e m v rows) : OwnN w.drew base e m v rows := h
theorem OwnN.low (h : OwnN w base e m v rows) {b : Nat} (hb : b ≤ base) : OwnN w b e m v rows := by
  obtain ⟨⟨h1, h2⟩, hm⟩ := h
  refine ⟨⟨h1, ?_⟩, hm⟩
  rcases h2 with h2 | ⟨g, cap, cur, hv, hg, r⟩
  · exact .inl h2
  · exact .inr ⟨g, cap, cur, hv, by omega, r⟩
/-- A row that holds something, written out. -/
theorem OwnN.form (h : OwnN w base e m v rows) (hn : 0 < rows.length) : ∃ g cap, v = .slice (some ⟨g, 0, none⟩) rows.length cap ∧ rows.length ≤ cap ∧ cap ≤ maxLen ∧ base ≤ g ∧ g < w.heap.size := by
  rcases h.1.2 with ⟨_, h0⟩ | ⟨g, cap, cur, rfl, hg, hh, hc, hx, _⟩
  · omega
  · exact ⟨g, cap, rfl, hc, hx, hg, (h.lt g rfl).2⟩
/-- An empty literal. -/
theorem OwnN.empty (w : World) (base : Nat) (e : TypeId) (m : Nat) (hb : base ≤ w.heap.size) : OwnN (w.alloc (.cells #[] e)) base e m (.slice (some ⟨w.heap.size, 0, none⟩) 0 0) [] :=
  ⟨⟨by simp, .inr ⟨w.heap.size, 0, #[], rfl, hb, heap_alloc_new w _, Nat.le_refl _, by unfold maxLen; omega, by simp, by simp⟩⟩, fun _ h => (by cases h)⟩
/-- The cells of an element. -/
theorem OwnN.at {g n cap : Nat} (h : OwnN w base e m (.slice (some ⟨g, 0, none⟩) n cap) rows) {i : Nat} {r : List Value} (hr : rows[i]? = some r) : w.rangeAt g (i * m) r := fun j z hz => by
  obtain ⟨b, off, e1, _, hc⟩ := h.rd.row hr
  injection e1 with e1
  injection e1 with e1 e2
  subst e1 e2
  have := hc j z hz
  rw [Nat.zero_add] at this
  exact this
theorem OwnN.room {g n cap : Nat} (h : OwnN w base e m (.slice (some ⟨g, 0, none⟩) n cap) rows) {i : Nat} (hi : i < rows.length) : w.there g (i * m) m := fun j hj => by
  obtain ⟨r, hr⟩ : ∃ r, rows[i]? = some r := ⟨_, List.getElem?_eq_getElem hi⟩
  have hl := h.2 r (List.mem_of_getElem? hr)
  obtain ⟨z, hz⟩ : ∃ z, r[j]? = some z := ⟨_, List.getElem?_eq_getElem (by omega)⟩
  refine ⟨by rw [h.at hr j z hz]; rfl, ?_⟩
  rcases h.1.2 with ⟨e2, _⟩ | ⟨g', cap', cur, e2, _, hh, _⟩
  · cases e2
  · injection e2 with e2 _ _
    injection e2 with e2
    injection e2 with e2
    subst e2
    simp [World.frozen?, hh]
end

/-- Cells set one behind another, in a list. -/
def putAll : List Value → Nat → List Value → List Value
  | l, _, [] => l
  | l, k, z :: zs => putAll (l.set k z) (k + 1) zs
theorem putAll_len : ∀ (zs l : List Value) (k : Nat), (putAll l k zs).length = l.length
  | [], _, _ => rfl
  | z :: zs, l, k => by rw [putAll, putAll_len zs]; simp
theorem putAll_app : ∀ (new old pre post : List Value), old.length = new.length → putAll (pre ++ (old ++ post)) pre.length new = pre ++ (new ++ post)
  | [], [], pre, post, _ => rfl
  | z :: zs, [], pre, post, h => by simp at h
  | [], o :: os, pre, post, h => by simp at h
  | z :: zs, o :: os, pre, post, h => by
    rw [putAll]
    have e1 : (pre ++ (o :: os ++ post)).set pre.length z = (pre ++ [z]) ++ (os ++ post) := by simp
    have e2 : pre.length + 1 = (pre ++ [z]).length := by simp
    rw [e1, e2, putAll_app zs os (pre ++ [z]) post (by simpa using h)]
    simp
theorem putAll_rows {m : Nat} : ∀ (rows : List (List Value)) (i : Nat) (r' : List Value), (∀ x ∈ rows, x.length = m) → r'.length = m → i < rows.length → putAll rows.flatten (i * m) r' = (rows.set i r').flatten
  | x :: t, 0, r', hm, hr, _ => by
    have := putAll_app r' x [] t.flatten (by rw [hm x (by simp), hr])
    simpa using this
  | x :: t, i + 1, r', hm, hr, hi => by
    have ht := fun y (hy : y ∈ t) => hm y (List.mem_cons_of_mem _ hy)
    have hi' : i < t.length := by simpa using hi
    obtain ⟨o, ho⟩ : ∃ o, t[i]? = some o := ⟨_, List.getElem?_eq_getElem hi'⟩
    have hx := hm x (by simp)
    have hol := ht o (List.mem_of_getElem? ho)
    have split : t = t.take i ++ o :: t.drop (i + 1) := by
      have h1 : t[i] = o := by rw [List.getElem?_eq_getElem hi'] at ho; injection ho
      rw [← h1, ← List.drop_eq_getElem_cons hi', List.take_append_drop]
    have hpl : (x :: t.take i).flatten.length = (i + 1) * m := by
      rw [flat_len (m := m)]
      · simp [Nat.min_eq_left (Nat.le_of_lt hi')]
      · intro y hy
        rcases List.mem_cons.1 hy with rfl | hy
        · exact hx
        · exact ht y (List.mem_of_mem_take hy)
    have key := putAll_app r' o (x :: t.take i).flatten (t.drop (i + 1)).flatten (by rw [hol, hr])
    rw [hpl] at key
    have el : (x :: t).flatten = (x :: t.take i).flatten ++ (o ++ (t.drop (i + 1)).flatten) := by
      have : x :: t = (x :: t.take i) ++ (o :: t.drop (i + 1)) := by rw [List.cons_append, ← split]
      rw [this, List.flatten_append, List.flatten_cons, List.flatten_cons]
    have er : ((x :: t).set (i + 1) r').flatten = (x :: t.take i).flatten ++ (r' ++ (t.drop (i + 1)).flatten) := by
      have h1 : t.set i r' = t.take i ++ r' :: t.drop (i + 1) := by rw [List.set_eq_take_append_cons_drop, if_pos hi']
      rw [List.set_cons_succ, h1, List.flatten_cons, List.flatten_append, List.flatten_cons, List.flatten_cons, List.append_assoc]
    rw [el, er]
    exact key
section
variable {w : World} {base m : Nat} {e : TypeId} {rows : List (List Value)}
theorem owns_setCells {g n cap sz : Nat} : ∀ (zs xs : List Value) (o : Nat) (w : World), w.ownsRow base e sz (.slice (some ⟨g, 0, none⟩) n cap) n xs → (w.setCells g o zs).ownsRow base e sz (.slice (some ⟨g, 0, none⟩) n cap) n (putAll xs o zs)
  | [], _, _, _, h => h
  | z :: zs, xs, o, w, h => by
    rw [World.setCells, putAll]
    exact owns_setCells zs _ _ _ (h.stored o z).1
/-- An element stored. -/
theorem OwnN.put {g n cap i : Nat} (h : OwnN w base e m (.slice (some ⟨g, 0, none⟩) n cap) rows) (hi : i < rows.length) {r' : List Value} (hr : r'.length = m) : OwnN (w.setCells g (i * m) r') base e m (.slice (some ⟨g, 0, none⟩) n cap) (rows.set i r') := by
  have hn : n = rows.length := h.rd.len
  subst hn
  refine ⟨?_, fun x hx => ?_⟩
  · have := owns_setCells r' rows.flatten (i * m) w h.1
    rw [putAll_rows rows i r' h.2 hr hi] at this
    rw [List.length_set]
    exact this
  · rcases List.mem_or_eq_of_mem_set hx with hx | rfl
    · exact h.2 x hx
    · exact hr
theorem frm_setCells {g : Nat} : ∀ (zs : List Value) (o : Nat) (w : World), Frm w (w.setCells g o zs) [g]
  | [], _, w => Frm.refl w _
  | z :: zs, o, w => by
    rw [World.setCells]
    exact ((Frm.refl w [g]).setCell ⟨g, o, none⟩ z (.inl (by simp))).trans (frm_setCells zs (o + 1) _)
end

section
variable {P : Program} (w : World)
/-- 'append' onto a row of the call's own, the source nil, empty or not. -/
theorem run_append_n (base : Nat) (t ty e : TypeId) (m : Nat) (z : Value) (bytes : Nat) (E : ElemN P t e m z bytes) (v : Value) (l : List (List Value)) (hown : OwnN w base e m v l) (u : Value) (rs : List (List Value)) (hr : RdN w m u rs) (hone : ∀ r ∈ rs, ∀ x ∈ r, x.oneCell' = true)
    (hbytes : (l.length + rs.length) * bytes ≤ 140737488355328) (hlen : l.length + rs.length ≤ maxLen) (hbase : base ≤ w.heap.size) :
    ∃ v' w', (Builtin.append_ #[t, t] ty #[v, u]).run P w = .ok v' w' ∧ OwnN w' base e m v' (l ++ rs) ∧ Frm w w' v.ownBlock.toList ∧ (v'.ownBlock = v.ownBlock ∨ v'.ownBlock = some w.heap.size) := by
  obtain ⟨i, hi, hz, hs1, hby⟩ := E.info
  obtain ⟨hrm, A, c, rfl, hmc, _, hc⟩ := hr
  have hall : ∀ r ∈ l ++ rs, r.length = m := fun r h => by
    rcases List.mem_append.1 h with h | h
    · exact hown.2 r h
    · exact hrm r h
  have fin : ∀ ad : Addr, A = some ad → (∀ j x, rs.flatten[j]? = some x → w.cell? (ad.add j) = some x) →
      ∃ v' w', (Builtin.append_ #[t, t] ty #[v, .slice A rs.length c]).run P w = .ok v' w' ∧ OwnN w' base e m v' (l ++ rs) ∧ Frm w w' v.ownBlock.toList ∧ (v'.ownBlock = v.ownBlock ∨ v'.ownBlock = some w.heap.size) := by
    rintro ad rfl hnews
    obtain ⟨v', w', hrun, h2, h3, _, h5⟩ := run_append_own_at (P := P) w base t ty e i z m bytes E.sl hi hz hs1 hby E.size E.pos v l.length _ hown.1 ad rs.length c rs.flatten (flat_len rs hrm) hnews
      (fun x hx => by obtain ⟨r, h1, h2⟩ := List.mem_flatten.1 hx; exact hone r h1 x h2) hlen hbytes hbase
    refine ⟨v', w', hrun, ⟨?_, hall⟩, Frm.grown h3, h5⟩
    rw [List.length_append, List.flatten_append]
    exact h2
  rcases Nat.eq_zero_or_pos rs.length with h0 | h0
  · obtain rfl : rs = [] := List.eq_nil_of_length_eq_zero h0
    rcases A with _ | ad
    · refine ⟨v, w, ?_, by simpa using hown, Frm.refl w _, .inl rfl⟩
      rcases hown.1.2 with ⟨rfl, _⟩ | ⟨g, cap, cur, rfl, _, _, hnc, _⟩
      · simp [Builtin.append_, run_underlying E.sl, sizeOf, typeInfo, hi, Builtin.lenOf, Builtin.firstCells]
      · simp [Builtin.append_, run_underlying E.sl, sizeOf, typeInfo, hi, Builtin.lenOf, Builtin.firstCells, hnc, storeCells]
    · exact fin ad rfl (fun j x hx => by simp at hx)
  · obtain ⟨b, off, rfl, _, hcell⟩ := hc h0
    refine fin _ rfl (fun j x hx => ?_)
    obtain ⟨r, h1, h2⟩ := flat_inv E.pos hrm hx
    have := hcell (j / m) (j % m) r x h1 h2
    rw [Nat.div_add_mod'] at this
    rw [Addr.add_mid]
    exact this
theorem wpList_append_n {ops : Array Oper} {rest : List Oper} {o : Oper} {a : Act} {Q : Exit → Act → World → Prop} (hgd : o.guard = none) (s x : Operand) (t : TypeId)
    (ho : o.op = .call { callee := .builtin .append, args := #[s, x], argTypes := #[t, t] })
    (base : Nat) (e : TypeId) (m : Nat) (z : Value) (bytes : Nat) (E : ElemN P t e m z bytes) (v : Value) (l : List (List Value)) (hs : a.eval s = v) (hown : OwnN w base e m v l) (u : Value) (rs : List (List Value)) (hx : a.eval x = u) (hr : RdN w m u rs) (hone : ∀ r ∈ rs, ∀ x ∈ r, x.oneCell' = true)
    (hbytes : (l.length + rs.length) * bytes ≤ 140737488355328) (hlen : l.length + rs.length ≤ maxLen) (hbase : base ≤ w.heap.size)
    (h : ∀ v' w', OwnN w' base e m v' (l ++ rs) → Frm w w' v.ownBlock.toList → (v'.ownBlock = v.ownBlock ∨ v'.ownBlock = some w.heap.size) → wpList P ops Q rest (a.put o.dst v') w') : wpList P ops Q (o :: rest) a w := by
  refine wpList_plain hgd fun _ hK => ?_
  obtain ⟨v', w', hrun, h2, h3, h4⟩ := run_append_n (P := P) w base t o.type e m z bytes E v l hown u rs hr hone hbytes hlen hbase
  unfold Oper.wp execOp
  simp only [ho, resolve, invoke, builtin, Sem.run_bind, Sem.run_pure, Result.andThen_ok, List.map_toArray, List.map_cons, List.map_nil, hs, hx, hrun]
  exact hK _ _ (h v' w' h2 h3 h4)
/-- .. as one step of a region that draws its order. -/
theorem step_append_n {ops : Array Oper} {o : Oper} {a : Act} {w : World} {K : Act → World → Prop} {Q : Exit → Act → World → Prop} {E0 : Prop} (hgd : o.guard = none) (s x : Operand) (t : TypeId)
    (ho : o.op = .call { callee := .builtin .append, args := #[s, x], argTypes := #[t, t] })
    (base : Nat) (e : TypeId) (m : Nat) (z : Value) (bytes : Nat) (E : ElemN P t e m z bytes) (v : Value) (l : List (List Value)) (hs : a.eval s = v) (hown : OwnN w base e m v l) (u : Value) (rs : List (List Value)) (hx : a.eval x = u) (hr : RdN w m u rs) (hone : ∀ r ∈ rs, ∀ x ∈ r, x.oneCell' = true)
    (hbytes : (l.length + rs.length) * bytes ≤ 140737488355328) (hlen : l.length + rs.length ≤ maxLen) (hbase : base ≤ w.heap.size)
    (hK : ∀ v' w', OwnN w' base e m v' (l ++ rs) → Frm w w' v.ownBlock.toList → (v'.ownBlock = v.ownBlock ∨ v'.ownBlock = some w.heap.size) → K (a.put o.dst v') w') :
    if Region.wanted o (yielded ops a.tmps) = true then Oper.wp P o a w K Q else E0 := by
  have hw : Region.wanted o (yielded ops a.tmps) = true := by simp [Region.wanted, hgd]
  rw [if_pos hw]
  obtain ⟨v', w', hrun, h2, h3, h4⟩ := run_append_n (P := P) w base t o.type e m z bytes E v l hown u rs hr hone hbytes hlen hbase
  unfold Oper.wp
  simp [execOp, ho, resolve, invoke, builtin, hs, hx, hrun, Result.andThen]
  exact hK v' w' h2 h3 h4
end
end Go.Proofs.YtnhaanjpcnnifaaDoor

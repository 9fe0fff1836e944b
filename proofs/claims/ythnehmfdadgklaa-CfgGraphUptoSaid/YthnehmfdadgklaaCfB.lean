/-
  Layer 20 (cfg): 'append' onto a slice without any room, nil or not.
-/
import Derived.Test.YthnehmfdadgklaaRowN
namespace Go.Proofs.Ythnehmfdadgklaa
open Go.RowKit

section
variable {P : Program} (w : World)
theorem run_append_room0 (t ty e : TypeId) (m : Nat) (z : Value) (bytes : Nat) (E : ElemN P t e m z bytes) (a : Addr) (X : Option Addr) (n c : Nat) (hn : 0 < n) (hb : n * bytes ≤ 140737488355328) :
    (Builtin.append_ #[t, t] ty #[.slice (some a) 0 0, .slice X n c]).run P w = (Builtin.append_ #[t, t] ty #[.slice none 0 0, .slice X n c]).run P w := by
  obtain ⟨i, hi, hz, hs1, hby⟩ := E.info
  have h1 : n ≠ 0 := Nat.pos_iff_ne_zero.1 hn
  have h2 : Builtin.nextslicecap n 0 = n := by unfold Builtin.nextslicecap; rw [if_pos (by rw [Nat.mul_zero]; exact hn)]
  have h3 : ¬ (281474976710656 < n * bytes) := Nat.not_lt.2 (Nat.le_trans hb (by decide))
  simp [Builtin.append_, run_underlying E.sl, sizeOf, typeInfo, hi, Builtin.lenOf, Builtin.firstCells, h1, h2, h3, hby, loadCells, loadCellsFrom]
/-- .. the whole of it: where nothing is appended, the slice itself comes back. -/
theorem run_append_first (base : Nat) (t ty e : TypeId) (m : Nat) (z : Value) (bytes : Nat) (E : ElemN P t e m z bytes) (A : Option Addr) (u : Value) (rs : List (List Value)) (hr : RdN w m u rs) (hone : ∀ r ∈ rs, ∀ x ∈ r, x.oneCell' = true)
    (hbytes : rs.length * bytes ≤ 140737488355328) (hlen : rs.length ≤ maxLen) (hbase : base ≤ w.heap.size) :
    ∃ v' w', (Builtin.append_ #[t, t] ty #[.slice A 0 0, u]).run P w = .ok v' w' ∧ (rs = [] ∧ v' = .slice A 0 0 ∧ w' = w ∨ OwnN w' base e m v' rs ∧ Frm w w' [] ∧ (v'.ownBlock = none ∨ v'.ownBlock = some w.heap.size)) := by
  have hn : OwnN w base e m (.slice none 0 0) [] := ⟨⟨by simp, .inl ⟨rfl, rfl⟩⟩, fun _ h => by cases h⟩
  have main := run_append_n (P := P) w base t ty e m z bytes E _ [] hn u rs hr hone (by simpa using hbytes) (by simpa using hlen) hbase
  obtain ⟨_, X, c, rfl, _, _, _⟩ := id hr
  rcases A with _ | a
  · obtain ⟨v', w', h1, h2, h3, h4⟩ := main
    exact ⟨v', w', h1, .inr ⟨h2, h3, h4⟩⟩
  · rcases Nat.eq_zero_or_pos rs.length with h0 | h0
    · obtain ⟨i, hi, hz, hs1, hby⟩ := E.info
      obtain rfl : rs = [] := List.eq_nil_of_length_eq_zero h0
      refine ⟨_, w, ?_, .inl ⟨rfl, rfl, rfl⟩⟩
      cases X <;> simp [Builtin.append_, run_underlying E.sl, sizeOf, typeInfo, hi, Builtin.lenOf, Builtin.firstCells, loadCells, loadCellsFrom, storeCells]
    · rw [run_append_room0 w t ty e m z bytes E a X rs.length c h0 hbytes]
      obtain ⟨v', w', h1, h2, h3, h4⟩ := main
      exact ⟨v', w', h1, .inr ⟨h2, h3, h4⟩⟩
end
/-- .. as one operation of a region. -/
theorem wpList_append_first {P : Program} {w : World} {ops : Array Oper} {rest : List Oper} {o : Oper} {a : Act} {Q : Exit → Act → World → Prop} (hgd : o.guard = none) (s x : Operand) (t : TypeId)
    (ho : o.op = .call { callee := .builtin .append, args := #[s, x], argTypes := #[t, t] })
    (base : Nat) (e : TypeId) (m : Nat) (z : Value) (bytes : Nat) (E : ElemN P t e m z bytes) (A : Option Addr) (hs : a.eval s = .slice A 0 0) (u : Value) (rs : List (List Value)) (hx : a.eval x = u) (hr : RdN w m u rs) (hone : ∀ r ∈ rs, ∀ x ∈ r, x.oneCell' = true)
    (hbytes : rs.length * bytes ≤ 140737488355328) (hlen : rs.length ≤ maxLen) (hbase : base ≤ w.heap.size)
    (h : ∀ v' w', (rs = [] ∧ v' = .slice A 0 0 ∧ w' = w ∨ OwnN w' base e m v' rs ∧ Frm w w' [] ∧ (v'.ownBlock = none ∨ v'.ownBlock = some w.heap.size)) → wpList P ops Q rest (a.put o.dst v') w') : wpList P ops Q (o :: rest) a w := by
  refine wpList_plain hgd fun _ hK => ?_
  obtain ⟨v', w', hrun, h2⟩ := run_append_first (P := P) w base t o.type e m z bytes E A u rs hr hone hbytes hlen hbase
  unfold Oper.wp execOp
  simp only [ho, resolve, invoke, builtin, Sem.run_bind, Sem.run_pure, Result.andThen_ok, List.map_toArray, List.map_cons, List.map_nil, hs, hx, hrun]
  exact hK _ _ (h v' w' h2)
end Go.Proofs.Ythnehmfdadgklaa

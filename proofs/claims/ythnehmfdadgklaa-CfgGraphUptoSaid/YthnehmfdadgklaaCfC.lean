/-
  Layer 20 (cfg): a slice copied by two appends onto a slice without room; a call of a function value. No program is named here.
-/
import Derived.Test.YthnehmfdadgklaaCfB
import Derived.Test.YthnehmfdadgklaaDeepO
namespace Go.Proofs.Ythnehmfdadgklaa
open Go.RowKit

/-- 'append' where it is known what it comes to. -/
theorem wpList_append_run {P : Program} {w : World} {ops : Array Oper} {rest : List Oper} {o : Oper} {a : Act} {Q : Exit → Act → World → Prop} (hgd : o.guard = none) (s x : Operand) (t : TypeId)
    (ho : o.op = .call { callee := .builtin .append, args := #[s, x], argTypes := #[t, t] }) (v u v' : Value) (w' : World) (hs : a.eval s = v) (hx : a.eval x = u)
    (hrun : (Builtin.append_ #[t, t] o.type #[v, u]).run P w = .ok v' w') (h : wpList P ops Q rest (a.put o.dst v') w') : wpList P ops Q (o :: rest) a w := by
  refine wpList_plain hgd fun _ hK => ?_
  unfold Oper.wp execOp
  simp only [ho, resolve, invoke, builtin, Sem.run_bind, Sem.run_pure, Result.andThen_ok, List.map_toArray, List.map_cons, List.map_nil, hs, hx, hrun]
  exact hK _ _ h
/-- A call of a function value. -/
theorem wpList_call_value {P : Program} {w : World} {ops : Array Oper} {rest : List Oper} {o : Oper} {a : Act} {Q : Exit → Act → World → Prop} (hgd : o.guard = none) (x : Operand) (ags : Array Operand) (ts : Array TypeId)
    (ho : o.op = .call { callee := .value x, args := ags, argTypes := ts }) (f : FuncId) (caps : Array Value) (hx : a.eval x = .func (.func f) #[] caps)
    (hcf : ∀ (xs : Array Value) (W : World), (callFunc f xs).run P W = .ok (.enter f xs) W)
    (h : Calls P f (ags.map a.eval ++ caps) w (fun e w'' => ∃ v, e = .returned v ∧ wpList P ops Q rest (a.put o.dst v) w'')) : wpList P ops Q (o :: rest) a w := by
  refine wpList_plain hgd fun _ hK => ?_
  unfold Oper.wp execOp
  simp [ho, resolve, Deferred.ofValue, invoke, hx, hcf, Oper.upon]
  refine h.mono fun e w'' he => ?_
  obtain ⟨v, rfl, he⟩ := he
  exact hK _ _ he
section
variable {P : Program} (w : World)
theorem Frm.belowOf {w w' : World} {B : Nat} (h : Frm w w' []) (hB : B ≤ w.heap.size) : Below B w w' := h.toBelow (fun _ h => by cases h) hB
theorem run_copied (t ty e : TypeId) (m : Nat) (z : Value) (bytes : Nat) (E : ElemN P t e m z bytes) (X : Option Addr) (V U : Value) (rs qs : List (List Value)) (hV : RdN w m V rs) (hU : RdN w m U qs)
    (o1 : ∀ r ∈ rs, ∀ x ∈ r, x.oneCell' = true) (o2 : ∀ r ∈ qs, ∀ x ∈ r, x.oneCell' = true) (hbytes : (rs.length + qs.length) * bytes ≤ 140737488355328) (hlen : rs.length + qs.length ≤ maxLen) :
    ∃ v1 w1 A n c w2, (Builtin.append_ #[t, t] ty #[.slice X 0 0, V]).run P w = .ok v1 w1 ∧ (Builtin.append_ #[t, t] ty #[v1, U]).run P w1 = .ok (.slice A n c) w2 ∧
      n = (rs ++ qs).length ∧ n ≤ c ∧ c ≤ maxLen ∧ Mine w2 w.heap.size e m A n n (rs ++ qs) ∧ RdN w2 m (.slice A n n) (rs ++ qs) ∧ Below w.heap.size w w2 := by
  have hb1 : rs.length * bytes ≤ 140737488355328 := Nat.le_trans (Nat.mul_le_mul_right _ (Nat.le_add_right _ _)) hbytes
  have hb2 : qs.length * bytes ≤ 140737488355328 := Nat.le_trans (Nat.mul_le_mul_right _ (Nat.le_add_left _ _)) hbytes
  obtain ⟨v1, w1, r1, c1⟩ := run_append_first (P := P) w w.heap.size t ty e m z bytes E X V rs hV o1 hb1 (by omega) (Nat.le_refl _)
  rcases c1 with ⟨rfl, rfl, rfl⟩ | ⟨hown, hf1, hblk⟩
  · obtain ⟨v2, w2, r2, c2⟩ := run_append_first (P := P) w1 w1.heap.size t ty e m z bytes E X U qs hU o2 hb2 (by omega) (Nat.le_refl _)
    rcases c2 with ⟨rfl, rfl, rfl⟩ | ⟨hown2, hf2, _⟩
    · exact ⟨_, _, X, 0, 0, _, r1, r2, rfl, Nat.le_refl _, Nat.zero_le _, Mine.empty _ _ _ _ _ _ (Nat.zero_le _), ⟨fun _ h => (by cases h), X, 0, rfl, Nat.le_refl _, Nat.zero_le _, fun h => absurd h (by simp)⟩, Below.refl _ _⟩
    · obtain ⟨_, A, c, rfl, hc1, hc2, _⟩ := id hown2.rd
      refine ⟨_, _, A, qs.length, c, _, r1, r2, by simp, hc1, hc2, ⟨by simp, by omega, .inr ⟨c, ?_⟩⟩, ?_, hf2.belowOf (Nat.le_refl _)⟩
      · simpa using hown2
      · simpa using hown2.rd.cut (Nat.le_refl _) (by omega)
  · have hU' : RdN w1 m U qs := hU.below' (hf1.belowOf (Nat.le_refl _))
    obtain ⟨v2, w2, r2, hown2, hf2, _⟩ := run_append_n (P := P) w1 w.heap.size t ty e m z bytes E v1 rs hown U qs hU' o2 hbytes hlen hf1.size
    obtain ⟨_, A, c, rfl, hc1, hc2, _⟩ := id hown2.rd
    have hB2 : Below w.heap.size w1 w2 := hf2.toBelow (fun g hg => (hown.lt g (by simpa using hg)).1) hf1.size
    exact ⟨v1, w1, A, (rs ++ qs).length, c, w2, r1, r2, rfl, hc1, hc2, ⟨rfl, by omega, .inr ⟨c, hown2⟩⟩, hown2.rd.cut (Nat.le_refl _) (by omega), (hf1.belowOf (Nat.le_refl _)).trans hB2⟩
end
end Go.Proofs.Ythnehmfdadgklaa

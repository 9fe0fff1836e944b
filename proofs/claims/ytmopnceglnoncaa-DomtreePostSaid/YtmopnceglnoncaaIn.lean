/-
  Laws of rows for fenced walks: 'append' onto a row of the call's own. For every seat; no program is named here.
-/
import Derived.Test.YtmopnceglnoncaaVals
import Derived.OwnWalkIn
import Derived.TacticsInMore
namespace Go.Proofs.Ytmopnceglnoncaa
open Go.RowKit

theorem wpListIn_append_v {F : Fence} {n : Nat} {P : Program} (w : World) {ops : Array Oper} {rest : List Oper} {o : Oper} {a : Act} {Q : Exit → Act → World → Prop} (hgd : o.guard = none) (s x : Operand) (t : TypeId)
    (ho : o.op = .call { callee := .builtin .append, args := #[s, x], argTypes := #[t, t] })
    (base : Nat) (e : TypeId) (z : Value) (bytes : Nat) (E : ElemV P t e z bytes) (v : Value) (l : List Value) (hs : a.eval s = v) (hown : OwnV w base e v l) (u : Value) (m : List Value) (hx : a.eval x = u) (hr : RdV w u m) (hone : ∀ x ∈ m, x.oneCell' = true)
    (hbytes : (l.length + m.length) * bytes ≤ 140737488355328) (hlen : l.length + m.length ≤ maxLen) (hbase : base ≤ w.heap.size)
    (h : ∀ v' w', OwnV w' base e v' (l ++ m) → Frm w w' v.ownBlock.toList → (v'.ownBlock = v.ownBlock ∨ v'.ownBlock = some w.heap.size) → wpListIn F n P ops Q rest (a.put o.dst v') w') : wpListIn F n P ops Q (o :: rest) a w := by
  refine wpListIn_plain hgd fun K hK' => ?_
  obtain ⟨v', w', hrun, h2, h3, h4⟩ := run_append_v (P := P) w base t o.type e z bytes E v l hown u m hr hone hbytes hlen hbase
  unfold Oper.wpIn
  refine ⟨?_, ?_⟩
  · simp [Oper.about, ho, resolve, Target.leads, Sem.run_pure]
  · rw [Oper.semAt_plain F _ _ (by rw [ho]; intro c hc'; cases hc')]
    simp [execOp, ho, resolve, invoke, builtin, hs, hx, hrun, Result.andThen]
    exact hK' _ _ (h v' w' h2 h3 h4)
theorem wpListIn_append_rd {F : Fence} {n : Nat} {P : Program} (w : World) {ops : Array Oper} {rest : List Oper} {o : Oper} {a : Act} {Q : Exit → Act → World → Prop} (hgd : o.guard = none) (s x : Operand) (t : TypeId)
    (ho : o.op = .call { callee := .builtin .append, args := #[s, x], argTypes := #[t, t] })
    (base : Nat) (e : TypeId) (k : IntKind) (bytes : Nat) (E : ElemI P t e k bytes) (v : Value) (l : List Int) (hs : a.eval s = v) (hown : Own w base e k v l) (u : Value) (m : List Int) (hx : a.eval x = u) (hr : Rd w k u m)
    (hbytes : (l.length + m.length) * bytes ≤ 140737488355328) (hlen : l.length + m.length ≤ maxLen) (hbase : base ≤ w.heap.size)
    (h : ∀ v' w', Own w' base e k v' (l ++ m) → Frm w w' v.ownBlock.toList → (v'.ownBlock = v.ownBlock ∨ v'.ownBlock = some w.heap.size) → wpListIn F n P ops Q rest (a.put o.dst v') w') : wpListIn F n P ops Q (o :: rest) a w := by
  refine wpListIn_append_v w hgd s x t ho base e (.int k 0) bytes ⟨E.sl, rfl, E.info⟩ v (l.map (Value.int k)) hs hown.toV u (m.map (Value.int k)) hx hr.toV ?_ (by simpa using hbytes) (by simpa using hlen) hbase ?_
  · intro y hy
    simp only [List.mem_map] at hy
    obtain ⟨z, _, rfl⟩ := hy
    rfl
  · intro v' w' h2 h3 h4
    refine h v' w' ?_ h3 h4
    rw [← List.map_append] at h2
    exact h2.toI
end Go.Proofs.Ytmopnceglnoncaa

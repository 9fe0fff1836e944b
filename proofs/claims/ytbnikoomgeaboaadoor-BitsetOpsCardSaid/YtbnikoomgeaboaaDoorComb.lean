/-
  Union, Subtract and Intersect, word by word, layer 3 (bitset).
-/
import Derived.Test.YtbnikoomgeaboaaDoorSet
import Derived.Deep.RegionWith
import Derived.RegionCalls
namespace Go.Proofs.YtbnikoomgeaboaaDoor
open Go.RowKit

/-- The words behind k rounds. -/
def comb (f : Nat → Nat → Nat) : List Nat → List Nat → Nat → List Nat
  | [], _, _ => []
  | a :: r, [], _ => a :: r
  | a :: r, _ :: _, 0 => a :: r
  | a :: r, b :: s, k + 1 => f a b :: comb f r s k
theorem comb_zero (f : Nat → Nat → Nat) (ws vs : List Nat) : comb f ws vs 0 = ws := by
  cases ws <;> cases vs <;> rfl
theorem comb_len (f : Nat → Nat → Nat) : ∀ (ws vs : List Nat) (k : Nat), (comb f ws vs k).length = ws.length
  | [], _, _ => rfl
  | a :: r, [], _ => rfl
  | a :: r, b :: s, 0 => rfl
  | a :: r, b :: s, k + 1 => by simp [comb, comb_len f r s k]
theorem comb_get (f : Nat → Nat → Nat) : ∀ (ws vs : List Nat) (k j : Nat), ws.length = vs.length → (comb f ws vs k)[j]? = if j < k then (match ws[j]?, vs[j]? with | some a, some b => some (f a b) | _, _ => none) else ws[j]?
  | [], [], k, j, _ => by simp [comb]
  | a :: r, b :: s, 0, j, _ => by simp [comb]
  | a :: r, b :: s, k + 1, 0, _ => by simp [comb]
  | a :: r, b :: s, k + 1, j + 1, h => by
    simp only [comb, List.getElem?_cons_succ]
    rw [comb_get f r s k j (by simpa using h)]
    simp
theorem comb_set (f : Nat → Nat → Nat) {ws vs : List Nat} {k a b : Nat} (h : ws.length = vs.length) (ha : ws[k]? = some a) (hb : vs[k]? = some b) : (comb f ws vs k).set k (f a b) = comb f ws vs (k + 1) := by
  apply List.ext_getElem?
  intro j
  rw [List.getElem?_set, comb_get f ws vs k j h, comb_get f ws vs (k + 1) j h, comb_len]
  have hk : k < ws.length := (List.getElem?_eq_some_iff.1 ha).1
  by_cases e : k = j
  · subst e
    rw [if_pos rfl, if_pos hk, if_pos (Nat.lt_succ_self k), ha, hb]
  · rw [if_neg e]
    by_cases h1 : j < k
    · rw [if_pos h1, if_pos (by omega)]
    · rw [if_neg h1, if_neg (by omega)]
theorem comb_ne (f : Nat → Nat → Nat) {ws vs : List Nat} {k a b : Nat} (h : ws.length = vs.length) (ha : ws[k]? = some a) (hb : vs[k]? = some b) : decide (comb f ws vs (k + 1) ≠ ws) = (decide (comb f ws vs k ≠ ws) || (decide (f a b ≠ a))) := by
  rw [← comb_set f h ha hb]
  have hg := comb_get f ws vs k k h
  rw [if_neg (Nat.lt_irrefl k), ha] at hg
  by_cases e : comb f ws vs k = ws
  · rw [e, show decide (ws ≠ ws) = false from decide_eq_false (fun h => h rfl), Bool.false_or]
    refine decide_eq_decide.2 ⟨fun h1 h2 => h1 ?_, fun h1 h2 => h1 ?_⟩
    · rw [h2]
      apply List.ext_getElem?
      intro j
      rw [List.getElem?_set]
      split
      · rename_i e2; subst e2; rw [if_pos (List.getElem?_eq_some_iff.1 ha).1, ha]
      · rfl
    · have := congrArg (fun l => l[k]?) h2
      simp only [List.getElem?_set] at this
      rw [if_pos trivial, if_pos (List.getElem?_eq_some_iff.1 ha).1, ha] at this
      injection this
  · rw [decide_eq_true e, Bool.true_or]
    refine decide_eq_true fun h1 => e ?_
    apply List.ext_getElem?
    intro j
    by_cases e2 : k = j
    · subst e2; rw [hg, ha]
    · have := congrArg (fun l => l[j]?) h1
      simp only [List.getElem?_set] at this
      rwa [if_neg e2] at this
/-- An operation on words that goes bit by bit. -/
structure BitOp (f : Nat → Nat → Nat) (g : Bool → Bool → Bool) : Prop where
  wd : ∀ a b, Wd a → Wd b → Wd (f a b)
  bit : ∀ a b j, Wd b → j < 64 → (f a b).testBit j = g (a.testBit j) (b.testBit j)
  low : g false false = false
theorem comb_all {f : Nat → Nat → Nat} {g : Bool → Bool → Bool} (F : BitOp f g) {n : Nat} {ws vs : List Nat} (h : Words n ws) (k : Words n vs) : Words n (comb f ws vs ws.length) ∧ ∀ i, bit (comb f ws vs ws.length) i = g (bit ws i) (bit vs i) := by
  have hl : ws.length = vs.length := by rw [h.len, k.len]
  have key : ∀ i, bit (comb f ws vs ws.length) i = g (bit ws i) (bit vs i) := fun i => by
    unfold Go.Proofs.YtbnikoomgeaboaaDoor.bit
    rw [List.getD_eq_getElem?_getD, List.getD_eq_getElem?_getD, List.getD_eq_getElem?_getD, comb_get f ws vs _ _ hl]
    by_cases hi : i / 64 < ws.length
    · rw [if_pos hi, List.getElem?_eq_getElem hi, List.getElem?_eq_getElem (by omega)]
      exact F.bit _ _ _ (k.lt _ (List.getElem_mem (by omega))) (by omega)
    · rw [if_neg hi, List.getElem?_eq_none (by omega), List.getElem?_eq_none (by omega)]
      simp [F.low]
  refine ⟨⟨by rw [comb_len]; exact h.len, fun x hx => ?_, fun i hi => by rw [key, h.top i hi, k.top i hi]; exact F.low⟩, key⟩
  obtain ⟨j, hj⟩ := List.getElem?_of_mem hx
  rw [comb_get f ws vs _ _ hl] at hj
  split at hj
  · rename_i hjl
    rw [List.getElem?_eq_getElem hjl, List.getElem?_eq_getElem (by omega)] at hj
    injection hj with hj
    rw [← hj]
    exact F.wd _ _ (h.lt _ (List.getElem_mem _)) (k.lt _ (List.getElem_mem _))
  · exact h.lt x (List.mem_of_getElem? hj)
theorem op_or : BitOp (fun a b => a ||| b) (fun x y => x || y) := ⟨fun _ _ h k => or_wd h k, fun a b j _ _ => Nat.testBit_or a b j, rfl⟩
theorem op_sub : BitOp (fun a b => a &&& off b) (fun x y => x && !y) := ⟨fun _ _ h _ => and_wd _ h, fun a b j hb hj => by rw [Nat.testBit_and, testBit_off hb, decide_eq_true hj, Bool.true_and], rfl⟩
theorem op_and : BitOp (fun a b => a &&& b) (fun x y => x && y) := ⟨fun _ _ h _ => and_wd _ h, fun a b j _ _ => Nat.testBit_and a b j, rfl⟩

theorem or_call (a b : Nat) (ha : Wd a) (hb : Wd b) (w : World) : Calls Tryd.prog 37 #[.int .u64 a, .int .u64 b] w fun en w' => en = .returned (.int .u64 ((a ||| b : Nat) : Int)) ∧ w = w' := by
  rw [← u64_or_nat a b ha hb]
  go_enter Tryd.func37, Tryd.ntmps37
  go_wp2_with fail
  go_ret
  exact ⟨rfl, rfl⟩
theorem sub_call (a b : Nat) (ha : Wd a) (hb : Wd b) (w : World) : Calls Tryd.prog 39 #[.int .u64 a, .int .u64 b] w fun en w' => en = .returned (.int .u64 ((a &&& off b : Nat) : Int)) ∧ w = w' := by
  rw [← andNot_w ha hb]
  go_enter Tryd.func39, Tryd.ntmps39
  go_wp2_with fail
  go_ret
  exact ⟨rfl, rfl⟩
theorem and_call (a b : Nat) (ha : Wd a) (hb : Wd b) (w : World) : Calls Tryd.prog 40 #[.int .u64 a, .int .u64 b] w fun en w' => en = .returned (.int .u64 ((a &&& b : Nat) : Int)) ∧ w = w' := by
  rw [← u64_and_nat a b ha hb]
  go_enter Tryd.func40, Tryd.ntmps40
  go_wp2_with fail
  go_ret
  exact ⟨rfl, rfl⟩

end Go.Proofs.YtbnikoomgeaboaaDoor

/-
  Layer 20 (cfg): slices.Equal at positions; the function of the examples.
-/
import Derived.Test.YthnehmfdadgklaaCfV
import Derived.Test.YthnehmfdadgklaaCfEq
namespace Go.Proofs.Ythnehmfdadgklaa
open Go.RowKit Go.Deep

theorem neqpos (x1 x2 : Int) (W : World) : Sem.run Try.prog (binOp .neq 37 (.agg #[.int .i64 x1, .int .i64 x2]) (.agg #[.int .i64 x1, .int .i64 x2])) W = .ok (.bool false) W := by
  rw [run_neq_struct]
  have h := eqpos x1 x2 x1 x2 W
  rw [run_eql_struct] at h
  revert h
  generalize (Op.equalIn 10000 37 (.agg #[.int .i64 x1, .int .i64 x2]) (.agg #[.int .i64 x1, .int .i64 x2])).run Try.prog W = r
  cases r with
  | ok b w' =>
    intro h
    simp [Result.andThen] at h ⊢
    obtain ⟨h1, h2⟩ := h
    exact ⟨h1, h2⟩
  | halt x w' => intro h; simp [Result.andThen] at h
attribute [-go_sem] run_neq_struct
set_option maxRecDepth 100000 in
set_option maxHeartbeats 1000000 in
theorem equal_pos (u v : Value) (l : List (Int × Int)) (w : World) (hu : RdN w 2 u (l.map posC)) (hv : RdN w 2 v (l.map posC)) :
    Calls Try.prog 32 #[u, v] w fun e w' => e = .returned (.bool true) ∧ Below w.heap.size w w' := by
  obtain ⟨_, A, c, e1, hc, hm, _⟩ := id hu
  obtain ⟨_, A', c', e2, hc', hm', _⟩ := id hv
  rw [List.length_map] at e1 hc e2 hc'
  subst e1 e2
  have hc9 : c ≤ 9223372036854775807 := by unfold maxLen at hm; omega
  have hc9' : c' ≤ 9223372036854775807 := by unfold maxLen at hm'; omega
  have HU := hide hu
  have HV := hide hv
  have hgt := posG
  clear hu hv hm hm'
  go_enter Try.func32, Try.ntmps32
  go_wp2_with fail
  go_loopw [13] (fun i wr => ∃ k : Nat, k ≤ l.length ∧ i = .int .i64 k ∧ Hid (Below w.heap.size w wr)) (fun i _ => l.length - (intOf i).toNat)
  case atStart => exact ⟨0, Nat.zero_le _, rfl, hide (Below.refl _ _)⟩
  case round =>
    obtain ⟨wq, rfl⟩ : ∃ x, x = wr := ⟨_, rfl⟩
    obtain ⟨k, hk, rfl, hB⟩ := hrel
    by_cases hlt : k < l.length
    · obtain ⟨x, hx⟩ : ∃ x, l[k]? = some x := ⟨_, List.getElem?_eq_getElem hlt⟩
      obtain ⟨x1, x2⟩ := x
      obtain ⟨b, o, rfl, hb, hr⟩ := (HU.out.below' hB.out).row (i := k) (r := posC (x1, x2)) (by rw [List.getElem?_map, hx]; rfl)
      obtain ⟨b', o', rfl, hb', hr'⟩ := (HV.out.below' hB.out).row (i := k) (r := posC (x1, x2)) (by rw [List.getElem?_map, hx]; rfl)
      have c0 : wq.cell? ⟨b, o + k * 2, none⟩ = some (.int .i64 x1) := hr 0 _ rfl
      have c1 : wq.cell? ⟨b, o + k * 2 + 1, none⟩ = some (.int .i64 x2) := hr 1 _ rfl
      have d0 : wq.cell? ⟨b', o' + k * 2, none⟩ = some (.int .i64 x1) := hr' 0 _ rfl
      have d1 : wq.cell? ⟨b', o' + k * 2 + 1, none⟩ = some (.int .i64 x2) := hr' 1 _ rfl
      have hne := neqpos x1 x2
      clear hx hb hr hb' hr'
      go_wp2_with fail
      go_quiet (fail)
      go_wp2_with fail
      go_roundw
      case rel => exact ⟨k + 1, by omega, by go_num, hide (Below.drewN' hB.out _)⟩
      case measure => simp [intOf]; omega
    · go_wp2_with fail
      go_ret
      exact ⟨rfl, hB.out⟩
end Go.Proofs.Ythnehmfdadgklaa

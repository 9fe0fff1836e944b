/-
  Layer 23 (expr): slices.Equal at expressions, whatever they are.
-/
import Derived.Test.YtnhaanjpcnnifaaDoorExL
import Derived.Laws.StructEq
namespace Go.Proofs.YtnhaanjpcnnifaaDoor
open Go.RowKit Go.Deep

def eqN (x y : NdD) : Bool := (x.op == y.op) && ((x.ty == y.ty) && (x.n == y.n))
def eqL : List NdD → List NdD → Bool
  | [], [] => true
  | x :: a, y :: b => eqN x y && eqL a b
  | _, _ => false
theorem eqN_iff (x y : NdD) : eqN x y = true ↔ x = y := by
  obtain ⟨a, b, c⟩ := x
  obtain ⟨d, e, f⟩ := y
  simp [eqN]
theorem eqL_iff : ∀ (a b : List NdD), eqL a b = true ↔ a = b
  | [], [] => by simp [eqL]
  | [], _ :: _ => by simp [eqL]
  | _ :: _, [] => by simp [eqL]
  | x :: a, y :: b => by rw [eqL, Bool.and_eq_true, eqN_iff, eqL_iff a b]; simp
theorem eqL_len {a b : List NdD} (h : a.length ≠ b.length) : eqL a b = false := by
  cases hb : eqL a b with
  | false => rfl
  | true => exact absurd (by rw [(eqL_iff a b).1 hb]) h
theorem neqnd2 (a b c d e f : Int) (W : World) : Sem.run Tryd.prog (binOp .neq 40 (.agg #[.int .i64 a, .int .i64 b, .int .i64 c]) (.agg #[.int .i64 d, .int .i64 e, .int .i64 f])) W = .ok (.bool (!((a == d) && ((b == e) && (c == f))))) W := by
  rw [run_neq_struct]
  by_cases h1 : a = d
  · by_cases h2 : b = e
    · by_cases h3 : c = f
      · simp [go_sem, h1, h2, h3]
      · simp [go_sem, h1, h2, h3]
    · simp [go_sem, h1, h2]
  · simp [go_sem, h1]
attribute [-go_sem] run_eql_struct run_equalIn_agg run_neq_struct
set_option maxRecDepth 100000 in
set_option maxHeartbeats 4000000 in
theorem equal2_nd (u v : Value) (l m : List NdD) (w : World) (hu : RdN w 3 u (l.map NdD.cells)) (hv : RdN w 3 v (m.map NdD.cells)) :
    Calls Tryd.prog 12 #[u, v] w fun e w' => e = .returned (.bool (eqL l m)) ∧ Below w.heap.size w w' := by
  obtain ⟨_, A, c, e1, hc, hm, _⟩ := id hu
  obtain ⟨_, A', c', e2, hc', hm', _⟩ := id hv
  rw [List.length_map] at e1 hc e2 hc'
  subst e1 e2
  have hc9 : c ≤ 9223372036854775807 := by unfold maxLen at hm; omega
  have hc9' : c' ≤ 9223372036854775807 := by unfold maxLen at hm'; omega
  have HU := hide hu
  have HV := hide hv
  clear hu hv hm hm'
  by_cases hne : l.length = m.length
  · have HNE := hide hne
    have g0 : (((l.length : Nat) : Int) != (m.length : Int)) = false := by simp [hne]
    obtain ⟨R, hR⟩ : ∃ R, eqL l m = R := ⟨_, rfl⟩
    rw [hR]
    have HR := hide hR
    clear hne hR
    go_enter Tryd.func12, Tryd.ntmps12
    go_wp2_with fail
    go_loopw [13] (fun i wr => ∃ k : Nat, k ≤ l.length ∧ i = .int .i64 k ∧ Hid (l.take k = m.take k) ∧ Hid (Below w.heap.size w wr)) (fun i _ => l.length - (intOf i).toNat)
    case atStart => exact ⟨0, Nat.zero_le _, rfl, hide rfl, hide (Below.refl _ _)⟩
    case round =>
      obtain ⟨wq, rfl⟩ : ∃ x, x = wr := ⟨_, rfl⟩
      obtain ⟨k, hk, rfl, hT, hB⟩ := hrel
      by_cases hlt : k < l.length
      · obtain ⟨x, hx⟩ : ∃ x, l[k]? = some x := ⟨_, List.getElem?_eq_getElem hlt⟩
        obtain ⟨y, hy⟩ : ∃ y, m[k]? = some y := ⟨_, List.getElem?_eq_getElem (by have := HNE.out; omega)⟩
        obtain ⟨x1, x2, x3⟩ := x
        obtain ⟨y1, y2, y3⟩ := y
        obtain ⟨b, o, rfl, hb, hr⟩ := (HU.out.below' hB.out).row (i := k) (r := NdD.cells ⟨x1, x2, x3⟩) (by rw [List.getElem?_map, hx]; rfl)
        obtain ⟨b', o', rfl, hb', hr'⟩ := (HV.out.below' hB.out).row (i := k) (r := NdD.cells ⟨y1, y2, y3⟩) (by rw [List.getElem?_map, hy]; rfl)
        have c0 : wq.cell? ⟨b, o + k * 3, none⟩ = some (.int .i64 x1) := hr 0 _ rfl
        have c1 : wq.cell? ⟨b, o + k * 3 + 1, none⟩ = some (.int .i64 x2) := hr 1 _ rfl
        have c2 : wq.cell? ⟨b, o + k * 3 + 2, none⟩ = some (.int .i64 x3) := hr 2 _ rfl
        have d0 : wq.cell? ⟨b', o' + k * 3, none⟩ = some (.int .i64 y1) := hr' 0 _ rfl
        have d1 : wq.cell? ⟨b', o' + k * 3 + 1, none⟩ = some (.int .i64 y2) := hr' 1 _ rfl
        have d2 : wq.cell? ⟨b', o' + k * 3 + 2, none⟩ = some (.int .i64 y3) := hr' 2 _ rfl
        have HX := hide hx
        have HY := hide hy
        have HJ := hide hlt
        have hm2 : k < m.length := by have := HNE.out; omega
        have hq : ∀ W, Sem.run Tryd.prog (binOp .neq 40 (.agg #[.int .i64 x1, .int .i64 x2, .int .i64 x3]) (.agg #[.int .i64 y1, .int .i64 y2, .int .i64 y3])) W = .ok (.bool (!(eqN ⟨x1, x2, x3⟩ ⟨y1, y2, y3⟩))) W := neqnd2 x1 x2 x3 y1 y2 y3
        clear hx hy hb hr hb' hr'
        cases hxy : eqN ⟨x1, x2, x3⟩ ⟨y1, y2, y3⟩ with
        | true =>
          have HXY := hide hxy
          rw [hxy] at hq
          have hq2 : ∀ W, Sem.run Tryd.prog (binOp .neq 40 (.agg #[.int .i64 x1, .int .i64 x2, .int .i64 x3]) (.agg #[.int .i64 y1, .int .i64 y2, .int .i64 y3])) W = .ok (.bool false) W := hq
          clear hxy hq
          go_wp2_with fail
          go_quiet (fail)
          go_wp2_with fail
          go_roundw
          case rel =>
            refine ⟨k + 1, by have := HJ.out; omega, by go_num, hide ?_, hide (Below.drewN' hB.out _)⟩
            rw [take_next HX.out, take_next HY.out, hT.out, (eqN_iff _ _).1 HXY.out]
          case measure => have := HJ.out; simp [intOf]; omega
        | false =>
          have HXY := hide hxy
          rw [hxy] at hq
          have hq2 : ∀ W, Sem.run Tryd.prog (binOp .neq 40 (.agg #[.int .i64 x1, .int .i64 x2, .int .i64 x3]) (.agg #[.int .i64 y1, .int .i64 y2, .int .i64 y3])) W = .ok (.bool true) W := hq
          have hfin : Hid (R = false) := hide (by
            rw [← HR.out]
            cases hb : eqL l m with
            | false => rfl
            | true =>
              have h1 := (eqL_iff l m).1 hb
              have h2 := HX.out
              rw [h1, HY.out] at h2
              injection h2 with h2
              rw [← h2, (eqN_iff _ _).2 rfl] at hxy
              cases hxy)
          clear hxy hq
          go_wp2_with fail
          go_quiet (fail)
          go_wp2_with fail
          go_ret
          exact ⟨by rw [hfin.out]; rfl, Below.drewN' hB.out _⟩
      · have hfin : Hid (R = true) := hide (by
          rw [← HR.out, eqL_iff]
          have h1 := hT.out
          rw [List.take_of_length_le (by omega), List.take_of_length_le (by have := HNE.out; omega)] at h1
          exact h1)
        go_wp2_with fail
        go_ret
        exact ⟨by rw [hfin.out]; rfl, hB.out⟩
  · have g0 : (((l.length : Nat) : Int) != (m.length : Int)) = true := by simp; omega
    rw [eqL_len hne]
    have g1 : (l.length != m.length) = true := by simpa using hne
    clear hne
    go_enter Tryd.func12, Tryd.ntmps12
    go_wp2_with fail
    go_ret
    exact ⟨rfl, Below.refl _ _⟩
end Go.Proofs.YtnhaanjpcnnifaaDoor

/-
  Layer 19 (refine): three outcomes as an argument.
-/
import Derived.Test.YtojeaghljebbbaaDoorRnO
namespace Go.Proofs.YtojeaghljebbbaaDoor
open Go.RowKit Go.ChangeShapes Go.WideShapes

theorem opens_vals0 : Opens Tryd.prog 28 (fun W cs => ∃ v, ∃ l : List VD, cs = [v] ∧ RdN W 14 v (l.map VD.cl)) := by
  intro H enc W held fuel cs x h
  obtain ⟨v, rows, h1, h2, h4⟩ := opens_slice (m := 14) Tryd.underlying28 (by kernel_rfl) (by decide) opens_V H enc W held fuel cs x h
  obtain ⟨l, rfl, _⟩ := map_of_each (f := VD.cl) (p := fun _ => True) rows (fun y hy => by obtain ⟨d, hd⟩ := h4 y hy; exact ⟨d, hd, trivial⟩)
  exact ⟨v, l, h1, h2⟩
theorem opens_LD0 : Opens Tryd.prog 28 (fun W cs => ∃ d : LD, cs = d.cl ∧ d.ok W) := by
  intro H enc W held fuel cs x h
  obtain ⟨v, l, h1, h2⟩ := opens_vals0 H enc W held fuel cs x h
  obtain ⟨A, c, hv⟩ := h2.form
  subst hv
  rw [List.length_map] at h1 h2
  exact ⟨⟨A, c, l⟩, h1, h2⟩
theorem opens_lists0 : Opens Tryd.prog 29 (fun W cs => ∃ v, ∃ l : List LD, cs = [v] ∧ RdN W 1 v (l.map LD.cl) ∧ ∀ d ∈ l, d.ok W) := by
  intro H enc W held fuel cs x h
  obtain ⟨v, rows, h1, h2, h4⟩ := opens_slice (m := 1) Tryd.underlying29 (by kernel_rfl) (by decide) opens_LD0 H enc W held fuel cs x h
  obtain ⟨l, rfl, hl⟩ := map_of_each (f := LD.cl) (p := fun d => d.ok W) rows h4
  exact ⟨v, l, h1, h2, hl⟩
set_option maxRecDepth 100000 in
theorem opens_O0 : Opens Tryd.prog 31 (fun W cs => ∃ d : OD, cs = d.cl ∧ d.ok W) := by
  intro H enc W held fuel cs x h
  obtain ⟨xs, n, _, rfl, hl, hlen, hf⟩ := DataW.trod_struct Tryd.underlying31 h
  rw [show Tryd.prog.cellsOf 31 = 19 by kernel_rfl] at hl
  match xs, hlen with
  | [y0, y1, y2, y3, y4, y5], _ =>
    have e0 := trod_field 0 (show Tryd.prog.cellsOf 3 = 1 by kernel_rfl) (hf 0 _ rfl)
    have e1 := trod_field 1 (show Tryd.prog.cellsOf 3 = 1 by kernel_rfl) (hf 1 _ rfl)
    have e2 := trod_field 2 (show Tryd.prog.cellsOf 27 = 14 by kernel_rfl) (hf 2 _ rfl)
    have e3 := trod_field 16 (show Tryd.prog.cellsOf 28 = 1 by kernel_rfl) (hf 3 _ rfl)
    have e4 := trod_field 17 (show Tryd.prog.cellsOf 29 = 1 by kernel_rfl) (hf 4 _ rfl)
    have e5 := trod_field 18 (show Tryd.prog.cellsOf 3 = 1 by kernel_rfl) (hf 5 _ rfl)
    match cs, hl with
    | [c0, c1, c2, c3, c4, c5, c6, c7, c8, c9, c10, c11, c12, c13, c14, c15, c16, c17, c18], _ =>
      obtain ⟨z0, h0, _, _⟩ := DataW.trod_int Tryd.underlying3 e0
      obtain ⟨z1, h1, _, _⟩ := DataW.trod_int Tryd.underlying3 e1
      obtain ⟨d2, h2⟩ := opens_V H enc W held n _ _ e2
      obtain ⟨v3, l3, h3, r3⟩ := opens_vals0 H enc W held n _ _ e3
      obtain ⟨v4, l4, h4, r4, k4⟩ := opens_lists0 H enc W held n _ _ e4
      obtain ⟨z5, h5, _, _⟩ := DataW.trod_int Tryd.underlying3 e5
      simp only [List.drop, List.take, List.cons.injEq, and_true] at h0 h1 h2 h3 h4 h5
      obtain ⟨A3, k3, q3⟩ := r3.form
      obtain ⟨A4, k4', q4⟩ := r4.form
      subst q3 q4
      rw [List.length_map] at r3 h3 r4 h4
      subst h0 h1 h3 h4 h5
      refine ⟨⟨z0, z1, d2, A3, k3, l3, A4, k4', l4, z5⟩, ?_, ⟨r3, r4, k4⟩⟩
      show _ = [Value.int .i64 z0, Value.int .i64 z1] ++ d2.cl ++ [Value.slice A3 l3.length k3, Value.slice A4 l4.length k4', Value.int .i64 z5]
      rw [← h2]
      rfl
section
variable {H : Type} {enc : TypeId × Value → H} {W : World} {r : Reach} {b0 : Nat} {v : Value} {x : DataW H} {ps : List MemPlace}
theorem open_O3 (hval : Value.okWide Tryd.prog W r b0 48 v) (hd : DataW.Trod enc Tryd.prog W 0 (fun _ => true) true 48 v x ps) :
    ∃ a b c : OD, v = .agg (a.cl ++ (b.cl ++ c.cl)).toArray ∧ a.ok W ∧ b.ok W ∧ c.ok W := by
  have ht := Tryd.underlying48
  obtain ⟨⟨cs⟩, rfl⟩ : ∃ xs, v = .agg xs := by
    simp only [Value.okWide, ht] at hval
    obtain ⟨cs, h1, _⟩ := hval
    exact ⟨cs, h1⟩
  obtain ⟨fuel, hf⟩ := hd
  have hf' : DataW.trod enc Tryd.prog W 0 (fun _ => true) true fuel 48 cs = some (x, ps) := hf
  obtain ⟨ys, m, _, _, hlen, _, _⟩ := DataW.trod_array ht hf'
  rw [show Tryd.prog.cellsOf 48 = 57 by kernel_rfl] at hlen
  have each : ∀ i, i < 3 → ∃ d : OD, (cs.drop (i * 19)).take 19 = d.cl ∧ d.ok W := fun i hi => by
    obtain ⟨k, y, hy⟩ := trod_arr_at (m := 19) ht (by kernel_rfl) hf' i hi
    exact opens_O0 H enc W true k _ _ hy
  obtain ⟨a, ha, oa⟩ := each 0 (by omega)
  obtain ⟨b, hb, ob⟩ := each 1 (by omega)
  obtain ⟨c, hc, oc⟩ := each 2 (by omega)
  refine ⟨a, b, c, ?_, oa, ob, oc⟩
  rw [← ha, ← hb, ← hc]
  congr 1
  apply Array.toList_inj.1
  show cs = _
  simp only [Nat.zero_mul, Nat.one_mul, List.drop_zero]
  have h1 : cs = cs.take 19 ++ cs.drop 19 := (List.take_append_drop 19 cs).symm
  have h2 : cs.drop 19 = (cs.drop 19).take 19 ++ (cs.drop 19).drop 19 := (List.take_append_drop 19 _).symm
  have h3 : (cs.drop 19).drop 19 = (cs.drop (2 * 19)).take 19 := by
    rw [List.drop_drop, List.take_of_length_le (by rw [List.length_drop]; omega)]
  rw [← h3, ← h2, ← h1]
end
def zO19 : List Value := [.int .i64 0, .int .i64 0, .int .i64 0, .int .i64 0, .int .i64 0, .bool false, .bool false, .int .i64 0, .bool false, .bool false, .int .i64 0, .bool false, .bool false, .int .i64 0, .bool false, .bool false, .slice none 0 0, .slice none 0 0, .int .i64 0]
def zero3 : Value := .agg (zO19 ++ (zO19 ++ zO19)).toArray
def zeroD3 {H : Type} : DataW H := .agg [.agg [.lit (.int .i64 0), .lit (.int .i64 0), .agg [.lit (.int .i64 0), .lit (.int .i64 0), .agg [.agg [.lit (.int .i64 0), .lit (.bool false), .lit (.bool false)], .agg [.lit (.int .i64 0), .lit (.bool false), .lit (.bool false)], .agg [.lit (.int .i64 0), .lit (.bool false), .lit (.bool false)], .agg [.lit (.int .i64 0), .lit (.bool false), .lit (.bool false)]]], .nil, .nil, .lit (.int .i64 0)], .agg [.lit (.int .i64 0), .lit (.int .i64 0), .agg [.lit (.int .i64 0), .lit (.int .i64 0), .agg [.agg [.lit (.int .i64 0), .lit (.bool false), .lit (.bool false)], .agg [.lit (.int .i64 0), .lit (.bool false), .lit (.bool false)], .agg [.lit (.int .i64 0), .lit (.bool false), .lit (.bool false)], .agg [.lit (.int .i64 0), .lit (.bool false), .lit (.bool false)]]], .nil, .nil, .lit (.int .i64 0)], .agg [.lit (.int .i64 0), .lit (.int .i64 0), .agg [.lit (.int .i64 0), .lit (.int .i64 0), .agg [.agg [.lit (.int .i64 0), .lit (.bool false), .lit (.bool false)], .agg [.lit (.int .i64 0), .lit (.bool false), .lit (.bool false)], .agg [.lit (.int .i64 0), .lit (.bool false), .lit (.bool false)], .agg [.lit (.int .i64 0), .lit (.bool false), .lit (.bool false)]]], .nil, .nil, .lit (.int .i64 0)]]
end Go.Proofs.YtojeaghljebbbaaDoor

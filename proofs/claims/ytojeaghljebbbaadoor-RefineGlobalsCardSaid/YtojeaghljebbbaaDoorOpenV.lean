/-
  An argument of type api.Value, opened: its fourteen cells.
-/
import Derived.Test.YtojeaghljebbbaaDoorOpen
import Derived.Test.YtojeaghljebbbaaDoorVB
import Derived.Deep.Strs
import Derived.Lib.LaidTab
namespace Go.Proofs.YtojeaghljebbbaaDoor
open Go.RowKit Go.ChangeShapes Go.WideShapes

theorem trod_arr_at {H : Type} {enc : TypeId × Value → H} {P : Program} {w : World} {base : Nat} {sp : Nat → Bool} {held : Bool} {fuel : Nat} {t e : TypeId} {n m : Nat} {cs : List Value} {x : DataW H × List MemPlace}
    (ht : P.underlying t = some (.array n e)) (hce : P.cellsOf e = m) (h : DataW.trod enc P w base sp held fuel t cs = some x) (i : Nat) (hi : i < n) :
    ∃ k y, DataW.trod enc P w base sp held k e ((cs.drop (i * m)).take m) = some y := by
  cases fuel with
  | zero => simp [DataW.trod] at h
  | succ fuel =>
    simp only [DataW.trod, ht, hce] at h
    split at h
    · obtain ⟨xs, hm, hx⟩ := Option.map_eq_some_iff.1 h
      obtain ⟨b, hb, hf⟩ := Lib.mapM_at hm i i (by simp [hi])
      exact ⟨fuel, b, hf⟩
    · cases h

section
variable {H : Type} {enc : TypeId × Value → H} {W : World}
set_option maxRecDepth 100000 in
theorem open_lane {fuel : Nat} {cs : List Value} {x : DataW H × List MemPlace} (h : DataW.trod enc Tryd.prog W 0 (fun _ => true) true fuel 24 cs = some x) :
    ∃ a : LaneD, cs = [.int .i64 a.n, .bool a.p, .bool a.u] := by
  obtain ⟨y0, y1, y2, n, _, hl, e0, e1, e2⟩ := Deep.trod_struct3 Tryd.underlying24 h
  rw [show Tryd.prog.cellsOf 24 = 3 by kernel_rfl] at hl
  match cs, hl with
  | [a, b, c], _ =>
    rw [show Tryd.prog.cellsOf 2 = 1 by kernel_rfl] at e0
    simp only [show Tryd.prog.cellsOf 4 = 1 by kernel_rfl] at e1 e2
    obtain ⟨z, h1, _, _⟩ := DataW.trod_int Tryd.underlying2 e0
    obtain ⟨p, h2, _⟩ := DataW.trod_bool Tryd.underlying4 e1
    obtain ⟨u, h3, _⟩ := DataW.trod_bool Tryd.underlying4 e2
    simp at h1 h2 h3
    subst h1 h2 h3
    exact ⟨⟨z, p, u⟩, rfl⟩

set_option maxRecDepth 100000 in
theorem open_value {r : Reach} {b0 : Nat} {v : Value} {d : DataW H} {ps : List MemPlace} (hval : Value.okWide Tryd.prog W r b0 27 v) (hd : DataW.Trod enc Tryd.prog W 0 (fun _ => true) true 27 v d ps) :
    ∃ t o : Int, ∃ a b c e : LaneD, v = .agg #[.int .i64 t, .int .i64 o, .int .i64 a.n, .bool a.p, .bool a.u, .int .i64 b.n, .bool b.p, .bool b.u, .int .i64 c.n, .bool c.p, .bool c.u, .int .i64 e.n, .bool e.p, .bool e.u] := by
  obtain ⟨cs, rfl, hcs⟩ := okWide_struct Tryd.underlying27 hval
  rw [show Tryd.prog.cellsOf 27 = 14 by kernel_rfl] at hcs
  obtain ⟨fuel, hfu⟩ := hd
  have hf' : DataW.trod enc Tryd.prog W 0 (fun _ => true) true fuel 27 cs.toList = some (d, ps) := hfu
  obtain ⟨y0, y1, y2, n, _, hl, e0, e1, e2⟩ := Deep.trod_struct3 Tryd.underlying27 hf'
  simp only [show Tryd.prog.cellsOf 22 = 1 by kernel_rfl] at e0
  simp only [show Tryd.prog.cellsOf 3 = 1 by kernel_rfl] at e1
  simp only [show Tryd.prog.cellsOf 25 = 12 by kernel_rfl] at e2
  obtain ⟨l, rfl⟩ : ∃ l : List Value, cs = l.toArray := ⟨cs.toList, by simp⟩
  simp only [List.size_toArray] at hcs
  match l, hcs with
  | [c0, c1, c2, c3, c4, c5, c6, c7, c8, c9, c10, c11, c12, c13], _ =>
    obtain ⟨t, h0, _, _⟩ := DataW.trod_int Tryd.underlying22 e0
    obtain ⟨o, h1, _, _⟩ := DataW.trod_int Tryd.underlying3 e1
    have lane : ∀ i, i < 4 → ∃ a : LaneD, ((([c0, c1, c2, c3, c4, c5, c6, c7, c8, c9, c10, c11, c12, c13].drop 2).take 12).drop (i * 3)).take 3 = [.int .i64 a.n, .bool a.p, .bool a.u] := fun i hi => by
      obtain ⟨k, y, hy⟩ := trod_arr_at (m := 3) Tryd.underlying25 (by kernel_rfl) e2 i hi
      exact open_lane hy
    obtain ⟨a, ha⟩ := lane 0 (by omega)
    obtain ⟨b, hb⟩ := lane 1 (by omega)
    obtain ⟨c, hc⟩ := lane 2 (by omega)
    obtain ⟨e, he⟩ := lane 3 (by omega)
    simp at h0 h1 ha hb hc he
    obtain ⟨rfl, rfl, rfl⟩ := ha
    obtain ⟨rfl, rfl, rfl⟩ := hb
    obtain ⟨rfl, rfl, rfl⟩ := hc
    obtain ⟨rfl, rfl, rfl⟩ := he
    subst h0 h1
    exact ⟨t, o, a, b, c, e, rfl⟩
end
end Go.Proofs.YtojeaghljebbbaaDoor

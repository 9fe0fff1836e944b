/-
  Layer 11 (value): Int, Poison and Pointer of both, one contract each.
-/
import Derived.Test.YtojeaghljebbbaaDoorMkI
import Derived.Test.YtojeaghljebbbaaDoorMkJ
import Derived.Test.YtojeaghljebbbaaDoorMkK
import Derived.Test.YtojeaghljebbbaaDoorMkP
import Derived.Test.YtojeaghljebbbaaDoorMkQ
import Derived.Test.YtojeaghljebbbaaDoorMkR
import Derived.Test.YtojeaghljebbbaaDoorMkS
import Derived.Test.YtojeaghljebbbaaDoorMkT
import Derived.Test.YtojeaghljebbbaaDoorMkU
import Derived.Test.YtojeaghljebbbaaDoorMkV
namespace Go.Proofs.YtojeaghljebbbaaDoor
open Go.RowKit

def mkLanes (t : Int) (l : LaneD) : Array Value :=
  if numL t = 1 then vc t 0 l zL zL zL else if numL t = 2 then vc t 0 l l zL zL else if numL t = 4 then vc t 0 l l l l else vc 0 0 zL zL zL zL
def mkInt (t n : Int) : Array Value := if t = 5 then vc 0 0 zL zL zL zL else mkLanes t ⟨wrapI (laneT t) n, false, false⟩
def mkPoison (t : Int) : Array Value := mkLanes t ⟨0, true, false⟩
def mkPointer (x n : Int) : Array Value := if x < -1 then vc 0 0 zL zL zL zL else vc 5 x ⟨n, false, false⟩ zL zL zL

theorem mkLanes_0 {t : Int} (l : LaneD) (h : numL t = 0) : mkLanes t l = vc 0 0 zL zL zL zL := by unfold mkLanes; rw [h]; rfl
theorem mkLanes_1 {t : Int} (l : LaneD) (h : numL t = 1) : mkLanes t l = vc t 0 l zL zL zL := by unfold mkLanes; rw [h]; rfl
theorem mkLanes_2 {t : Int} (l : LaneD) (h : numL t = 2) : mkLanes t l = vc t 0 l l zL zL := by unfold mkLanes; rw [h]; rfl
theorem mkLanes_4 {t : Int} (l : LaneD) (h : numL t = 4) : mkLanes t l = vc t 0 l l l l := by unfold mkLanes; rw [h]; rfl
theorem numL_is (t : Int) : (numL t = 0 ∧ (t < 1 ∨ 7 < t)) ∨ numL t = 1 ∨ (numL t = 2 ∧ t = 6) ∨ (numL t = 4 ∧ t = 7) := by
  rcases types7 t with rfl | rfl | rfl | rfl | rfl | rfl | rfl | h
  · exact .inr (.inl (by decide))
  · exact .inr (.inl (by decide))
  · exact .inr (.inl (by decide))
  · exact .inr (.inl (by decide))
  · exact .inr (.inl (by decide))
  · exact .inr (.inr (.inl (by decide)))
  · exact .inr (.inr (.inr (by decide)))
  · exact .inl ⟨numL_none h, h⟩

theorem int_any (t n : Int) (w : World) (hT : Tab w) : Calls Tryd.prog 19 #[.int .i64 t, .int .i64 n] w fun e w' => e = .returned (.agg (mkInt t n)) ∧ Below w.heap.size w w' := by
  unfold mkInt
  by_cases h5 : t = 5
  · rw [if_pos h5]
    subst h5; exact int_5 n w
  · rw [if_neg h5]
    rcases numL_is t with h | h | h | h
    · rw [mkLanes_0 _ h.1]; exact int_0 t n w hT h.2
    · rw [mkLanes_1 _ h]; exact int_1 t n w hT h h5
    · rw [mkLanes_2 _ h.1]; exact int_2 t n w hT h.1
    · rw [mkLanes_4 _ h.1]; exact int_4 t n w hT h.1
theorem poison_any (t : Int) (w : World) : Calls Tryd.prog 20 #[.int .i64 t] w fun e w' => e = .returned (.agg (mkPoison t)) ∧ Below w.heap.size w w' := by
  unfold mkPoison
  rcases numL_cases t with h | h | h | h
  · rw [mkLanes_0 _ h]; exact poison_0 t w h
  · rw [mkLanes_1 _ h]; exact poison_1 t w h
  · rw [mkLanes_2 _ h]; exact poison_2 t w h
  · rw [mkLanes_4 _ h]; exact poison_4 t w h
theorem rint_any (t n : Int) (w : World) : Calls Tryd.prog 18 #[.int .i64 t, .int .i64 n] w fun e w' => e = .returned (.agg (mkInt t n)) ∧ Below w.heap.size w w' := by
  unfold mkInt
  by_cases h5 : t = 5
  · rw [if_pos h5]
    exact rint_0 t n w (.inl h5)
  · rw [if_neg h5]
    rcases numL_is t with h | h | h | h
    · rw [mkLanes_0 _ h.1]; exact rint_0 t n w (.inr h.2)
    · rw [mkLanes_1 _ h]; exact rint_1 t n w h h5
    · rw [mkLanes_2 _ h.1]; exact rint_2 t n w h.1 h.2
    · rw [mkLanes_4 _ h.1]; exact rint_4 t n w h.1 h.2
end Go.Proofs.YtojeaghljebbbaaDoor

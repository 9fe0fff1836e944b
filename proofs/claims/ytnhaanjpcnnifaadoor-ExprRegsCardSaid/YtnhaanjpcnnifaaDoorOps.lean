import Derived.Test.YtnhaanjpcnnifaaDoorAdd
import Derived.Test.YtnhaanjpcnnifaaDoorMulMath
namespace Go.Proofs.YtnhaanjpcnnifaaDoor
open Go.RowKit

/-- What Sub says besides: true if the wrapped difference is another number than the 64-bit difference. -/
theorem sub_case1 {t a b : Int} (hs : ¬ wrapI t (wrap64 (wrapI t a - wrapI t b)) = wrap64 (wrapI t a - wrapI t b)) : true = subO t a b := by
  have h := sub_over t _ _ (wrap_in t a) (wrap_in t b)
  exact (outI_true (by
    rcases Classical.em (minI t ≤ wrapI t a - wrapI t b ∧ wrapI t a - wrapI t b ≤ maxI t) with g | g
    · exact absurd (h.2 g).1 hs
    · omega)).symm
theorem sub_case2 {t a b : Int} (hs : wrapI t (wrap64 (wrapI t a - wrapI t b)) = wrap64 (wrapI t a - wrapI t b)) (hb : Bool)
    (hd : hb = false ↔ (¬ (wrapI t a < 0 ↔ wrapI t b < 0) → (wrap64 (wrapI t a - wrapI t b) < 0 ↔ wrapI t a < 0))) : hb = subO t a b := by
  have h := sub_over t _ _ (wrap_in t a) (wrap_in t b)
  cases hb
  · exact (outI_false (h.1 ⟨hs, hd.1 rfl⟩)).symm
  · refine (outI_true ?_).symm
    rcases Classical.em (minI t ≤ wrapI t a - wrapI t b ∧ wrapI t a - wrapI t b ≤ maxI t) with g | g
    · exact absurd (hd.2 (h.2 g).2) (by simp)
    · omega

theorem ret_bool {p q : Bool} (h : p = q) : Ending.returned (.bool p) = .returned (.bool q) := by rw [h]
end Go.Proofs.YtnhaanjpcnnifaaDoor

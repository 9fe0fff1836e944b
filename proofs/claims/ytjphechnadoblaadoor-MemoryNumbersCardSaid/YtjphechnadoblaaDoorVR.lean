/-
  Layer 11 (value): Valid of the reference.
-/
import Derived.Test.YtjphechnadoblaaDoorVV
namespace Go.Proofs.YtjphechnadoblaaDoor
open Go.RowKit

theorem rlanet_at {t lt : Int} (h : laneT t = lt) (w : World) : Calls Tryd.prog 41 #[.int .i64 t] w fun e w' => e = .returned (.int .i64 lt) ∧ w = w' := by
  subst h; exact rlanet_any t w
theorem rwrap_at {t n y : Int} (h : wrapI t n = y) (w : World) : Calls Tryd.prog 40 #[.int .i64 t, .int .i64 n] w fun e w' => e = .returned (.int .i64 y) ∧ w = w' := by
  subst h; exact rwrap_any t n w

end Go.Proofs.YtjphechnadoblaaDoor

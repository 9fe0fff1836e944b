/-
  Layer 11 (value): Int, Poison and Pointer, of the program and of the reference.
-/
import Derived.Test.YtojeaghljebbbaaDoorMk
namespace Go.Proofs.YtojeaghljebbbaaDoor
open Go.RowKit

end Go.Proofs.YtojeaghljebbbaaDoor

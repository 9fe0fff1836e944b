/-
  Layer 13 (lexer): what every text of this seat imports.
-/
import Derived.Test.YtjphechnadoblaaDoorRows
import Derived.Test.YtjphechnadoblaaDoorKit
import Derived.Test.YtjphechnadoblaaDoorOpenN
import Derived.Deep.QuietTactic
import Derived.BigQuiet
import Derived.Deep.RegionLaw
import Derived.Deep.RegionHeld3
namespace Go.Proofs.YtjphechnadoblaaDoor
open Go.RowKit
end Go.Proofs.YtjphechnadoblaaDoor

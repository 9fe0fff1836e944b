/-
  Layer 13 (lexer): what every text of this seat imports.
-/
import Derived.Test.YtijibieeajakoaaRows
import Derived.Test.YtijibieeajakoaaKit
import Derived.Test.YtijibieeajakoaaOpenN
import Derived.Deep.QuietTactic
import Derived.BigQuiet
import Derived.Deep.RegionLaw
import Derived.Deep.RegionHeld3
namespace Go.Proofs.Ytijibieeajakoaa
open Go.RowKit
end Go.Proofs.Ytijibieeajakoaa

/-
  Layer 13 (lexer): Scan of the program.
-/
import Derived.Test.YtjphechnadoblaaDoorLexS
namespace Go.Proofs.YtjphechnadoblaaDoor
open Go.RowKit

end Go.Proofs.YtjphechnadoblaaDoor

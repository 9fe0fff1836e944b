/-
  Layer 13 (lexer): integers at a text's front, and what they represent.
-/
import Derived.Test.YtjphechnadoblaaDoorLexB
namespace Go.Proofs.YtjphechnadoblaaDoor
open Go.RowKit

end Go.Proofs.YtjphechnadoblaaDoor

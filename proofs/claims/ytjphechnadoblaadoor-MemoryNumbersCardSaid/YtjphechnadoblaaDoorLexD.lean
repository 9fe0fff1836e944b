/-
  Layer 13 (lexer): ParseInt of the program.
-/
import Derived.Test.YtjphechnadoblaaDoorLexC
namespace Go.Proofs.YtjphechnadoblaaDoor
open Go.RowKit

theorem neg_i64 (n : Nat) (h : n ≤ 9223372036854775808) : IntKind.i64.wrap (IntKind.u64.wrap (-(n : Int))) = -(n : Int) := by
  simp [IntKind.wrap, IntKind.bits, IntKind.signed]
  omega
theorem pos_i64 (n : Int) (h0 : 0 ≤ n) (h : n ≤ 9223372036854775807) : IntKind.i64.wrap n = n := by
  simp [IntKind.wrap, IntKind.bits, IntKind.signed]
  omega

end Go.Proofs.YtjphechnadoblaaDoor

/-
  Layer 20 (cfg): the examples.
-/
import Derived.Test.YthnehmfdadgklaaCfX
import Derived.Test.YthnehmfdadgklaaCfN
namespace Go.Proofs.Ythnehmfdadgklaa
open Go.RowKit Go.Deep

theorem tw_small (q : Nat) : (twD q).small := by
  refine ⟨by show (2 : Nat) ≤ 1000000; omega, fun b hb => ?_⟩
  simp [twD] at hb
  rcases hb with rfl | rfl
  · exact ⟨by show (1 : Nat) ≤ 1000000; omega, by show (2 : Nat) ≤ 1000000; omega⟩
  · exact ⟨by show (0 : Nat) ≤ 1000000; omega, by show (0 : Nat) ≤ 1000000; omega⟩
theorem tw_fits (q : Nat) : ∀ b ∈ (twD q).blocks, b.fits := by
  intro b hb
  simp [twD] at hb
  rcases hb with rfl | rfl
  · show (1 : Nat) + 0 ≤ 17592186044416; omega
  · show (1 : Nat) + 0 ≤ 17592186044416; omega
theorem tw_params (q : Nat) : ∀ b ∈ (twD q).blocks, (twD q).params.length + b.params.length ≤ 17592186044416 := by
  intro b hb
  simp [twD] at hb
  rcases hb with rfl | rfl
  · show (2 : Nat) + 0 ≤ 17592186044416; omega
  · show (2 : Nat) + 0 ≤ 17592186044416; omega
theorem tw_graph (q : Nat) : (twD q).graph = [[1, 1], []] := rfl
theorem tw_reads (q : Nat) : (twD q).reads 0 0 = [0, 0] := by rfl
theorem tw_writes (q : Nat) : (twD q).writes 0 (-1) = [0, 1] := by rfl
theorem tw_uses (q : Nat) : (colL (twD q) (twD q).reads 2 0)[0]? = some [(0, 0)] := by
  rfl
end Go.Proofs.Ythnehmfdadgklaa

/-
  Layer 6 (digraph): which graphs the laws look at: Edges and small.
-/
import Derived.Test.YtmopnceglnoncaaRev
namespace Go.Proofs.Ytmopnceglnoncaa
open Go.RowKit

theorem rd_at {w : World} {A : Option Addr} {c : Nat} {l : List Int} {n : Nat} (h : Rd w .i64 (.slice A n c) l) {k : Nat} {x : Int} (hx : l[k]? = some x) : ∃ b off, A = some ⟨b, off, none⟩ ∧ b < w.heap.size ∧ w.cell? ⟨b, off + k, none⟩ = some (.int .i64 x) := by
  have := h.toV.at k (.int .i64 x) (by rw [List.getElem?_map, hx]; rfl)
  exact this
def edgesTo (g : List (List Int)) (i : Nat) : Nat := ((g.map List.length).take i).sum
theorem edgesTo_succ {g : List (List Int)} {i : Nat} {l : List Int} (h : g[i]? = some l) : edgesTo g (i + 1) = edgesTo g i + l.length := by
  unfold edgesTo
  rw [List.take_add_one, List.sum_append, List.getElem?_map, h]
  simp
theorem edgesTo_end (g : List (List Int)) : edgesTo g g.length = edges g := by
  unfold edgesTo edges
  rw [List.take_of_length_le (by simp)]
theorem edgesTo_big {g : List (List Int)} (hb : ∀ l ∈ g, l.length ≤ 17592186044416) : ∀ i, i ≤ g.length → edgesTo g i ≤ i * 17592186044416
  | 0, _ => by simp [edgesTo]
  | i + 1, hi => by
    have h1 := edgesTo_big hb i (by omega)
    obtain ⟨l, hl⟩ : ∃ l, g[i]? = some l := ⟨_, List.getElem?_eq_getElem (by omega)⟩
    have h2 := hb l (List.mem_of_getElem? hl)
    rw [edgesTo_succ hl]
    omega

end Go.Proofs.Ytmopnceglnoncaa

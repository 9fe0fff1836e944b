/-
  Layer 20 (cfg): Reads.
-/
import Derived.Test.YthnehmfdadgklaaCfQi
import Derived.Test.YthnehmfdadgklaaCfQt
namespace Go.Proofs.Ythnehmfdadgklaa
open Go.RowKit Go.Deep

theorem reads_any (d : FnD) (bi ix : Int) (w : World) (hd : d.ok w) (hf : ∀ b ∈ d.blocks, b.fits) :
    Calls Try.prog 20 #[.agg d.cells.toArray, .agg #[.int .i64 bi, .int .i64 ix]] w fun e w' => ∃ v, e = .returned v ∧ Rd w' .i64 v (d.reads bi ix) ∧ Fresh v w.heap.size ∧ Below w.heap.size w w' := by
  cases hhas : d.has bi ix with
  | false =>
    have e0 : d.reads bi ix = [] := by unfold FnD.reads; rw [if_neg (by rw [hhas]; simp)]
    rw [e0]
    exact (reads_no d bi ix w hd hhas).mono fun e w' ⟨h1, h2⟩ => ⟨_, h1, Rd.nil, fresh_nil _, h2⟩
  | true =>
    by_cases h0 : 0 ≤ ix
    · obtain ⟨i, b, rfl, hb, _, h2⟩ := FnD.has_at hhas
      rw [FnD.reads_at hhas h0 rfl hb]
      obtain ⟨k, rfl⟩ : ∃ k : Nat, ix = k := ⟨ix.toNat, by omega⟩
      unfold BkD.reads
      rw [Int.toNat_natCast]
      cases hx : b.ins[k]? with
      | some x => exact reads_ins d i k b x w hd hhas hb hx
      | none =>
        have hk : k = b.ins.length := by have := List.getElem?_eq_none_iff.1 hx; omega
        subst hk
        exact reads_term d i b w hd hhas hb (hf b (List.mem_of_getElem? hb))
    · have e0 : d.reads bi ix = [] := by unfold FnD.reads; rw [if_neg (fun h => h0 h.2)]
      rw [e0]
      exact (reads_neg d bi ix w hd hhas (by omega)).mono fun e w' ⟨h1, h2⟩ => ⟨_, h1, Rd.nil, fresh_nil _, h2⟩
end Go.Proofs.Ythnehmfdadgklaa

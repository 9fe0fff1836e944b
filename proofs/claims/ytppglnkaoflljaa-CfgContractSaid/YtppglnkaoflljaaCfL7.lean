/-
  Layer 20 (cfg): the law CfgContract.
-/
import Derived.Test.YtppglnkaoflljaaCfL6
namespace Go.Proofs.Ytppglnkaoflljaa
open Go.RowKit Go.Deep

theorem contract_law (d : FnD) (i j : Int) (w : World) (hd : d.ok w) :
    Calls Try.prog 6 #[.agg d.cells.toArray, .int .i64 i, .int .i64 j] w fun e w' => LawDone w e w' := by
  cases hg : largeB d with
  | true => exact contract_large d i j w hd hg
  | false =>
    by_cases hi : 0 ≤ i ∧ i < (d.blocks.length : Int)
    · obtain ⟨n, rfl⟩ : ∃ n : Nat, i = n := ⟨i.toNat, by omega⟩
      obtain ⟨b, hb⟩ : ∃ b, d.blocks[n]? = some b := ⟨_, List.getElem?_eq_getElem (by omega)⟩
      by_cases hj : 0 ≤ j ∧ j < (b.term.succs.length : Int)
      · obtain ⟨m, rfl⟩ : ∃ m : Nat, j = m := ⟨j.toNat, by omega⟩
        obtain ⟨e, he⟩ : ∃ e, b.term.succs[m]? = some e := ⟨_, List.getElem?_eq_getElem (by omega)⟩
        exact contract_yes d n m b e w hd hg hb he
      · exact contract_no d n j w hd hg (fun W hW => split_noB d n j b W (hd.below hW) hb hj) (fun W hW => rsplit_noB d n j b W (hd.below hW) hb hj)
    · exact contract_no d i j w hd hg (fun W hW => split_noA d i j W (hd.below hW) hi) (fun W hW => rsplit_noA d i j W (hd.below hW) hi)
end Go.Proofs.Ytppglnkaoflljaa

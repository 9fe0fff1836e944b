/-
  BitsetOps: for every input the law returns true and each argument reads as before. Conditions: the table of bit positions reads as the library lays it (the card ties it); nothing else.
-/
import Derived.Test.YtbnikoomgeaboaaDoorLawOps2
import Derived.Test.YtbnikoomgeaboaaDoorLaid
import Derived.Test.YtbnikoomgeaboaaDoorKit
import Derived.Test.YtbnikoomgeaboaaDoorOpen
namespace Go.Proofs.YtbnikoomgeaboaaDoor.bitsetOps
open Go.ChangeShapes Go.WideShapes Go.ChangeAt Go.RowKit

theorem params_ok : ∀ t ∈ (#[3, 22] : Array TypeId).toList, Tryd.prog.readableRec t = true ∧ t < Tryd.prog.types.size := by
  intro t ht
  have hall : ((#[3, 22] : Array TypeId).toList.all fun u => Tryd.prog.readableRec u && decide (u < Tryd.prog.types.size)) = true := by kernel_rfl
  have := List.all_eq_true.1 hall t ht
  simpa using this

theorem contract (H : Type) (enc : TypeId × Value → H) (W : World) (base : Nat) (args : Array Value) (ds gs : List (DataW H)) (before : List MemPlace)
    (hval : ∀ (j : Nat) t v, Tryd.f3.params[j]? = some t → args[j]? = some v → Value.okWide Tryd.prog W .any base t v)
    (hW : DataW.Whole enc Tryd.prog Tryd.f3.params.toList Rows.bitsetOpsSpec.vars false W args.toList ds gs before) (hL : laidMetH Tryd.prog Rows.bitsetOpsRow.laid W) :
    Calls Tryd.prog 3 args W fun e W' => ∃ v, e = .returned v ∧ Rows.bitsetOpsSpec.post enc Tryd.prog Tryd.f3 false true false false W args v W' := by
  have hW' := hW
  have hT : Tab W := tab_of_laid hL
  obtain ⟨p, q, hA0, _, rfl, _, _⟩ := hW
  have hA : DataW.TrodAll enc Tryd.prog W 0 (fun _ => true) true Tryd.f3.params.toList args.toList ds p := hA0
  rw [Tryd.params3] at hA hval
  obtain ⟨v0, vs0, d0, ds0, p0, q0, hargs, rfl, rfl, h0, r0⟩ := trodAll_cons hA
  obtain ⟨v1, vs1, d1, ds1, p1, q1, rfl, rfl, rfl, h1, r1⟩ := trodAll_cons r0
  obtain ⟨rfl, rfl, rfl⟩ := trodAll_nil r1
  obtain rfl : args = #[v0, v1] := by cases args; simp_all
  clear hA0
  obtain ⟨x0, rfl, rfl, rfl, wx0⟩ := open_int Tryd.underlying3 (hval 0 3 v0 rfl rfl) h0
  have hv1 : v1.cells.toList = [v1] := by
    obtain ⟨a, len, cap, rfl⟩ := okWide_slice Tryd.underlying22 (hval 1 22 v1 rfl rfl)
    rfl
  obtain ⟨y1, rows1, e1, hx1, hr1⟩ := open_cell (opens_slice (m := 4) Tryd.underlying22 (by kernel_rfl) (by omega)
    (opens_struct4 Tryd.underlying30 (by kernel_rfl) ⟨rfl, rfl, rfl, rfl⟩ (by kernel_rfl) (by kernel_rfl) (by kernel_rfl) (by kernel_rfl) (opens_int Tryd.underlying3) (opens_int Tryd.underlying3) (opens_int Tryd.underlying3) (opens_ints Tryd.underlying28 Tryd.underlying3 (by kernel_rfl)))) hv1 h1
  obtain rfl : v1 = y1 := by simpa using e1
  obtain ⟨ss1, rfl, hs1⟩ := map_of_each (f := OpS.row) (p := fun s => Rd W .i64 s.v s.l) rows1 (fun r hr => by
    obtain ⟨a, b, c, d, rfl, ⟨z0, e0, _⟩, ⟨z1, e1, _⟩, ⟨z2, e2, _⟩, ⟨z3, l3, e3, k3, _⟩⟩ := hr1 r hr
    obtain rfl : a = .int .i64 z0 := by simpa using e0
    obtain rfl : b = .int .i64 z1 := by simpa using e1
    obtain rfl : c = .int .i64 z2 := by simpa using e2
    obtain rfl : d = z3 := by simpa using e3
    exact ⟨⟨z0, z1, z2, d, l3⟩, rfl, k3⟩)
  have walk : Calls Tryd.prog 3 #[.int .i64 x0, v1] W (LawDone W) := by
    by_cases hs : x0 ≤ 2000 ∧ ss1.length ≤ 100
    · exact ops_any x0 hs.1 v1 ss1 W hT hx1 hs1 hs.2
    · exact ops_big x0 v1 ss1 W hT hx1 hs
  refine walk.mono fun e W' ⟨he, hb⟩ => ?_
  subst he
  exact ⟨_, rfl, law_post (T := 4) (by kernel_rfl) (by rw [Tryd.params3]; exact params_ok) (by kernel_rfl) Tryd.underlying4 rfl
    (fun ds hd => by rw [Tryd.params3] at hd; match ds, hd with | [a0, a1], _ => exact ⟨rfl, rfl, rfl⟩) hW' hb⟩

theorem laid_met (os : Os) : laidMet Tryd.prog Rows.bitsetOpsRow.laid ((laidWorld os).forCall (fun _ _ => 0) ⟨#[], #[.int .i64 0, .slice none 0 0], []⟩).memory :=
  laidMet_of_run' 8 (by kernel_rfl) (by kernel_rfl)
theorem reads (os : Os) {H : Type} (enc : TypeId × Value → H) : ∃ places, DataW.whole enc Tryd.prog ((laidWorld os).forCall (fun _ _ => 0) ⟨#[], #[.int .i64 0, .slice none 0 0], []⟩).memory Tryd.f3.params.toList Rows.bitsetOpsSpec.vars false (#[.int .i64 0, .slice none 0 0] : Array Value).toList 8 = some ([.lit (.int .i64 0), .nil], [], places) :=
  ⟨[], by kernel_rfl⟩

set_option maxRecDepth 100000 in
theorem lifted (os : Os) (started : os.Started) (H : Type) (enc : TypeId × Value → H) (F : Stop.Interp) :
    ReturnsInHanded {} Tryd.checked os 3 .any ((OpenSpec.ofChange Rows.bitsetOpsSpec).preRow enc Tryd.prog Tryd.f3 Rows.bitsetOpsRow.domain false Rows.bitsetOpsRow.laid) (((OpenSpec.ofChange Rows.bitsetOpsSpec).at F).post enc Tryd.prog Tryd.f3 false true false false) := by
  obtain ⟨places, hx⟩ := reads os enc
  refine returnsInHanded_of_row (C := Tryd.checked) (s := (OpenSpec.ofChange Rows.bitsetOpsSpec)) own started (by kernel_rfl) Tryd.func3
    (witness_row_at (enc := enc) (C := Tryd.checked) false (laidWorld os) #[.int .i64 0, .slice none 0 0] rfl (by kernel_rfl) (by kernel_rfl) (by kernel_rfl)
      (OpenSpec.preRow_of_cond 8 hx (by kernel_rfl) (fun k hk => by cases hk) (by kernel_rfl) (laid_met os))) ?_
  intro W base args ds gs before hval hW _ _ _ hL _ _
  exact contract H enc W base args ds gs before hval hW hL

theorem said : Rows.BitsetOpsSaid :=
  OpenClaim.holds_of_cond 3 Tryd.f3 rfl rfl rfl rfl rfl rfl rfl ⟨rfl, rfl, rfl, rfl, rfl⟩ rfl rfl rfl rfl rfl (by kernel_rfl) Tryd.func3 (by kernel_rfl)
    (of_decide_eq_true (by kernel_rfl)) (by unfold Func.isWrapper; first | (rw [if_pos (by decide +kernel)]; kernel_rfl) | (rw [if_neg (by decide +kernel)]; exact ⟨rfl, rfl⟩))
    (fun os started H enc _ F => by rw [OpenClaim.pre_eq_preRow]; exact lifted os started H enc F)

theorem params_plain (t : TypeId) (ht : t ∈ ([3, 22] : List TypeId)) : Tryd.prog.wantsStandIn t = false := by
  have hall : (([3, 22] : List TypeId).all fun u => !Tryd.prog.wantsStandIn u) = true := by kernel_rfl
  simpa using List.all_eq_true.1 hall t ht
theorem plain (f : FuncId) (fn : Func) (hf : Tryd.pinned.checked.prog.funcNamed "burnish/burnishlaw03.BitsetOps" = some f) (hfn : Tryd.pinned.checked.prog.funcs[f]? = some fn) :
    false = Tryd.pinned.checked.prog.looks [] ∧ ∀ (j : Nat) t, fn.params[j]? = some t → Tryd.pinned.checked.prog.wantsStandIn t = false := by
  obtain rfl : f = 3 := Option.some.inj ((show Tryd.prog.funcNamed "burnish/burnishlaw03.BitsetOps" = some 3 by kernel_rfl).symm.trans hf) |>.symm
  obtain rfl : fn = Tryd.f3 := (Option.some.inj (Tryd.func3.symm.trans hfn)).symm
  refine ⟨by kernel_rfl, fun j t ht => ?_⟩
  rw [Tryd.params3] at ht
  exact params_plain t (List.mem_of_getElem? (by simpa using ht) |> fun h => by simpa using h)

/-- THE CARD. -/
theorem card : Rows.BitsetOpsCardSaid :=
  Claim7.holds_tied_plain_at .later [] _ _ _ _ said (fun _ h => by cases h) (by kernel_rfl) (fun _ h => by cases h) bitsetOps_row_tie rfl ⟨rfl, rfl⟩ (by kernel_rfl) rfl plain (by kernel_rfl)
end Go.Proofs.YtbnikoomgeaboaaDoor.bitsetOps

/-
  LexerJoins: for every input the law returns true and each argument reads as before. No condition.
-/
import Derived.Test.YtijibieeajakoaaLawJoins
import Derived.Test.YtijibieeajakoaaKit
import Derived.Test.YtijibieeajakoaaOpen
namespace Go.Proofs.Ytijibieeajakoaa.lexerJoins
open Go.ChangeShapes Go.WideShapes Go.ChangeAt Go.RowKit

theorem params_ok : ∀ t ∈ (#[23] : Array TypeId).toList, Try.prog.readableRec t = true ∧ t < Try.prog.types.size := by
  intro t ht
  have hall : ((#[23] : Array TypeId).toList.all fun u => Try.prog.readableRec u && decide (u < Try.prog.types.size)) = true := by kernel_rfl
  have := List.all_eq_true.1 hall t ht
  simpa using this

theorem contract (H : Type) (enc : TypeId × Value → H) (W : World) (base : Nat) (args : Array Value) (ds gs : List (DataW H)) (before : List MemPlace)
    (hval : ∀ (j : Nat) t v, Try.f5.params[j]? = some t → args[j]? = some v → Value.okWide Try.prog W .any base t v)
    (hW : DataW.Whole enc Try.prog Try.f5.params.toList Rows.lexerJoinsSpec.vars false W args.toList ds gs before) :
    Calls Try.prog 5 args W fun e W' => ∃ v, e = .returned v ∧ Rows.lexerJoinsSpec.post enc Try.prog Try.f5 false true false false W args v W' := by
  have hW' := hW
  obtain ⟨p, q, hA0, _, rfl, _, _⟩ := hW
  have hA : DataW.TrodAll enc Try.prog W 0 (fun _ => true) true Try.f5.params.toList args.toList ds p := hA0
  rw [Try.params5] at hA hval
  obtain ⟨v0, vs0, d0, ds0, p0, q0, hargs, rfl, rfl, h0, r0⟩ := trodAll_cons hA
  obtain ⟨rfl, rfl, rfl⟩ := trodAll_nil r0
  obtain rfl : args = #[v0] := by cases args; simp_all
  clear hA0
  have hv0 : v0.cells.toList = [v0] := by
    obtain ⟨a, len, cap, rfl⟩ := okWide_slice Try.underlying23 (hval 0 23 v0 rfl rfl)
    rfl
  obtain ⟨y0, rows0, e0, hx0, hr0⟩ := open_cell (opens_slice (m := 4) Try.underlying23 (by kernel_rfl) (by omega)
    (opens_struct4 Try.underlying34 (by kernel_rfl) ⟨rfl, rfl, rfl, rfl⟩ (by kernel_rfl) (by kernel_rfl) (by kernel_rfl) (by kernel_rfl) (opens_int Try.underlying3) (opens_int Try.underlying3) (opens_int Try.underlying2)
      (opens_string Try.underlying9))) hv0 h0
  obtain rfl : v0 = y0 := by simpa using e0
  obtain ⟨xs0, rfl, hs0⟩ := map_of_each (f := TokO.cells) (p := fun x => -9223372036854775808 ≤ x.t.n ∧ x.t.n ≤ 9223372036854775807) rows0 (fun r hr => by
    obtain ⟨a, b, c, d, rfl, ⟨z0, e0, _⟩, ⟨z1, e1, _⟩, ⟨z2, e2, w2⟩, ⟨s, e3, _⟩⟩ := hr0 r hr
    obtain rfl : a = .int .i64 z0 := by simpa using e0
    obtain rfl : b = .int .i64 z1 := by simpa using e1
    obtain rfl : c = .int .i64 z2 := by simpa using e2
    obtain rfl : d = .string s := by simpa using e3
    refine ⟨⟨⟨z0, 0, z2, s.data.toList⟩, z1⟩, ?_, ?_⟩
    · show _ = [_, _, _, Value.string (Bs s.data.toList)]
      rw [← Bs_of s]
    · simpa [Lit.wf, IntKind.min, IntKind.max, IntKind.signed, IntKind.bits] using w2)
  have walk : Calls Try.prog 5 #[v0] W (LawDone W) := by
    exact law_joins xs0 hs0 v0 W (rdO_of hx0)
  refine walk.mono fun e W' ⟨he, hb⟩ => ?_
  subst he
  exact ⟨_, rfl, law_post (T := 4) (by kernel_rfl) (by rw [Try.params5]; exact params_ok) (by kernel_rfl) Try.underlying4 rfl
    (fun ds hd => by rw [Try.params5] at hd; match ds, hd with | [a0], _ => exact ⟨rfl, rfl, rfl⟩) hW' hb⟩

theorem own : ownKnob Try.prog.godebug = none := by kernel_rfl
set_option maxRecDepth 100000 in
theorem lifted (os : Os) (started : os.Started) (H : Type) (enc : TypeId × Value → H) :
    ReturnsInHanded {} Try.checked os 5 .any (Rows.lexerJoinsSpec.pre6 enc Try.prog Try.f5 Rows.lexerJoinsRow.domain false) (Rows.lexerJoinsSpec.post enc Try.prog Try.f5 false true false false) := by
  refine returnsInHanded_of_change (C := Try.checked) own started (by kernel_rfl) Try.func5
    (ChangeSpec.witness6 (enc := enc) (C := Try.checked) false ⟨#[], #[.slice none 0 0], []⟩ 8 (by kernel_rfl) (by kernel_rfl) (by kernel_rfl) (by kernel_rfl)) ?_
  intro W base args ds gs before hval hW _ _
  exact contract H enc W base args ds gs before hval hW

theorem said : Rows.LexerJoinsSaid :=
  OpenClaim.holds_of_wide 5 Try.f5 rfl rfl rfl rfl rfl rfl rfl ⟨rfl, rfl, rfl, rfl, rfl⟩ rfl rfl rfl rfl rfl (by kernel_rfl) Try.func5 (by kernel_rfl)
    (of_decide_eq_true (by kernel_rfl)) (by unfold Func.isWrapper; first | (rw [if_pos (by decide +kernel)]; kernel_rfl) | (rw [if_neg (by decide +kernel)]; exact ⟨rfl, rfl⟩))
    (fun os started H enc _ => lifted os started H enc)
end Go.Proofs.Ytijibieeajakoaa.lexerJoins

/-
  InternKeeps: for every input the law returns true and each argument reads as before. No condition.
-/
import Derived.Test.YtcenbpjkndhlgaaLawKeeps
import Derived.Test.YtcenbpjkndhlgaaKit
import Derived.Test.YtcenbpjkndhlgaaOpen
namespace Go.Proofs.Ytcenbpjkndhlgaa.internKeeps
open Go.ChangeShapes Go.WideShapes Go.ChangeAt Go.RowKit

theorem params_ok : ∀ t ∈ (#[40] : Array TypeId).toList, Try.prog.readableRec t = true ∧ t < Try.prog.types.size := by
  intro t ht
  have hall : ((#[40] : Array TypeId).toList.all fun u => Try.prog.readableRec u && decide (u < Try.prog.types.size)) = true := by kernel_rfl
  have := List.all_eq_true.1 hall t ht
  simpa using this

theorem contract (H : Type) (enc : TypeId × Value → H) (W : World) (base : Nat) (args : Array Value) (ds gs : List (DataW H)) (before : List MemPlace)
    (hval : ∀ (j : Nat) t v, Try.f4.params[j]? = some t → args[j]? = some v → Value.okWide Try.prog W .any base t v)
    (hW : DataW.Whole enc Try.prog Try.f4.params.toList Rows.internKeepsSpec.vars false W args.toList ds gs before) :
    Calls Try.prog 4 args W fun e W' => ∃ v, e = .returned v ∧ Rows.internKeepsSpec.post enc Try.prog Try.f4 false true false false W args v W' := by
  have hW' := hW
  obtain ⟨p, q, hA0, _, rfl, _, _⟩ := hW
  have hA : DataW.TrodAll enc Try.prog W 0 (fun _ => true) true Try.f4.params.toList args.toList ds p := hA0
  rw [Try.params4] at hA hval
  obtain ⟨v0, vs0, d0, ds0, p0, q0, hargs, rfl, rfl, h0, r0⟩ := trodAll_cons hA
  obtain ⟨rfl, rfl, rfl⟩ := trodAll_nil r0
  obtain rfl : args = #[v0] := by cases args; simp_all
  clear hA0
  have hv0 : v0.cells.toList = [v0] := by
    obtain ⟨a, len, cap, rfl⟩ := okWide_slice Try.underlying40 (hval 0 40 v0 rfl rfl)
    rfl
  obtain ⟨y0, rows0, e0, hx0, hr0⟩ := open_cell (opens_slice (m := 1) Try.underlying40 (by kernel_rfl) (by omega) (opens_ints Try.underlying29 Try.underlying5 (by kernel_rfl))) hv0 h0
  obtain rfl : v0 = y0 := by simpa using e0
  obtain ⟨ps0, rfl, hp0⟩ := map_of_each (f := fun p : Value × List Int => [p.1]) (p := fun p => Rd W .u8 p.1 p.2 ∧ Byt p.2) rows0 (fun r hr => by
    obtain ⟨v, l, e, h1, h2⟩ := hr0 r hr
    exact ⟨(v, l), e, h1, fun z hz => byte_u8 (h2 z hz)⟩)
  have rv0 : RdV W v0 (ps0.map (·.1)) := RdN.one (by rw [List.map_map]; exact hx0)
  have walk : Calls Try.prog 4 #[v0] W (LawDone W) := by
    by_cases hs : ps0.length ≤ 40
    · exact keeps_small v0 ps0 W rv0 hp0 hs
    · exact keeps_big v0 _ W rv0 (by rw [List.length_map]; omega)
  refine walk.mono fun e W' ⟨he, hb⟩ => ?_
  subst he
  exact ⟨_, rfl, law_post (T := 4) (by kernel_rfl) (by rw [Try.params4]; exact params_ok) (by kernel_rfl) Try.underlying4 rfl
    (fun ds hd => by rw [Try.params4] at hd; match ds, hd with | [a0], _ => exact ⟨rfl, rfl, rfl⟩) hW' hb⟩

theorem own : ownKnob Try.prog.godebug = none := by kernel_rfl
set_option maxRecDepth 100000 in
theorem lifted (os : Os) (started : os.Started) (H : Type) (enc : TypeId × Value → H) :
    ReturnsInHanded {} Try.checked os 4 .any (Rows.internKeepsSpec.pre6 enc Try.prog Try.f4 Rows.internKeepsRow.domain false) (Rows.internKeepsSpec.post enc Try.prog Try.f4 false true false false) := by
  refine returnsInHanded_of_change (C := Try.checked) own started (by kernel_rfl) Try.func4
    (ChangeSpec.witness6 (enc := enc) (C := Try.checked) false ⟨#[], #[.slice none 0 0], []⟩ 8 (by kernel_rfl) (by kernel_rfl) (by kernel_rfl) (by kernel_rfl)) ?_
  intro W base args ds gs before hval hW _ _
  exact contract H enc W base args ds gs before hval hW

theorem said : Rows.InternKeepsSaid :=
  OpenClaim.holds_of_wide 4 Try.f4 rfl rfl rfl rfl rfl rfl rfl ⟨rfl, rfl, rfl, rfl, rfl⟩ rfl rfl rfl rfl rfl (by kernel_rfl) Try.func4 (by kernel_rfl)
    (of_decide_eq_true (by kernel_rfl)) (by unfold Func.isWrapper; first | (rw [if_pos (by decide +kernel)]; kernel_rfl) | (rw [if_neg (by decide +kernel)]; exact ⟨rfl, rfl⟩))
    (fun os started H enc _ => lifted os started H enc)
end Go.Proofs.Ytcenbpjkndhlgaa.internKeeps

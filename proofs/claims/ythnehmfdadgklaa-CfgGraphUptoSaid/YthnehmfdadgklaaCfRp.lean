/-
  Layer 20 (cfg): a position as an argument; from the bound on the bulk to what a terminator hands on.
-/
import Derived.Test.YthnehmfdadgklaaCfRL
import Derived.Test.YthnehmfdadgklaaCfRb
namespace Go.Proofs.Ythnehmfdadgklaa
open Go.RowKit Go.ChangeShapes Go.WideShapes

theorem flat_few : ∀ (l : List EdD), (∀ e ∈ l, e.few) → (l.flatMap EdD.args).length ≤ l.length * 1048576
  | [], _ => by simp
  | e :: r, h => by
    have h1 : e.args.length ≤ 1048576 := h e (List.mem_cons_self)
    have h2 := flat_few r (fun x hx => h x (List.mem_cons_of_mem _ hx))
    rw [List.flatMap_cons, List.length_append, List.length_cons, Nat.add_mul]
    omega
theorem few_fits {d : FnD} (hg : largeB d = false) (hf : d.few) : ∀ b ∈ d.blocks, b.fits := by
  intro b hb
  have h1 := ((not_large hg).2.2.2 b hb).2.2
  have h2 : b.term.args.length ≤ 1048576 ∧ ∀ e ∈ b.term.succs, e.few := hf b hb
  have h3 := flat_few b.term.succs h2.2
  have h4 : b.term.succs.length * 1048576 ≤ 50 * 1048576 := Nat.mul_le_mul_right _ h1
  have h5 := h2.1
  unfold BkD.fits
  omega
set_option maxRecDepth 100000 in
theorem open_Po {H : Type} {enc : TypeId × Value → H} {W : World} {r : Reach} {b0 : Nat} {v : Value} {x : DataW H} {ps : List MemPlace} (hval : Value.okWide Try.prog W r b0 37 v) (hd : DataW.Trod enc Try.prog W 0 (fun _ => true) true 37 v x ps) :
    ∃ a b : Int, v = .agg #[.int .i64 a, .int .i64 b] := by
  obtain ⟨cs, rfl, _⟩ := okWide_struct Try.underlying37 hval
  obtain ⟨fuel, hfu⟩ := hd
  have hf' : DataW.trod enc Try.prog W 0 (fun _ => true) true fuel 37 cs.toList = some (x, ps) := hfu
  obtain ⟨xs, n, _, _, hl, hlen, hf⟩ := DataW.trod_struct Try.underlying37 hf'
  rw [show Try.prog.cellsOf 37 = 2 by kernel_rfl] at hl
  match xs, hlen with
  | [y0, y1], _ =>
    have e0 := trod_field 0 (show Try.prog.cellsOf 3 = 1 by kernel_rfl) (hf 0 _ rfl)
    have e1 := trod_field 1 (show Try.prog.cellsOf 3 = 1 by kernel_rfl) (hf 1 _ rfl)
    obtain ⟨l, hl2⟩ : ∃ l, cs.toList = l := ⟨_, rfl⟩
    rw [hl2] at e0 e1 hl
    match l, hl with
    | [c0, c1], _ =>
      obtain ⟨z0, h0, _, _⟩ := DataW.trod_int Try.underlying3 e0
      obtain ⟨z1, h1, _, _⟩ := DataW.trod_int Try.underlying3 e1
      simp only [List.drop, List.take, List.cons.injEq, and_true] at h0 h1
      subst h0 h1
      exact ⟨z0, z1, by rw [← hl2]⟩
end Go.Proofs.Ythnehmfdadgklaa

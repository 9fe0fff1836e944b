/-
  Layer 13 (lexer): the chapter's examples.
-/
import Derived.Test.YtijibieeajakoaaLexAw
namespace Go.Proofs.Ytijibieeajakoaa
open Go.RowKit

def ex1 : List UInt8 := [114, 49, 32, 61, 32, 97, 100, 100, 32, 114, 48, 32, 45, 53]
def ex2 : List UInt8 := [97, 32, 48, 49, 50]
def ex3 : List UInt8 := [97, 32, 59]
def ex4 : List UInt8 := [49, 50, 97]
def exT : List Tok := [⟨1, 0, 0, [114, 49]⟩, ⟨3, 3, 0, [61]⟩, ⟨1, 5, 0, [97, 100, 100]⟩, ⟨1, 9, 0, [114, 48]⟩, ⟨2, 12, -5, []⟩]
theorem sc1 : Scan ex1 = (exT, 0, 0) := by kernel_rfl
theorem sc2 : Scan ex2 = ([], 2, 3) := by kernel_rfl
theorem sc3 : Scan ex3 = ([], 2, 12) := by kernel_rfl
theorem sc4 : Scan ex4 = ([], 0, 3) := by kernel_rfl

set_option maxRecDepth 100000 in
set_option maxHeartbeats 400000 in
theorem awake_any (w : World) : Calls Try.prog 7 #[] w fun e w' => e = .returned (.bool true) ∧ Below w.heap.size w w' := by
  have S1 : ∀ W, Calls Try.prog 8 #[.string { data := #[114, 49, 32, 61, 32, 97, 100, 100, 32, 114, 48, 32, 45, 53] }] W fun e W' => ∃ v, e = .returned (.tuple #[v, .int .i64 0, .int .i64 0]) ∧ RdT W' v exT ∧ Below W.heap.size W W' := fun W => by
    have := scan_any ex1 (by decide) W
    have e : Bs ex1 = { data := #[114, 49, 32, 61, 32, 97, 100, 100, 32, 114, 48, 32, 45, 53] } := rfl
    rw [sc1, e] at this
    exact this.mono fun e w' ⟨v, h1, h2, h3⟩ => ⟨v, h1, h2.rd, h3⟩
  have S2 : ∀ W, Calls Try.prog 8 #[.string { data := #[97, 32, 48, 49, 50] }] W fun e W' => ∃ v, e = .returned (.tuple #[v, .int .i64 2, .int .i64 3]) ∧ Below W.heap.size W W' := fun W => by
    have := scan_any ex2 (by decide) W
    have e : Bs ex2 = { data := #[97, 32, 48, 49, 50] } := rfl
    rw [sc2, e] at this
    exact this.mono fun e w' ⟨v, h1, h2, h3⟩ => ⟨v, h1, h3⟩
  have S3 : ∀ W, Calls Try.prog 8 #[.string { data := #[97, 32, 59] }] W fun e W' => ∃ v, e = .returned (.tuple #[v, .int .i64 2, .int .i64 12]) ∧ Below W.heap.size W W' := fun W => by
    have := scan_any ex3 (by decide) W
    have e : Bs ex3 = { data := #[97, 32, 59] } := rfl
    rw [sc3, e] at this
    exact this.mono fun e w' ⟨v, h1, h2, h3⟩ => ⟨v, h1, h3⟩
  have S4 : ∀ W, Calls Try.prog 8 #[.string { data := #[49, 50, 97] }] W fun e W' => ∃ v, e = .returned (.tuple #[v, .int .i64 0, .int .i64 3]) ∧ Below W.heap.size W W' := fun W => by
    have := scan_any ex4 (by decide) W
    have e : Bs ex4 = { data := #[49, 50, 97] } := rfl
    rw [sc4, e] at this
    exact this.mono fun e w' ⟨v, h1, h2, h3⟩ => ⟨v, h1, h3⟩
  have I1 : ∀ W, Calls Try.prog 13 #[.string { data := #[97, 95, 49] }] W fun e W' => e = .returned (.bool true) ∧ Below W.heap.size W W' := fun W => by
    have := isIdent_any [97, 95, 49] (by decide) W
    have e : Bs [97, 95, 49] = { data := #[97, 95, 49] } := rfl
    have e2 : (!([97, 95, 49] : List UInt8).isEmpty && decide (([97, 95, 49] : List UInt8).length ≤ 24) && decide (identLen [97, 95, 49] = ([97, 95, 49] : List UInt8).length)) = true := by kernel_rfl
    rw [e, e2] at this
    exact this
  have I2 : ∀ W, Calls Try.prog 13 #[.string { data := #[49, 97] }] W fun e W' => e = .returned (.bool false) ∧ Below W.heap.size W W' := fun W => by
    have := isIdent_any [49, 97] (by decide) W
    have e : Bs [49, 97] = { data := #[49, 97] } := rfl
    have e2 : (!([49, 97] : List UInt8).isEmpty && decide (([49, 97] : List UInt8).length ≤ 24) && decide (identLen [49, 97] = ([49, 97] : List UInt8).length)) = false := by kernel_rfl
    rw [e, e2] at this
    exact this
  have h61 : ByteArray.toList { data := #[61] } = [61] := Bs_toList [61]
  have hnil : ByteArray.toList { data := #[] } = [] := Bs_toList []
  go_enter Try.func7, Try.ntmps7
  go_wp2_with fail
  refine (S1 _).mono ?_
  rintro en w1 ⟨v, rfl, hr, hb1⟩
  go_wp2_with fail
  refine (S2 _).mono ?_
  rintro en w2 ⟨v2, rfl, hb2⟩
  go_wp2_with fail
  refine (S3 _).mono ?_
  rintro en w3 ⟨v3, rfl, hb3⟩
  go_wp2_with fail
  refine (S4 _).mono ?_
  rintro en w4 ⟨v4, rfl, hb4⟩
  have HB : Hid (Below w.heap.size w w4) := hide (Below.all (Below.all (Below.all hb1 hb2) hb3) hb4)
  have hr4 := ((hr.below hb2).below hb3).below hb4
  obtain ⟨A, c, rfl, hc⟩ := hr4
  obtain ⟨b, off, rfl, hlt, hc⟩ := hc (by decide)
  obtain ⟨a0, a1, a2, a3⟩ := hc 1 _ rfl
  obtain ⟨b0, b1, b2, b3⟩ := hc 4 _ rfl
  have e3 : ByteArray.toList (Bs [61]) = [61] := Bs_toList _
  have e0 : ByteArray.toList (Bs []) = [] := Bs_toList _
  clear hc hr hb1 hb2 hb3 hb4 S1 S2 S3 S4 hlt
  go_wp2_with fail
  refine (I1 _).mono ?_
  rintro en w5 ⟨rfl, hb5⟩
  go_wp2_with fail
  refine (I2 _).mono ?_
  rintro en w6 ⟨rfl, hb6⟩
  go_wp2_with fail
  go_ret
  exact ⟨rfl, Below.all (Below.all HB.out hb5) hb6⟩
end Go.Proofs.Ytijibieeajakoaa

/-
  Layer 12 (opcode): the examples.
-/
import Derived.Test.YtjeinmccahbpgaaDoorOpK
namespace Go.Proofs.YtjeinmccahbpgaaDoor
open Go.RowKit

theorem look_s (l : List UInt8) (w : World) (hT : OpTab w) : Calls Tryd.prog 32 #[.string ⟨l.toArray⟩] w fun e w' => e = .returned (.tuple #[.int .i64 (numO (lookM l)), .bool (lookM l).isSome]) ∧ w = w' := by
  have := look_any ⟨l.toArray⟩ w hT
  rw [Go.ByteArray.toList_eq] at this
  exact this
theorem tlook_s (l : List UInt8) (w : World) (hT : OpTab w) : Calls Tryd.prog 34 #[.string ⟨l.toArray⟩] w fun e w' => e = .returned (.tuple #[.int .i64 (numO (tlookM l)), .bool (tlookM l).isSome]) ∧ w = w' := by
  have := tlook_any ⟨l.toArray⟩ w hT
  rw [Go.ByteArray.toList_eq] at this
  exact this
theorem rd_far {w : World} {b n c : Nat} {l : List Int} (h : Rd w .i64 (.slice (some ⟨b, 0, none⟩) n c) l) {p : Addr} (hp : b ≠ p.block) (u : Value) : Rd (w.setCell p u) .i64 (.slice (some ⟨b, 0, none⟩) n c) l := by
  obtain ⟨A, c', e, h1, h2, h3⟩ := h
  refine ⟨A, c', e, h1, h2, fun hn => ?_⟩
  obtain ⟨b', off, e', hlt, hc⟩ := h3 hn
  simp only [Value.slice.injEq] at e
  refine ⟨b', off, e', by simpa using hlt, fun j z hz => ?_⟩
  have e3 : b' = b := by
    have := e.1.trans e'
    injection this with this
    simp only [Addr.mk.injEq] at this
    exact this.1.symm
  exact (World.cell?_of_block (a := ⟨b', off + j, none⟩) (Below.heap_setCell w p u b' (by rw [e3]; exact hp))).trans (hc j z hz)
structure Awk (w wn : World) (I : Array Value) : Prop where
  g : Rd wn .i64 (.slice (some ⟨w.heap.size, 0, none⟩) 3 3) [3, 3, 3]
  f : Whole wn (w.heap.size + 1) 60 #[.string ⟨#[]⟩, .slice none 0 0, .int .i64 0, .slice (some ⟨w.heap.size, 0, none⟩) 3 3, .slice none 0 0]
  a : Rd wn .i64 (.slice (some ⟨w.heap.size + 1 + 1, 0, none⟩) 2 2) [0, 1]
  i : Whole wn (w.heap.size + 1 + 1 + 1) 38 I
  b : Below w.heap.size w wn
theorem Awk.next {w wn wm : World} {I : Array Value} (h : Awk w wn I) (hb : Below wn.heap.size wn wm) : Awk w wm I :=
  ⟨h.g.below' hb, h.f.below' hb, h.a.below' hb, h.i.below' hb, h.b.trans (hb.mono h.b.size)⟩
theorem Awk.set {w wn : World} {I : Array Value} (h : Awk w wn I) (j : Nat) (u : Value) : Awk w (wn.setCell ⟨w.heap.size + 1 + 1 + 1, j, none⟩ u) (I.setIfInBounds j u) :=
  ⟨rd_far h.g (by first | (simp; done) | (simp; omega)) u, h.f.far (by first | (simp; done) | (simp; omega)) u, rd_far h.a (by first | (simp; done) | (simp; omega)) u, h.i.set j u, h.b.setCell (p := ⟨w.heap.size + 1 + 1 + 1, j, none⟩) (by first | (simp; done) | (simp; omega)) u⟩
theorem awk_new (w : World) : Awk w ((((w.alloc (.cells #[.int .i64 3, .int .i64 3, .int .i64 3] 22)).alloc (.cells #[.string ⟨#[]⟩, .slice none 0 0, .int .i64 0, .slice (some ⟨w.heap.size, 0, none⟩) 3 3, .slice none 0 0] 60)).alloc (.cells #[.int .i64 0, .int .i64 1] 3)).alloc (.cells #[.int .i64 5, .int .i64 3, .int .i64 2, .slice (some ⟨w.heap.size + 1 + 1, 0, none⟩) 2 2, .int .i64 0, .int .i64 0, .int .i64 0, .bool true] 38)) #[.int .i64 5, .int .i64 3, .int .i64 2, .slice (some ⟨w.heap.size + 1 + 1, 0, none⟩) 2 2, .int .i64 0, .int .i64 0, .int .i64 0, .bool true] := by
  have h1 : Below w.heap.size w (w.alloc (.cells #[.int .i64 3, .int .i64 3, .int .i64 3] 22)) := (Below.refl _ _).alloc (Nat.le_refl _) _
  have g0 : Rd (w.alloc (.cells #[.int .i64 3, .int .i64 3, .int .i64 3] 22)) .i64 (.slice (some ⟨w.heap.size, 0, none⟩) 3 3) [3, 3, 3] := rd_block w 22 [3, 3, 3] (by decide)
  obtain ⟨w1, hw1⟩ : ∃ z, w.alloc (.cells #[.int .i64 3, .int .i64 3, .int .i64 3] 22) = z := ⟨_, rfl⟩
  have s1 : w1.heap.size = w.heap.size + 1 := by rw [← hw1, World.size_alloc]
  rw [hw1] at h1 g0 ⊢
  have f0 := Whole.new w1 60 #[.string ⟨#[]⟩, .slice none 0 0, .int .i64 0, .slice (some ⟨w.heap.size, 0, none⟩) 3 3, .slice none 0 0]
  obtain ⟨w2, hw2⟩ : ∃ z, w1.alloc (.cells #[.string ⟨#[]⟩, .slice none 0 0, .int .i64 0, .slice (some ⟨w.heap.size, 0, none⟩) 3 3, .slice none 0 0] 60) = z := ⟨_, rfl⟩
  have s2 : w2.heap.size = w.heap.size + 1 + 1 := by rw [← hw2, World.size_alloc, s1]
  have b2 : Below w1.heap.size w1 w2 := by rw [← hw2]; exact (Below.refl _ _).alloc (Nat.le_refl _) _
  rw [hw2, s1] at f0
  rw [hw2]
  have a0 : Rd (w2.alloc (.cells #[.int .i64 0, .int .i64 1] 3)) .i64 (.slice (some ⟨w2.heap.size, 0, none⟩) 2 2) [0, 1] := rd_block w2 3 [0, 1] (by decide)
  obtain ⟨w3, hw3⟩ : ∃ z, w2.alloc (.cells #[.int .i64 0, .int .i64 1] 3) = z := ⟨_, rfl⟩
  have s3 : w3.heap.size = w.heap.size + 1 + 1 + 1 := by rw [← hw3, World.size_alloc, s2]
  have b3 : Below w2.heap.size w2 w3 := by rw [← hw3]; exact (Below.refl _ _).alloc (Nat.le_refl _) _
  rw [hw3, s2] at a0
  rw [hw3]
  have i0 := Whole.new w3 38 #[.int .i64 5, .int .i64 3, .int .i64 2, .slice (some ⟨w.heap.size + 1 + 1, 0, none⟩) 2 2, .int .i64 0, .int .i64 0, .int .i64 0, .bool true]
  obtain ⟨w4, hw4⟩ : ∃ z, w3.alloc (.cells #[.int .i64 5, .int .i64 3, .int .i64 2, .slice (some ⟨w.heap.size + 1 + 1, 0, none⟩) 2 2, .int .i64 0, .int .i64 0, .int .i64 0, .bool true] 38) = z := ⟨_, rfl⟩
  have b4 : Below w3.heap.size w3 w4 := by rw [← hw4]; exact (Below.refl _ _).alloc (Nat.le_refl _) _
  rw [hw4, s3] at i0
  rw [hw4]
  have h2 := Below.all h1 b2
  have h3 := Below.all h2 b3
  have h4 := Below.all h3 b4
  exact ⟨((g0.below' b2).below' b3).below' b4, (f0.below' b3).below' b4, a0.below' b4, i0, h4⟩
theorem ex_check (w wn : World) (hT : Tab w) (hO : OpTab w) (ty imm v : Int) (h : Awk w wn #[.int .i64 5, .int .i64 ty, .int .i64 2, .slice (some ⟨w.heap.size + 1 + 1, 0, none⟩) 2 2, .int .i64 imm, .int .i64 0, .int .i64 0, .bool true]) (hv : checkM 5 ty 2 imm 0 0 true [0, 1] [3, 3, 3] 0 0 = v) :
    Calls Tryd.prog 49 #[.agg #[.int .i64 5, .int .i64 ty, .int .i64 2, .slice (some ⟨w.heap.size + 1 + 1, 0, none⟩) 2 2, .int .i64 imm, .int .i64 0, .int .i64 0, .bool true], .agg #[.string ⟨#[]⟩, .slice none 0 0, .int .i64 0, .slice (some ⟨w.heap.size, 0, none⟩) 3 3, .slice none 0 0], .agg #[.slice none 0 0, .slice none 0 0]] wn fun e w' => e = .returned (.int .i64 v) ∧ Below wn.heap.size wn w' := by
  subst hv
  exact check_row 5 ty 2 imm 0 0 (by decide) (some ⟨w.heap.size + 1 + 1, 0, none⟩) (some ⟨w.heap.size, 0, none⟩) none none 2 3 0 0 0 0 [0, 1] [3, 3, 3] (by decide) true _ _ _ 0 wn (hT.below h.b) (hO.below h.b) h.a h.g
theorem ck1 : checkM 5 3 2 0 0 0 true [0, 1] [3, 3, 3] 0 0 = 0 := by decide
theorem ck2 : checkM 5 1 2 0 0 0 true [0, 1] [3, 3, 3] 0 0 = 9 := by decide
theorem ck3 : checkM 5 3 2 1 0 0 true [0, 1] [3, 3, 3] 0 0 = 3 := by decide
theorem lk1 : lookM [97, 115, 104, 114] = some 13 := by decide
theorem lk2 : lookM [] = none := by decide
theorem tk1 : tlookM [118, 52] = some 7 := by decide
theorem xl1 (w : World) (hO : OpTab w) : Calls Tryd.prog 32 #[.string ⟨#[97, 115, 104, 114]⟩] w fun e w' => e = .returned (.tuple #[.int .i64 13, .bool true]) ∧ w = w' := by
  have := look_s [97, 115, 104, 114] w hO
  rw [lk1] at this; exact this
theorem xl2 (w : World) (hO : OpTab w) : Calls Tryd.prog 32 #[.string ⟨#[]⟩] w fun e w' => e = .returned (.tuple #[.int .i64 0, .bool false]) ∧ w = w' := by
  have := look_s [] w hO
  rw [lk2] at this; exact this
theorem xt1 (w : World) (hO : OpTab w) : Calls Tryd.prog 34 #[.string ⟨#[118, 52]⟩] w fun e w' => e = .returned (.tuple #[.int .i64 7, .bool true]) ∧ w = w' := by
  have := tlook_s [118, 52] w hO
  rw [tk1] at this; exact this
theorem xn (op : Int) (l : List UInt8) (h : nameM op = l) (w : World) (hO : OpTab w) : Calls Tryd.prog 38 #[.int .i64 op] w fun e w' => e = .returned (.string ⟨l.toArray⟩) ∧ w = w' := h ▸ name_any op w hO
theorem xtn (op : Int) (l : List UInt8) (h : tnameM op = l) (w : World) (hO : OpTab w) : Calls Tryd.prog 40 #[.int .i64 op] w fun e w' => e = .returned (.string ⟨l.toArray⟩) ∧ w = w' := h ▸ tname_any op w hO
theorem xb (f : Nat) (g : Int → Bool) (hg : ∀ op w, Calls Tryd.prog f #[.int .i64 op] w fun e w' => e = .returned (.bool (g op)) ∧ w = w') (op : Int) (b : Bool) (h : g op = b) (w : World) : Calls Tryd.prog f #[.int .i64 op] w fun e w' => e = .returned (.bool b) ∧ w = w' := h ▸ hg op w
set_option maxRecDepth 100000 in
set_option maxHeartbeats 4000000 in
theorem awake_any (w : World) (hT : Tab w) (hO : OpTab w) : Calls Tryd.prog 48 #[] w fun e w' => e = .returned (.bool true) ∧ Below w.heap.size w w' := by
  obtain ⟨w1, hw1⟩ : ∃ z, ((((w.alloc (.cells #[.int .i64 3, .int .i64 3, .int .i64 3] 22)).alloc (.cells #[.string ⟨#[]⟩, .slice none 0 0, .int .i64 0, .slice (some ⟨w.heap.size, 0, none⟩) 3 3, .slice none 0 0] 60)).alloc (.cells #[.int .i64 0, .int .i64 1] 3)).alloc (.cells #[.int .i64 5, .int .i64 3, .int .i64 2, .slice (some ⟨w.heap.size + 1 + 1, 0, none⟩) 2 2, .int .i64 0, .int .i64 0, .int .i64 0, .bool true] 38)) = z := ⟨_, rfl⟩
  have HS : Hid (Awk w w1 #[.int .i64 5, .int .i64 3, .int .i64 2, .slice (some ⟨w.heap.size + 1 + 1, 0, none⟩) 2 2, .int .i64 0, .int .i64 0, .int .i64 0, .bool true]) := hide (by rw [← hw1]; exact awk_new w)
  have HTO := hide (And.intro hT hO)
  clear hT hO
  have i0 : w1.cell? ⟨w.heap.size + 1 + 1 + 1, 0, none⟩ = some (.int .i64 5) := HS.out.i.cell 0
  have i1 : w1.cell? ⟨w.heap.size + 1 + 1 + 1, 1, none⟩ = some (.int .i64 3) := HS.out.i.cell 1
  have i2 : w1.cell? ⟨w.heap.size + 1 + 1 + 1, 2, none⟩ = some (.int .i64 2) := HS.out.i.cell 2
  have i3 : w1.cell? ⟨w.heap.size + 1 + 1 + 1, 3, none⟩ = some (.slice (some ⟨w.heap.size + 1 + 1, 0, none⟩) 2 2) := HS.out.i.cell 3
  have i4 : w1.cell? ⟨w.heap.size + 1 + 1 + 1, 4, none⟩ = some (.int .i64 0) := HS.out.i.cell 4
  have i5 : w1.cell? ⟨w.heap.size + 1 + 1 + 1, 5, none⟩ = some (.int .i64 0) := HS.out.i.cell 5
  have i6 : w1.cell? ⟨w.heap.size + 1 + 1 + 1, 6, none⟩ = some (.int .i64 0) := HS.out.i.cell 6
  have i7 : w1.cell? ⟨w.heap.size + 1 + 1 + 1, 7, none⟩ = some (.bool true) := HS.out.i.cell 7
  have f0 : w1.cell? ⟨w.heap.size + 1, 0, none⟩ = some (.string ⟨#[]⟩) := HS.out.f.cell 0
  have f1 : w1.cell? ⟨w.heap.size + 1, 1, none⟩ = some (.slice none 0 0) := HS.out.f.cell 1
  have f2 : w1.cell? ⟨w.heap.size + 1, 2, none⟩ = some (.int .i64 0) := HS.out.f.cell 2
  have f3 : w1.cell? ⟨w.heap.size + 1, 3, none⟩ = some (.slice (some ⟨w.heap.size, 0, none⟩) 3 3) := HS.out.f.cell 3
  have f4 : w1.cell? ⟨w.heap.size + 1, 4, none⟩ = some (.slice none 0 0) := HS.out.f.cell 4
  have z1 : w1.frozen? ⟨w.heap.size + 1 + 1 + 1, 1, none⟩ = false := HS.out.i.free 1
  have z4 : w1.frozen? ⟨w.heap.size + 1 + 1 + 1, 4, none⟩ = false := HS.out.i.free 4
  go_enter Tryd.func48, Tryd.ntmps48
  go_wp2_with fail
  refine (ex_check w _ HTO.out.1 HTO.out.2 3 0 0 HS.out ck1).mono ?_
  rintro en w2 ⟨rfl, hb⟩
  replace HS := hide (HS.out.next hb)
  clear i0 i1 i2 i3 i4 i5 i6 i7 f0 f1 f2 f3 f4 z1 z4
  clear hb hw1
  have i0 : w2.cell? ⟨w.heap.size + 1 + 1 + 1, 0, none⟩ = some (.int .i64 5) := HS.out.i.cell 0
  have i1 : w2.cell? ⟨w.heap.size + 1 + 1 + 1, 1, none⟩ = some (.int .i64 3) := HS.out.i.cell 1
  have i2 : w2.cell? ⟨w.heap.size + 1 + 1 + 1, 2, none⟩ = some (.int .i64 2) := HS.out.i.cell 2
  have i3 : w2.cell? ⟨w.heap.size + 1 + 1 + 1, 3, none⟩ = some (.slice (some ⟨w.heap.size + 1 + 1, 0, none⟩) 2 2) := HS.out.i.cell 3
  have i4 : w2.cell? ⟨w.heap.size + 1 + 1 + 1, 4, none⟩ = some (.int .i64 0) := HS.out.i.cell 4
  have i5 : w2.cell? ⟨w.heap.size + 1 + 1 + 1, 5, none⟩ = some (.int .i64 0) := HS.out.i.cell 5
  have i6 : w2.cell? ⟨w.heap.size + 1 + 1 + 1, 6, none⟩ = some (.int .i64 0) := HS.out.i.cell 6
  have i7 : w2.cell? ⟨w.heap.size + 1 + 1 + 1, 7, none⟩ = some (.bool true) := HS.out.i.cell 7
  have f0 : w2.cell? ⟨w.heap.size + 1, 0, none⟩ = some (.string ⟨#[]⟩) := HS.out.f.cell 0
  have f1 : w2.cell? ⟨w.heap.size + 1, 1, none⟩ = some (.slice none 0 0) := HS.out.f.cell 1
  have f2 : w2.cell? ⟨w.heap.size + 1, 2, none⟩ = some (.int .i64 0) := HS.out.f.cell 2
  have f3 : w2.cell? ⟨w.heap.size + 1, 3, none⟩ = some (.slice (some ⟨w.heap.size, 0, none⟩) 3 3) := HS.out.f.cell 3
  have f4 : w2.cell? ⟨w.heap.size + 1, 4, none⟩ = some (.slice none 0 0) := HS.out.f.cell 4
  have z1 : w2.frozen? ⟨w.heap.size + 1 + 1 + 1, 1, none⟩ = false := HS.out.i.free 1
  have z4 : w2.frozen? ⟨w.heap.size + 1 + 1 + 1, 4, none⟩ = false := HS.out.i.free 4
  go_wp2_with fail
  refine (ex_check w _ HTO.out.1 HTO.out.2 1 0 9 (HS.out.set 1 _) ck2).mono ?_
  rintro en w3 ⟨rfl, hb⟩
  replace HS : Hid (Awk w w3 #[.int .i64 5, .int .i64 1, .int .i64 2, .slice (some ⟨w.heap.size + 1 + 1, 0, none⟩) 2 2, .int .i64 0, .int .i64 0, .int .i64 0, .bool true]) := hide ((HS.out.set 1 _).next hb)
  clear i0 i1 i2 i3 i4 i5 i6 i7 f0 f1 f2 f3 f4 z1 z4
  clear hb
  have i0 : w3.cell? ⟨w.heap.size + 1 + 1 + 1, 0, none⟩ = some (.int .i64 5) := HS.out.i.cell 0
  have i1 : w3.cell? ⟨w.heap.size + 1 + 1 + 1, 1, none⟩ = some (.int .i64 1) := HS.out.i.cell 1
  have i2 : w3.cell? ⟨w.heap.size + 1 + 1 + 1, 2, none⟩ = some (.int .i64 2) := HS.out.i.cell 2
  have i3 : w3.cell? ⟨w.heap.size + 1 + 1 + 1, 3, none⟩ = some (.slice (some ⟨w.heap.size + 1 + 1, 0, none⟩) 2 2) := HS.out.i.cell 3
  have i4 : w3.cell? ⟨w.heap.size + 1 + 1 + 1, 4, none⟩ = some (.int .i64 0) := HS.out.i.cell 4
  have i5 : w3.cell? ⟨w.heap.size + 1 + 1 + 1, 5, none⟩ = some (.int .i64 0) := HS.out.i.cell 5
  have i6 : w3.cell? ⟨w.heap.size + 1 + 1 + 1, 6, none⟩ = some (.int .i64 0) := HS.out.i.cell 6
  have i7 : w3.cell? ⟨w.heap.size + 1 + 1 + 1, 7, none⟩ = some (.bool true) := HS.out.i.cell 7
  have f0 : w3.cell? ⟨w.heap.size + 1, 0, none⟩ = some (.string ⟨#[]⟩) := HS.out.f.cell 0
  have f1 : w3.cell? ⟨w.heap.size + 1, 1, none⟩ = some (.slice none 0 0) := HS.out.f.cell 1
  have f2 : w3.cell? ⟨w.heap.size + 1, 2, none⟩ = some (.int .i64 0) := HS.out.f.cell 2
  have f3 : w3.cell? ⟨w.heap.size + 1, 3, none⟩ = some (.slice (some ⟨w.heap.size, 0, none⟩) 3 3) := HS.out.f.cell 3
  have f4 : w3.cell? ⟨w.heap.size + 1, 4, none⟩ = some (.slice none 0 0) := HS.out.f.cell 4
  have z1 : w3.frozen? ⟨w.heap.size + 1 + 1 + 1, 1, none⟩ = false := HS.out.i.free 1
  have z4 : w3.frozen? ⟨w.heap.size + 1 + 1 + 1, 4, none⟩ = false := HS.out.i.free 4
  go_wp2_with fail
  refine (ex_check w _ HTO.out.1 HTO.out.2 3 1 3 ((HS.out.set 1 _).set 4 _) ck3).mono ?_
  rintro en w4 ⟨rfl, hb⟩
  replace HS : Hid (Awk w w4 #[.int .i64 5, .int .i64 3, .int .i64 2, .slice (some ⟨w.heap.size + 1 + 1, 0, none⟩) 2 2, .int .i64 1, .int .i64 0, .int .i64 0, .bool true]) := hide (((HS.out.set 1 _).set 4 _).next hb)
  clear i0 i1 i2 i3 i4 i5 i6 i7 f0 f1 f2 f3 f4 z1 z4
  clear hb
  have HO := hide (HTO.out.2.below HS.out.b)
  go_wp2_with fail
  refine (xl1 _ HO.out).mono ?_
  rintro en wn ⟨rfl, rfl⟩
  go_wp2_with fail
  refine (xl2 _ HO.out).mono ?_
  rintro en wn ⟨rfl, rfl⟩
  go_wp2_with fail
  refine (xt1 _ HO.out).mono ?_
  rintro en wn ⟨rfl, rfl⟩
  go_wp2_with fail
  refine (acc_any 7 _).mono ?_
  rintro en wn ⟨rfl, rfl⟩
  go_wp2_with fail
  refine (xn 21 [115, 101, 108, 101, 99, 116] rfl _ HO.out).mono ?_
  rintro en wn ⟨rfl, rfl⟩
  go_wp2_with fail
  refine (xn 34 [] rfl _ HO.out).mono ?_
  rintro en wn ⟨rfl, rfl⟩
  go_wp2_with fail
  refine (xtn 5 [112, 116, 114] rfl _ HO.out).mono ?_
  rintro en wn ⟨rfl, rfl⟩
  go_wp2_with fail
  refine (xtn (-1) [] rfl _ HO.out).mono ?_
  rintro en wn ⟨rfl, rfl⟩
  go_wp2_with fail
  refine (xb _ pureM pure_any 14 true rfl _).mono ?_
  rintro en wn ⟨rfl, rfl⟩
  go_wp2_with fail
  refine (xb _ specM spec_any 14 false rfl _).mono ?_
  rintro en wn ⟨rfl, rfl⟩
  go_wp2_with fail
  refine (xb _ specM spec_any 33 true rfl _).mono ?_
  rintro en wn ⟨rfl, rfl⟩
  go_wp2_with fail
  refine (xb _ pureM pure_any 3 false rfl _).mono ?_
  rintro en wn ⟨rfl, rfl⟩
  go_wp2_with fail
  refine (xb _ commM comm_any 10 true rfl _).mono ?_
  rintro en wn ⟨rfl, rfl⟩
  go_wp2_with fail
  refine (xb _ commM comm_any 6 false rfl _).mono ?_
  rintro en wn ⟨rfl, rfl⟩
  go_wp2_with fail
  go_ret
  exact ⟨rfl, HS.out.b⟩
end Go.Proofs.YtjeinmccahbpgaaDoor

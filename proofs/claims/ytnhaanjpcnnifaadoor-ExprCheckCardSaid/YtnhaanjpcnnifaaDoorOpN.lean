/-
  Layer 12 (opcode): the examples.
-/
import Derived.Test.YtnhaanjpcnnifaaDoorOpK
namespace Go.Proofs.YtnhaanjpcnnifaaDoor
open Go.RowKit

theorem rd_far {w : World} {b n c : Nat} {l : List Int} (h : Rd w .i64 (.slice (some ⟨b, 0, none⟩) n c) l) {p : Addr} (hp : b ≠ p.block) (u : Value) : Rd (w.setCell p u) .i64 (.slice (some ⟨b, 0, none⟩) n c) l := by
  obtain ⟨A, c', e, h1, h2, h3⟩ := h
  refine ⟨A, c', e, h1, h2, fun hn => ?_⟩
  obtain ⟨b', off, e', hlt, hc⟩ := h3 hn
  simp only [Value.slice.injEq] at e
  refine ⟨b', off, e', by simpa using hlt, fun j z hz => ?_⟩
  have e3 : b' = b := by
    have := e.1.trans e'
    injection this with this
    simp only [Addr.mk.injEq] at this
    exact this.1.symm
  exact (World.cell?_of_block (a := ⟨b', off + j, none⟩) (Below.heap_setCell w p u b' (by rw [e3]; exact hp))).trans (hc j z hz)
structure Awk (w wn : World) (I : Array Value) : Prop where
  g : Rd wn .i64 (.slice (some ⟨w.heap.size, 0, none⟩) 3 3) [3, 3, 3]
  f : Whole wn (w.heap.size + 1) 28 #[.string ⟨#[]⟩, .slice none 0 0, .int .i64 0, .slice (some ⟨w.heap.size, 0, none⟩) 3 3, .slice none 0 0]
  a : Rd wn .i64 (.slice (some ⟨w.heap.size + 1 + 1, 0, none⟩) 2 2) [0, 1]
  i : Whole wn (w.heap.size + 1 + 1 + 1) 78 I
  b : Below w.heap.size w wn
theorem Awk.next {w wn wm : World} {I : Array Value} (h : Awk w wn I) (hb : Below wn.heap.size wn wm) : Awk w wm I :=
  ⟨h.g.below' hb, h.f.below' hb, h.a.below' hb, h.i.below' hb, h.b.trans (hb.mono h.b.size)⟩
theorem Awk.set {w wn : World} {I : Array Value} (h : Awk w wn I) (j : Nat) (u : Value) : Awk w (wn.setCell ⟨w.heap.size + 1 + 1 + 1, j, none⟩ u) (I.setIfInBounds j u) :=
  ⟨rd_far h.g (by first | (simp; done) | (simp; omega)) u, h.f.far (by first | (simp; done) | (simp; omega)) u, rd_far h.a (by first | (simp; done) | (simp; omega)) u, h.i.set j u, h.b.setCell (p := ⟨w.heap.size + 1 + 1 + 1, j, none⟩) (by first | (simp; done) | (simp; omega)) u⟩
theorem awk_new (w : World) : Awk w ((((w.alloc (.cells #[.int .i64 3, .int .i64 3, .int .i64 3] 24)).alloc (.cells #[.string ⟨#[]⟩, .slice none 0 0, .int .i64 0, .slice (some ⟨w.heap.size, 0, none⟩) 3 3, .slice none 0 0] 28)).alloc (.cells #[.int .i64 0, .int .i64 1] 3)).alloc (.cells #[.int .i64 5, .int .i64 3, .int .i64 2, .slice (some ⟨w.heap.size + 1 + 1, 0, none⟩) 2 2, .int .i64 0, .int .i64 0, .int .i64 0, .bool true] 78)) #[.int .i64 5, .int .i64 3, .int .i64 2, .slice (some ⟨w.heap.size + 1 + 1, 0, none⟩) 2 2, .int .i64 0, .int .i64 0, .int .i64 0, .bool true] := by
  have h1 : Below w.heap.size w (w.alloc (.cells #[.int .i64 3, .int .i64 3, .int .i64 3] 24)) := (Below.refl _ _).alloc (Nat.le_refl _) _
  have g0 : Rd (w.alloc (.cells #[.int .i64 3, .int .i64 3, .int .i64 3] 24)) .i64 (.slice (some ⟨w.heap.size, 0, none⟩) 3 3) [3, 3, 3] := rd_block w 24 [3, 3, 3] (by decide)
  obtain ⟨w1, hw1⟩ : ∃ z, w.alloc (.cells #[.int .i64 3, .int .i64 3, .int .i64 3] 24) = z := ⟨_, rfl⟩
  have s1 : w1.heap.size = w.heap.size + 1 := by rw [← hw1, World.size_alloc]
  rw [hw1] at h1 g0 ⊢
  have f0 := Whole.new w1 28 #[.string ⟨#[]⟩, .slice none 0 0, .int .i64 0, .slice (some ⟨w.heap.size, 0, none⟩) 3 3, .slice none 0 0]
  obtain ⟨w2, hw2⟩ : ∃ z, w1.alloc (.cells #[.string ⟨#[]⟩, .slice none 0 0, .int .i64 0, .slice (some ⟨w.heap.size, 0, none⟩) 3 3, .slice none 0 0] 28) = z := ⟨_, rfl⟩
  have s2 : w2.heap.size = w.heap.size + 1 + 1 := by rw [← hw2, World.size_alloc, s1]
  have b2 : Below w1.heap.size w1 w2 := by rw [← hw2]; exact (Below.refl _ _).alloc (Nat.le_refl _) _
  rw [hw2, s1] at f0
  rw [hw2]
  have a0 : Rd (w2.alloc (.cells #[.int .i64 0, .int .i64 1] 3)) .i64 (.slice (some ⟨w2.heap.size, 0, none⟩) 2 2) [0, 1] := rd_block w2 3 [0, 1] (by decide)
  obtain ⟨w3, hw3⟩ : ∃ z, w2.alloc (.cells #[.int .i64 0, .int .i64 1] 3) = z := ⟨_, rfl⟩
  have s3 : w3.heap.size = w.heap.size + 1 + 1 + 1 := by rw [← hw3, World.size_alloc, s2]
  have b3 : Below w2.heap.size w2 w3 := by rw [← hw3]; exact (Below.refl _ _).alloc (Nat.le_refl _) _
  rw [hw3, s2] at a0
  rw [hw3]
  have i0 := Whole.new w3 78 #[.int .i64 5, .int .i64 3, .int .i64 2, .slice (some ⟨w.heap.size + 1 + 1, 0, none⟩) 2 2, .int .i64 0, .int .i64 0, .int .i64 0, .bool true]
  obtain ⟨w4, hw4⟩ : ∃ z, w3.alloc (.cells #[.int .i64 5, .int .i64 3, .int .i64 2, .slice (some ⟨w.heap.size + 1 + 1, 0, none⟩) 2 2, .int .i64 0, .int .i64 0, .int .i64 0, .bool true] 78) = z := ⟨_, rfl⟩
  have b4 : Below w3.heap.size w3 w4 := by rw [← hw4]; exact (Below.refl _ _).alloc (Nat.le_refl _) _
  rw [hw4, s3] at i0
  rw [hw4]
  have h2 := Below.all h1 b2
  have h3 := Below.all h2 b3
  have h4 := Below.all h3 b4
  exact ⟨((g0.below' b2).below' b3).below' b4, (f0.below' b3).below' b4, a0.below' b4, i0, h4⟩
theorem ex_check (w wn : World) (hT : Tab w) (hO : OpTab w) (ty imm v : Int) (h : Awk w wn #[.int .i64 5, .int .i64 ty, .int .i64 2, .slice (some ⟨w.heap.size + 1 + 1, 0, none⟩) 2 2, .int .i64 imm, .int .i64 0, .int .i64 0, .bool true]) (hv : checkM 5 ty 2 imm 0 0 true [0, 1] [3, 3, 3] 0 0 = v) :
    Calls Tryd.prog 41 #[.agg #[.int .i64 5, .int .i64 ty, .int .i64 2, .slice (some ⟨w.heap.size + 1 + 1, 0, none⟩) 2 2, .int .i64 imm, .int .i64 0, .int .i64 0, .bool true], .agg #[.string ⟨#[]⟩, .slice none 0 0, .int .i64 0, .slice (some ⟨w.heap.size, 0, none⟩) 3 3, .slice none 0 0], .agg #[.slice none 0 0, .slice none 0 0]] wn fun e w' => e = .returned (.int .i64 v) ∧ Below wn.heap.size wn w' := by
  subst hv
  exact check_row 5 ty 2 imm 0 0 (by decide) (some ⟨w.heap.size + 1 + 1, 0, none⟩) (some ⟨w.heap.size, 0, none⟩) none none 2 3 0 0 0 0 [0, 1] [3, 3, 3] (by decide) true _ _ _ 0 wn (hT.below h.b) (hO.below h.b) h.a h.g
theorem ck1 : checkM 5 3 2 0 0 0 true [0, 1] [3, 3, 3] 0 0 = 0 := by decide
theorem ck2 : checkM 5 1 2 0 0 0 true [0, 1] [3, 3, 3] 0 0 = 9 := by decide
theorem ck3 : checkM 5 3 2 1 0 0 true [0, 1] [3, 3, 3] 0 0 = 3 := by decide
theorem lk1 : lookM [97, 115, 104, 114] = some 13 := by decide
theorem lk2 : lookM [] = none := by decide
theorem tk1 : tlookM [118, 52] = some 7 := by decide
theorem xn (op : Int) (l : List UInt8) (h : nameM op = l) (w : World) (hO : OpTab w) : Calls Tryd.prog 53 #[.int .i64 op] w fun e w' => e = .returned (.string ⟨l.toArray⟩) ∧ w = w' := h ▸ name_any op w hO
theorem xtn (op : Int) (l : List UInt8) (h : tnameM op = l) (w : World) (hO : OpTab w) : Calls Tryd.prog 54 #[.int .i64 op] w fun e w' => e = .returned (.string ⟨l.toArray⟩) ∧ w = w' := h ▸ tname_any op w hO
theorem xb (f : Nat) (g : Int → Bool) (hg : ∀ op w, Calls Tryd.prog f #[.int .i64 op] w fun e w' => e = .returned (.bool (g op)) ∧ w = w') (op : Int) (b : Bool) (h : g op = b) (w : World) : Calls Tryd.prog f #[.int .i64 op] w fun e w' => e = .returned (.bool b) ∧ w = w' := h ▸ hg op w
end Go.Proofs.YtnhaanjpcnnifaaDoor

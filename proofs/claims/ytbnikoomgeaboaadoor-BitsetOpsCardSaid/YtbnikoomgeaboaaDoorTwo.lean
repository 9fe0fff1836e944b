/-
  Two sets of capacity 5 side by side, and what each call leaves of them: layer 3 (bitset).
-/
import Derived.Test.YtbnikoomgeaboaaDoorMiss
import Derived.Test.YtbnikoomgeaboaaDoorElems
import Derived.Test.YtbnikoomgeaboaaDoorEqual
import Derived.Test.YtbnikoomgeaboaaDoorCombU
import Derived.Test.YtbnikoomgeaboaaDoorCombS
import Derived.Test.YtbnikoomgeaboaaDoorCombI
namespace Go.Proofs.YtbnikoomgeaboaaDoor
open Go.RowKit

/-- The words are determined by the bits. -/
theorem SetAt.known {W : World} {B n : Nat} {ws xs : List Nat} (h : SetAt W B n ws) (hx : Words n xs) (e : ∀ i, i < n → bit ws i = bit xs i) : SetAt W B n xs := by
  rw [← h.2.2.1.ext hx e]; exact h
theorem words5 {x : Nat} (h : x < 32) : Words 5 [x] := by
  refine ⟨rfl, fun y hy => ?_, fun i hi => ?_⟩
  · obtain rfl : y = x := by simpa using hy
    exact Nat.lt_trans h (by decide)
  · by_cases e : i / 64 = 0
    · have e2 : i % 64 = i := by omega
      have : bit [x] i = x.testBit i := by unfold bit; rw [e, e2]; rfl
      rw [this]
      exact Nat.testBit_lt_two_pow (Nat.lt_of_lt_of_le h (show 2 ^ 5 ≤ 2 ^ i from Nat.pow_le_pow_right (show 0 < 2 by decide) hi))
    · have : [x][i / 64]? = none := List.getElem?_eq_none (by simp; omega)
      unfold bit
      rw [List.getD_eq_getElem?_getD, this]
      simp

/-- THE TWO SETS: each of capacity 5, apart, and all that is old is as it was. -/
structure Two (w W : World) (B C : Nat) (x y : Nat) : Prop where
  s : SetAt W B 5 [x]
  o : SetAt W C 5 [y]
  tab : Tab W
  below : Below w.heap.size w W
  low : w.heap.size ≤ B
  far : B + 1 < C
variable {w W W' : World} {B C x y : Nat}
theorem Two.frm (h : Two w W B C x y) (hf : Frm W W' []) : Two w W' B C x y :=
  ⟨h.s.frm hf (by simp) (by simp), h.o.frm hf (by simp) (by simp), h.tab.frm hf (by simp), h.below.trans (hf.toBelow (by simp) h.below.size), h.low, h.far⟩
theorem Two.turn (h : Two w W B C x y) (hf : Frm W W' [B]) (h0 : 0 < w.heap.size) {z : Nat} (hz : SetAt W' B 5 [z]) : Two w W' B C z y := by
  have := h.low
  have := h.far
  exact ⟨hz, h.o.frm hf (by simp; omega) (by simp; omega), h.tab.frm hf (by simp; omega), h.below.trans (hf.toBelow (by simpa using h.low) h.below.size), h.low, h.far⟩
theorem Two.apart (h : Two w W B C x y) : (C = B ∧ [y] = [x]) ∨ (C ≠ B ∧ C ≠ B + 1 ∧ C + 1 ≠ B) := by
  have := h.far
  exact .inr ⟨by omega, by omega, by omega⟩
theorem Two.count (h : Two w W B C x y) {n : Nat} (e : (els [x] 5 0).length = n) :
    Calls Tryd.prog 29 #[.pointer (some ⟨B + 1, 0, none⟩)] W fun en W' => en = .returned (.int .i64 n) ∧ Two w W' B C x y :=
  (callsIn_wide.1 (count_in 3 (Nat.le_refl _) W B 5 [x] h.s h.tab)).mono fun _ _ ⟨a, b⟩ => ⟨by rw [a, e], h.frm (Frm.below b)⟩
theorem Two.has (h : Two w W B C x y) (i : Int) {b : Bool} (e : (decide (0 ≤ i) && bit [x] i.toNat) = b) :
    Calls Tryd.prog 16 #[.pointer (some ⟨B + 1, 0, none⟩), .int .i64 i] W fun en W' => en = .returned (.bool b) ∧ Two w W' B C x y :=
  (has_set W B 5 [x] h.s i).mono fun _ _ ⟨a, b⟩ => ⟨by rw [a, e], h.frm b⟩
theorem Two.sub (h : Two w W B C x y) (h0 : 0 < w.heap.size) {z : Nat} (hz : z < 32) (e : ∀ i, i < 5 → (bit [x] i && !bit [y] i) = bit [z] i) {b : Bool} (eb : decide ([z] ≠ [x]) = b) :
    Calls Tryd.prog 20 #[.pointer (some ⟨B + 1, 0, none⟩), .pointer (some ⟨C + 1, 0, none⟩)] W fun en W' => en = .returned (.bool b) ∧ Two w W' B C z y :=
  (sub_set W B C 5 [x] [y] h.s h.o h.apart).mono fun _ _ ⟨us, a, b, c, d⟩ => by
    have hu := b.2.2.1.ext (words5 hz) (fun i hi => (c i).trans (e i hi))
    subst hu
    exact ⟨by rw [a, eb], h.turn d h0 b⟩
theorem Two.or (h : Two w W B C x y) (h0 : 0 < w.heap.size) {z : Nat} (hz : z < 32) (e : ∀ i, i < 5 → (bit [x] i || bit [y] i) = bit [z] i) {b : Bool} (eb : decide ([z] ≠ [x]) = b) :
    Calls Tryd.prog 18 #[.pointer (some ⟨B + 1, 0, none⟩), .pointer (some ⟨C + 1, 0, none⟩)] W fun en W' => en = .returned (.bool b) ∧ Two w W' B C z y :=
  (or_set W B C 5 [x] [y] h.s h.o h.apart).mono fun _ _ ⟨us, a, b, c, d⟩ => by
    have hu := b.2.2.1.ext (words5 hz) (fun i hi => (c i).trans (e i hi))
    subst hu
    exact ⟨by rw [a, eb], h.turn d h0 b⟩
theorem Two.remove (h : Two w W B C x y) (h0 : 0 < w.heap.size) {z : Nat} (hz : z < 32) (k : Nat) (hk : k < 5) (hb : bit [x] k = true) (e : ∀ i, i < 5 → (!decide (i = k) && bit [x] i) = bit [z] i) :
    Calls Tryd.prog 14 #[.pointer (some ⟨B + 1, 0, none⟩), .int .i64 k] W fun en W' => en = .returned (.bool true) ∧ Two w W' B C z y :=
  (remove_old W B 5 [x] h.s k hk hb).mono fun _ _ ⟨a, us, b, c, d⟩ => by
    have hu := b.2.2.1.ext (words5 hz) (fun i hi => (c i).trans (e i hi))
    subst hu
    exact ⟨a, h.turn d h0 b⟩
theorem Two.gone (h : Two w W B C x y) (k : Int) (hb : bit [x] k.toNat = false) :
    Calls Tryd.prog 14 #[.pointer (some ⟨B + 1, 0, none⟩), .int .i64 k] W fun en W' => en = .returned (.bool false) ∧ Two w W' B C x y :=
  (remove_same W B 5 [x] h.s k (.inr (.inr hb))).mono fun _ _ ⟨a, b⟩ => ⟨a, h.frm b⟩
theorem Two.again (h : Two w W B C x y) (k : Int) (hb : bit [x] k.toNat = true) :
    Calls Tryd.prog 12 #[.pointer (some ⟨B + 1, 0, none⟩), .int .i64 k] W fun en W' => en = .returned (.bool false) ∧ Two w W' B C x y :=
  (add_same W B 5 [x] h.s k (.inr (.inr hb))).mono fun _ _ ⟨a, b⟩ => ⟨a, h.frm b⟩
theorem Two.equal (h : Two w W B C x y) {b : Bool} (e : decide ([x] = [y]) = b) :
    Calls Tryd.prog 27 #[.pointer (some ⟨B + 1, 0, none⟩), .pointer (some ⟨C + 1, 0, none⟩)] W fun en W' => en = .returned (.bool b) ∧ Two w W' B C x y :=
  (equal_set W B C 5 5 [x] [y] h.s h.o).mono fun _ _ ⟨a, b⟩ => ⟨by rw [a, ← e]; simp, h.frm b⟩
theorem Two.cap (h : Two w W B C x y) :
    Calls Tryd.prog 32 #[.pointer (some ⟨B + 1, 0, none⟩)] W fun en W' => en = .returned (.int .i64 5) ∧ Two w W' B C x y :=
  (cap_set W B 5 [x] h.s).mono fun _ _ ⟨a, b⟩ => ⟨a, b ▸ h⟩
theorem Two.clone (h : Two w W B C x y) :
    Calls Tryd.prog 24 #[.pointer (some ⟨B + 1, 0, none⟩)] W fun en W' => en = .returned (.pointer (some ⟨W.heap.size + 1, 0, none⟩)) ∧ Two w W' B C x y ∧ SetAt W' W.heap.size 5 [x] :=
  (clone_set W B 5 [x] h.s).mono fun _ _ ⟨a, b, c⟩ => ⟨a, h.frm c, b⟩
/-- A union with a set of capacity 6. -/
theorem Two.six (h : Two w W B C x y) {D : Nat} {zs : List Nat} (hd : SetAt W D 6 zs) :
    Calls Tryd.prog 18 #[.pointer (some ⟨B + 1, 0, none⟩), .pointer (some ⟨D + 1, 0, none⟩)] W fun en W' => en = .returned (.bool false) ∧ Two w W' B C x y :=
  (union_miss W _ _ (.inr (.inr ⟨5, 6, ⟨B, [x], rfl, h.s⟩, ⟨D, zs, rfl, hd⟩, by decide⟩))).mono fun _ _ ⟨a, b⟩ => ⟨a, h.frm b⟩
end Go.Proofs.YtbnikoomgeaboaaDoor

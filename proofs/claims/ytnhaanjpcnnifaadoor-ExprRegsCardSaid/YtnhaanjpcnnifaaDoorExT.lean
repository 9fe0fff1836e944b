/-
  strconv.Itoa, strconv.FormatInt and slices.Sort at this program: the library's contracts, of which each fact is laid by hand.
-/
import Derived.Shelf.Strconv.Itoa4
import Derived.Shelf.Sort.Plain
import Derived.WalkSmall
import Derived.Test.YtnhaanjpcnnifaaDoorExI
namespace Go.Proofs.YtnhaanjpcnnifaaDoor
open Go.RowKit Go.Shelf

def rhoSF (n : Nat) : Nat := if n = 125 then 49 else if n = 128 then 81 else if n = 129 then 82 else if n = 171 then 85 else if n = 173 then 51 else if n = 189 then 32 else if n = 215 then 101 else if n = 216 then 78 else if n = 243 then 106 else if n = 246 then 84 else if n = 257 then 48 else if n = 283 then 102 else if n = 284 then 103 else if n = 285 then 104 else if n = 286 then 105 else if n = 294 then 72 else if n = 295 then 73 else if n = 296 then 74 else if n = 297 then 75 else if n = 298 then 76 else if n = 299 then 77 else if n = 300 then 79 else if n = 301 then 80 else if n = 317 then 110 else if n = 318 then 111 else if n = 319 then 112 else if n = 320 then 113 else if n = 328 then 96 else if n = 329 then 97 else if n = 330 then 98 else if n = 331 then 99 else if n = 332 then 100 else if n = 337 then 115 else if n = 338 then 116 else if n = 343 then 109 else 0
def rhoST (n : Nat) : Nat := if n = 0 then 0 else if n = 2 then 2 else if n = 3 then 3 else if n = 4 then 4 else if n = 5 then 5 else if n = 9 then 9 else if n = 20 then 20 else if n = 28 then 23 else if n = 37 then 64 else if n = 46 then 84 else if n = 51 then 111 else if n = 53 then 113 else if n = 131 then 96 else if n = 171 then 133 else if n = 173 then 135 else if n = 182 then 103 else if n = 183 then 104 else if n = 212 then 143 else if n = 213 then 144 else if n = 218 then 127 else if n = 222 then 131 else if n = 228 then 138 else if n = 229 then 139 else if n = 232 then 147 else if n = 233 then 148 else 0
def rhoSG (n : Nat) : Nat := if n = 17 then 3 else if n = 18 then 5 else if n = 19 then 6 else 0
def rhoS : Ren := ⟨rhoSF, rhoST, rhoSG⟩
set_option maxRecDepth 100000 in
theorem rhoS_171 : Lays.n171 Tryd.prog rhoS := by
  constructor <;> first | kernel_rfl | (intro w; kernel_rfl)
set_option maxRecDepth 100000 in
theorem rhoS_m171 : LaysM.n171 Tryd.prog rhoS := by
  constructor
  · exact rhoS_171
  all_goals kernel_rfl
set_option maxRecDepth 100000 in
theorem rhoS_173 : Lays.n173 Tryd.prog rhoS := by
  constructor <;> first | kernel_rfl | (intro w; kernel_rfl)
set_option maxRecDepth 100000 in
theorem rhoS_m173 : LaysM.n173 Tryd.prog rhoS := by
  constructor
  · exact rhoS_173
  all_goals kernel_rfl
set_option maxRecDepth 100000 in
theorem rhoS_189 : Lays.n189 Tryd.prog rhoS := by
  constructor <;> first | kernel_rfl | (intro w; kernel_rfl)
/-- The library's table of the powers of ten. -/
def Pow (w : World) : Prop := Lib.TabIs Tryd.prog w "internal/strconv.uint64pow10" .u64 Lib.pow10Tab
theorem gPow : Tryd.prog.globalNamed "internal/strconv.uint64pow10" = some 3 := by kernel_rfl
theorem Pow.below {w w' : World} (h : Pow w) (hb : Below w.heap.size w w') : Pow w' := by
  refine var?_below hb gPow ?_ h
  rcases Nat.lt_or_ge 3 w.heap.size with h1 | h1
  · exact h1
  · have h2 := h
    unfold Pow Lib.TabIs World.var? at h2
    rw [gPow, Option.bind_some, Array.getElem?_eq_none h1] at h2
    cases h2
theorem grown_below {B : Nat} {a : World} (w : World) (os : Array Obj) (h : Below B a w) (hB : B ≤ w.heap.size) : Below B a (Sort.grow w os) :=
  h.trans ⟨rfl, rfl, rfl, by simp [Sort.grow], fun i hi => by simp only [Sort.grow]; exact Array.getElem?_append_left (by omega)⟩
theorem sfmt_any (n : Int) (hn : In64 n) (w : World) (hP : Pow w) : Calls Tryd.prog 51 #[.int .i64 n, .int .i64 10] w fun e w' => e = .returned (.string ⟨(Lib.itoa n).toArray⟩) ∧ Below w.heap.size w w' :=
  (Any.strconv_FormatInt_10 rhoS_m173 n hn.1 hn.2 w hP).mono fun e w' ⟨h1, k, os, h2⟩ => ⟨h1, by rw [h2]; exact grown_below _ os (Below.drewN' (Below.refl _ _) k) (Nat.le_refl _)⟩
theorem sitoa_any (n : Int) (hn : In64 n) (w : World) (hP : Pow w) : Calls Tryd.prog 85 #[.int .i64 n] w fun e w' => e = .returned (.string ⟨(Lib.itoa n).toArray⟩) ∧ Below w.heap.size w w' :=
  (Any.strconv_Itoa rhoS_m171 n hn.1 hn.2 w hP).mono fun e w' ⟨h1, k, os, h2⟩ => ⟨h1, by rw [h2]; exact grown_below _ os (Below.drewN' (Below.refl _ _) k) (Nat.le_refl _)⟩
end Go.Proofs.YtnhaanjpcnnifaaDoor

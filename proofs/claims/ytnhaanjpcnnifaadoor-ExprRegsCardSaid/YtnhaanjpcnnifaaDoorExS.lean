/-
  Package strings' Builder at this program: the library's contracts, of which each fact is laid by hand.
-/
import Derived.Shelf.Strings.BuilderK
import Derived.Test.YtnhaanjpcnnifaaDoorChecked
import Derived.Test.YtnhaanjpcnnifaaDoorKit
import Derived.Test.YtnhaanjpcnnifaaDoorBlock
namespace Go.Proofs.YtnhaanjpcnnifaaDoor
open Go.RowKit Go.Shelf

def rhoF (n : Nat) : Nat := if n = 166 then 35 else if n = 167 then 34 else if n = 169 then 37 else if n = 240 then 50 else if n = 276 then 83 else 0
def rhoT (n : Nat) : Nat := if n = 0 then 0 else if n = 3 then 3 else if n = 4 then 4 else if n = 5 then 5 else if n = 9 then 9 else if n = 20 then 20 else if n = 37 then 64 else if n = 70 then 63 else if n = 72 then 66 else if n = 75 then 68 else if n = 80 then 73 else if n = 127 then 87 else if n = 164 then 114 else 0
def rho : Ren := ⟨rhoF, rhoT, fun n => n⟩
set_option maxRecDepth 100000 in
theorem lay167 : Lays.n167 Tryd.prog rho := by
  constructor <;> first | kernel_rfl | (intro w; kernel_rfl)
set_option maxRecDepth 100000 in
theorem lay166 : Lays.n166 Tryd.prog rho := by
  constructor <;> first | kernel_rfl | (intro w; kernel_rfl)
set_option maxRecDepth 100000 in
theorem lay169 : Lays.n169 Tryd.prog rho := by
  constructor <;> first | kernel_rfl | (intro w; kernel_rfl)
set_option maxRecDepth 100000 in
theorem layX : Builder.Extra Tryd.prog rho := by
  refine ⟨⟨?_, ?_⟩, ?_, ?_, ?_, ?_, ?_, ?_, ?_, ?_⟩ <;> first | kernel_rfl | (intro w; kernel_rfl) | decide
def IsB (B b : Nat) (bs : List Value) (w : World) : Prop := Lib.IsBuilderF 66 5 B b bs w
theorem wbyte_any (B b : Nat) (bs : List Value) (c : Int) (w : World) (h : IsB B b bs w) (hlen : bs.length + 1 ≤ 140737488355328) (hBw : B ≤ w.heap.size) :
    Calls Tryd.prog 34 #[.pointer (some ⟨b, 0, none⟩), .int .u8 c] w fun e w' => e = .returned .nilIface ∧ IsB B b (bs ++ [.int .u8 c]) w' ∧ Below B w w' ∧ Lib.OthersKept 5 (some b) w w' :=
  (Any.Builder_WriteByte_k lay167 layX B b bs c w h hlen hBw).mono fun _ _ h => ⟨h.1, .inr h.2.1, h.2.2⟩
theorem wstr_any (B b : Nat) (bs : List Value) (s : ByteArray) (w : World) (h : IsB B b bs w) (hlen : bs.length + s.size ≤ 140737488355328) (hBw : B ≤ w.heap.size) :
    Calls Tryd.prog 35 #[.pointer (some ⟨b, 0, none⟩), .string s] w fun e w' => e = .returned (.tuple #[.int .i64 s.size, .nilIface]) ∧ IsB B b (bs ++ Lib.strCells s) w' ∧ Below B w w' ∧ Lib.OthersKept 5 (some b) w w' :=
  (Any.Builder_WriteString_k lay166 layX B b bs s w h hlen hBw).mono fun _ _ h => ⟨h.1, .inr h.2.1, h.2.2⟩
theorem bstring_any (B b : Nat) (l : List UInt8) (w : World) (h : IsB B b (Lib.byteCells l) w) (hBw : B ≤ w.heap.size) :
    Calls Tryd.prog 37 #[.pointer (some ⟨b, 0, none⟩)] w fun e w' => e = .returned (.string ⟨l.toArray⟩) ∧ Below B w w' :=
  (Any.Builder_String_any_k lay169 layX B b l w h hBw).mono fun _ _ h => ⟨h.1, h.2.2.1⟩
theorem isb_fresh (w : World) : IsB w.heap.size w.heap.size [] (w.alloc (.cells #[.pointer none, .slice none 0 0] 66)) := Lib.IsBuilderF.of (Lib.fresh_isBuilder _ _ w)
theorem isb_lt {B b : Nat} {bs : List Value} {w : World} (h : IsB B b bs w) : b < w.heap.size := by
  rcases h with h | h <;> exact h.lt
theorem whole_kept {b g : Nat} {t : TypeId} {cs : Array Value} {w w' : World} (h : Whole w g t cs) (hk : Lib.OthersKept 5 (some b) w w') (hg : g ≠ b) (ht : t ≠ 5) : Whole w' g t cs :=
  hk g _ h (by simpa using hg) (fun c fz e => by injection e with _ e _; exact ht e)
theorem isb_below {B b : Nat} {bs : List Value} {w w' : World} (h : IsB B b bs w) (hb : Below w.heap.size w w') : IsB B b bs w' := by
  have key : ∀ p, Lib.BuilderAtF 66 5 B b p bs w → Lib.BuilderAtF 66 5 B b p bs w' := fun p h => by
    have hl := h.lt
    obtain ⟨h1, v, h2, ⟨h5, h3⟩, h4⟩ := h
    refine ⟨h1, v, (hb.block b hl).trans h2, ⟨h5, ?_⟩, h4⟩
    rcases h3 with h3 | ⟨g, cap, cur, fz, e1, e2, e3, e4⟩
    · exact .inl h3
    · refine .inr ⟨g, cap, cur, fz, e1, e2, (hb.block g ?_).trans e3, e4⟩
      rcases Nat.lt_or_ge g w.heap.size with h0 | h0
      · exact h0
      · rw [Array.getElem?_eq_none h0] at e3
        cases e3
  rcases h with h | h
  · exact .inl (key _ h)
  · exact .inr (key _ h)
end Go.Proofs.YtnhaanjpcnnifaaDoor

/-
  Layer 6 (digraph): what the depth-first search holds in memory.
-/
import Derived.Test.YtaehfohljblmoaaDfsMath
import Derived.Test.YtaehfohljblmoaaNew
import Derived.Deep.LoopGhost
namespace Go.Proofs.Ytaehfohljblmoaa
open Go.RowKit

def ints (l : List Nat) : List Int := l.map fun (x : Nat) => (x : Int)
theorem ints_len (l : List Nat) : (ints l).length = l.length := by simp [ints]
theorem ints_get (l : List Nat) (j : Nat) : (ints l)[j]? = (l[j]?).map fun (x : Nat) => (x : Int) := by simp [ints]
theorem ints_set (l : List Nat) (j x : Nat) : (ints l).set j (x : Int) = ints (l.set j x) := by simp [ints, List.map_set]
theorem Own.pop {w : World} {base g m cap : Nat} {e : TypeId} {k : IntKind} {l : List Int} {x : Int} (h : Own w base e k (.slice (some ⟨g, 0, none⟩) (m + 1) cap) (l ++ [x])) : Own w base e k (.slice (some ⟨g, 0, none⟩) m cap) l := by
  obtain ⟨hlen, h⟩ := h
  rcases h with ⟨h, _⟩ | ⟨g', cap', cur, hv, hb, hcur, hn, hm, hs, ht⟩
  · cases h
  · simp only [List.length_append, List.length_singleton, List.map_append, List.map_cons, List.map_nil, Nat.mul_one] at hv hn ht
    injection hv with e1 e2 e3
    injection e1 with e1
    injection e1 with e1
    subst e1 e3
    have em : m = l.length := by omega
    subst em
    refine ⟨by simp, .inr ⟨g, cap, cur, rfl, hb, hcur, by omega, hm, hs, ?_⟩⟩
    have := congrArg (List.take l.length) ht
    rw [List.take_take, Nat.min_eq_left (by omega), List.take_left' (by simp)] at this
    rw [Nat.mul_one]
    exact this

theorem own_one (w : World) (base : Nat) (e : TypeId) (x : Int) (hb : base ≤ w.heap.size) : Own (w.alloc (.cells #[.int .i64 x] e)) base e .i64 (.slice (some ⟨w.heap.size, 0, none⟩) 1 1) [x] :=
  ⟨rfl, .inr ⟨w.heap.size, 1, #[.int .i64 x], rfl, hb, heap_alloc_new w _, Nat.le_refl _, by unfold maxLen; omega, rfl, rfl⟩⟩

theorem set_self {l : List Nat} {u t : Nat} (h : l[u]? = some t) : l.set u t = l := by
  apply List.ext_getElem?
  intro i
  by_cases e : u = i
  · subst e
    rw [List.getElem?_set_self (List.getElem?_eq_some_iff.1 h).1, h]
  · rw [List.getElem?_set_ne e]
/-- How many successors of each node have been looked at: they are all visited. -/
def Scan (g : List (List Int)) (vis : Nat → Bool) (tr : List Nat) : Prop :=
  tr.length = g.length ∧ ∀ (u t : Nat), tr[u]? = some t → t ≤ (succs g u).length ∧ ∀ (i y : Nat), i < t → (succs g u)[i]? = some y → vis y = true
theorem Scan.init (g : List (List Int)) (vis : Nat → Bool) : Scan g vis (List.replicate g.length 0) :=
  ⟨by simp, fun u t ht => by
    obtain ⟨_, rfl⟩ := List.mem_replicate.1 (List.mem_of_getElem? ht)
    exact ⟨Nat.zero_le _, fun i y hi => by omega⟩⟩
theorem Scan.more {g : List (List Int)} {vis vis' : Nat → Bool} {tr : List Nat} (h : Scan g vis tr) (hv : ∀ i, vis i = true → vis' i = true) {u j : Nat} (hj : j ≤ (succs g u).length) (hs : ∀ (i y : Nat), i < j → (succs g u)[i]? = some y → vis' y = true) : Scan g vis' (tr.set u j) := by
  refine ⟨by simp [h.1], fun x t ht => ?_⟩
  by_cases e : u = x
  · subst e
    rw [List.getElem?_set_self (by have := (List.getElem?_eq_some_iff.1 ht).1; simpa using this)] at ht
    injection ht with ht
    subst ht
    exact ⟨hj, hs⟩
  · rw [List.getElem?_set_ne e] at ht
    obtain ⟨h1, h2⟩ := h.2 x t ht
    exact ⟨h1, fun i y hi hy => hv _ (h2 i y hi hy)⟩

/-- A function that is called for each node that is left: J F out w: what it keeps, in the blocks F, when the nodes out have been left. -/
structure Leave (n : Nat) (f : FuncId) (cap : Value) (J : List Nat → List Nat → World → Prop) : Prop where
  call : ∀ F out W u, J F out W → u < n → out.length < 131072 → Calls Try.prog f #[.int .i64 (u : Nat), cap] W fun en W' => en = .returned (.tuple #[]) ∧ ∃ F', J F' (out ++ [u]) W' ∧ Frm W W' F ∧ ∀ x ∈ F', x ∈ F ∨ W.heap.size ≤ x
  frm : ∀ F out W W' S, J F out W → Frm W W' S → (∀ x ∈ F, x ∉ S) → J F out W'
  lt : ∀ F out W, J F out W → ∀ x ∈ F, x < W.heap.size

/-- The search in memory; w1: the world when it began. -/
structure DfsAt (J : List Nat → List Nat → World → Prop) (w1 : World) (F0 : List Nat) (n Bs tb : Nat) (wr : World) (s : Dfs) (tr ws : List Nat) (pv : Value) (F : List Nat) : Prop where
  set : SetAt wr Bs n ws
  bits : ∀ i, bit ws i = s.vis i
  tried : Own wr w1.heap.size 3 .i64 (.slice (some ⟨tb, 0, none⟩) n n) (ints tr)
  path : Own wr w1.heap.size 3 .i64 pv (ints s.path.reverse)
  cb : J F s.out wr
  frm : Frm w1 wr F0
  far : ∀ x ∈ F, x ∈ F0 ∨ w1.heap.size ≤ x
  bs : w1.heap.size ≤ Bs
  a1 : Bs ∉ F ∧ Bs + 1 ∉ F ∧ tb ∉ F
  a2 : tb ≠ Bs ∧ tb ≠ Bs + 1
  a3 : ∀ x, pv.ownBlock = some x → x ∉ F ∧ x ≠ Bs ∧ x ≠ Bs + 1 ∧ x ≠ tb
section
variable {J : List Nat → List Nat → World → Prop} {w1 : World} {F0 : List Nat} {n Bs tb : Nat} {wr w' : World} {s : Dfs} {tr ws : List Nat} {pv : Value} {F : List Nat} {f : FuncId} {cap : Value}
theorem DfsAt.tb_le (h : DfsAt J w1 F0 n Bs tb wr s tr ws pv F) : w1.heap.size ≤ tb ∧ tb < wr.heap.size := h.tried.size tb rfl
/-- A read, a draw. -/
theorem DfsAt.still (L : Leave n f cap J) (h : DfsAt J w1 F0 n Bs tb wr s tr ws pv F) (hf : Frm wr w' []) : DfsAt J w1 F0 n Bs tb w' s tr ws pv F :=
  ⟨h.set.frm hf (by simp) (by simp), h.bits, h.tried.frmS hf (fun _ _ => by simp), h.path.frmS hf (fun _ _ => by simp), L.frm _ _ _ _ _ h.cb hf (by simp), h.frm.trans' hf (by simp), h.far, h.bs, h.a1, h.a2, h.a3⟩
/-- tried[u] turned. -/
theorem DfsAt.turn (L : Leave n f cap J) (h : DfsAt J w1 F0 n Bs tb wr s tr ws pv F) (u j : Nat) : DfsAt J w1 F0 n Bs tb (wr.setCell ⟨tb, u, none⟩ (.int .i64 (j : Nat))) s (tr.set u j) ws pv F := by
  have hf : Frm wr (wr.setCell ⟨tb, u, none⟩ (.int .i64 (j : Nat))) [tb] := (Frm.refl wr [tb]).setCell _ _ (.inl (by simp))
  have ht := h.tried.set u (j : Int)
  rw [ints_set] at ht
  refine ⟨h.set.frm hf (by simp; exact fun e => h.a2.1 e.symm) (by simp; exact fun e => h.a2.2 e.symm), h.bits, ht, h.path.frmS hf (fun x hx => by simp; exact (h.a3 x hx).2.2.2), L.frm _ _ _ _ _ h.cb hf (fun x hx => by simp; rintro rfl; exact h.a1.2.2 hx), h.frm.trans' hf (fun x hx => by rw [List.mem_singleton.1 hx]; exact .inr h.tb_le.1), h.far, h.bs, h.a1, h.a2, h.a3⟩
/-- Someone visited anew. -/
theorem DfsAt.visit (L : Leave n f cap J) (h : DfsAt J w1 F0 n Bs tb wr s tr ws pv F) {us : List Nat} {x : Nat} (hs : SetAt w' Bs n us) (hb : ∀ j, bit us j = (decide (j = x) || bit ws j)) (hf : Frm wr w' [Bs]) :
    DfsAt J w1 F0 n Bs tb w' ⟨fun i => s.vis i || i == x, s.path, s.out⟩ tr us pv F :=
  ⟨hs, fun i => by rw [hb, h.bits, Bool.or_comm]; rfl, h.tried.frmS hf (fun y hy => by
    have e : y = tb := by simpa [Value.ownBlock] using hy.symm
    rw [e, List.mem_singleton]
    exact h.a2.1), h.path.frmS hf (fun y hy => by simp; exact (h.a3 y hy).2.1), L.frm _ _ _ _ _ h.cb hf (fun y hy => by simp; rintro rfl; exact h.a1.1 hy), h.frm.trans' hf (fun y hy => by rw [List.mem_singleton.1 hy]; exact .inr h.bs), h.far, h.bs, h.a1, h.a2, h.a3⟩
/-- The path grown by one. -/
theorem DfsAt.push (L : Leave n f cap J) (h : DfsAt J w1 F0 n Bs tb wr s tr ws pv F) {x : Nat} {pv' : Value} (ho : Own w' w1.heap.size 3 .i64 pv' (ints s.path.reverse ++ [(x : Int)])) (hf : Frm wr w' pv.ownBlock.toList) (hb : pv'.ownBlock = pv.ownBlock ∨ ∀ y, pv'.ownBlock = some y → wr.heap.size ≤ y) :
    DfsAt J w1 F0 n Bs tb w' ⟨s.vis, x :: s.path, s.out⟩ tr ws pv' F := by
  have hap : ∀ y, y ∈ pv.ownBlock.toList → y ∉ F ∧ y ≠ Bs ∧ y ≠ Bs + 1 ∧ y ≠ tb := fun y hy => h.a3 y (by simpa using hy)
  have hlt := h.set.lt
  have htb := h.tb_le
  refine ⟨h.set.frm hf (fun e => (hap _ e).2.1 rfl) (fun e => (hap _ e).2.2.1 rfl), h.bits, h.tried.frmS hf (fun y hy hy2 => (hap _ hy2).2.2.2 (by simpa [Value.ownBlock] using hy.symm)), ?_, L.frm _ _ _ _ _ h.cb hf (fun y hy hy2 => (hap _ hy2).1 hy), h.frm.trans' hf (fun y hy => .inr (h.path.size y (by simpa using hy)).1), h.far, h.bs, h.a1, h.a2, fun y hy => ?_⟩
  · have e : ints (x :: s.path).reverse = ints s.path.reverse ++ [(x : Int)] := by simp [ints]
    show Own w' _ _ _ pv' (ints (x :: s.path).reverse)
    rw [e]; exact ho
  · rcases hb with e | e
    · exact h.a3 y (by rw [← e]; exact hy)
    · have h1 := e y hy
      refine ⟨fun hF => ?_, by omega, by omega, by omega⟩
      have := L.lt _ _ _ h.cb y hF
      omega
/-- A node left: the function called, the path cut. -/
theorem DfsAt.leave {u g c : Nat} (h : DfsAt J w1 F0 n Bs tb wr ⟨s.vis, u :: s.path, s.out⟩ tr ws (.slice (some ⟨g, 0, none⟩) (s.path.length + 1) c) F) {F' : List Nat} (hJ : J F' (s.out ++ [u]) w') (hf : Frm wr w' F) (hF : ∀ x ∈ F', x ∈ F ∨ wr.heap.size ≤ x) :
    DfsAt J w1 F0 n Bs tb w' ⟨s.vis, s.path, s.out ++ [u]⟩ tr ws (.slice (some ⟨g, 0, none⟩) s.path.length c) F' := by
  have hlt := h.set.lt
  have htb := h.tb_le
  have hp := h.path.size g rfl
  have ha3 := h.a3 g rfl
  refine ⟨h.set.frm hf h.a1.1 h.a1.2.1, h.bits, h.tried.frmS hf (fun y hy hy2 => by
    have e : y = tb := by simpa [Value.ownBlock] using hy.symm
    exact h.a1.2.2 (e ▸ hy2)), ?_, hJ, h.frm.trans' hf h.far, fun x hx => ?_, h.bs, ⟨fun e => ?_, fun e => ?_, fun e => ?_⟩, h.a2, fun y hy => ?_⟩
  · have e : ints (u :: s.path).reverse = ints s.path.reverse ++ [(u : Int)] := by simp [ints]
    have h1 := h.path.frmS hf (fun y hy hy2 => by
      have e : y = g := by simpa [Value.ownBlock] using hy.symm
      exact ha3.1 (e ▸ hy2))
    have h2 : Own w' w1.heap.size 3 .i64 (.slice (some ⟨g, 0, none⟩) (s.path.length + 1) c) (ints s.path.reverse ++ [(u : Int)]) := by rw [← e]; exact h1
    exact h2.pop
  · rcases hF x hx with h1 | h1
    · exact h.far x h1
    · exact .inr (Nat.le_trans h.frm.size h1)
  · rcases hF _ e with h1 | h1
    · exact h.a1.1 h1
    · omega
  · rcases hF _ e with h1 | h1
    · exact h.a1.2.1 h1
    · omega
  · rcases hF _ e with h1 | h1
    · exact h.a1.2.2 h1
    · omega
  · have e : y = g := by simpa [Value.ownBlock] using hy.symm
    subst e
    refine ⟨fun e => ?_, ha3.2⟩
    rcases hF _ e with h1 | h1
    · exact ha3.1 h1
    · omega
end
end Go.Proofs.Ytaehfohljblmoaa

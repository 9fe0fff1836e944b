/-
  OpcodeOnce, layer 12 (opcode).
-/
import Derived.Test.YtnhaanjpcnnifaaDoorOpR
import Derived.Test.YtnhaanjpcnnifaaDoorOpN
namespace Go.Proofs.YtnhaanjpcnnifaaDoor
open Go.RowKit

/-- The three boxes of the law. -/
structure BoxS (w wn : World) (I F M : Array Value) : Prop where
  i : Whole wn w.heap.size 78 I
  f : Whole wn (w.heap.size + 1) 28 F
  m : Whole wn (w.heap.size + 2) 32 M
  b : Below w.heap.size w wn
theorem BoxS.next {w wn wm : World} {I F M : Array Value} (h : BoxS w wn I F M) (hb : Below wn.heap.size wn wm) : BoxS w wm I F M :=
  ⟨h.i.below' hb, h.f.below' hb, h.m.below' hb, h.b.trans (hb.mono h.b.size)⟩
theorem chk_zero {a b c d e f g h i : Bool} (hz : chkM a b c d e f g h i = 0) : a = true ∧ b = false ∧ c = true ∧ d = true ∧ e = true ∧ f = true ∧ g = true ∧ h = true ∧ i = true := by
  unfold chkM at hz
  repeat (split at hz; · exact absurd hz (by decide))
  simp_all
/-- What an accepted instruction keeps to. -/
structure Acc (op ty dst imm sym el : Int) (nw : Bool) (l rl : List Int) (gn : Nat) (fs : List FD) : Prop where
  isop : isOp op = true
  hdst : dstM op ty dst rl = true
  regs : regsM l dst rl.length = true
  short : ∀ l' : List Int, l'.length + 1 = l.length → checkA op ty dst imm sym el nw l' rl gn fs = 3
  bad : ∀ l' : List Int, l'.length = l.length → (∀ d, regsM l' d rl.length = false) → checkA op ty dst imm sym el nw l' rl gn fs = 10
  reg : ∀ d : Int, (∀ l', regsM l' d rl.length = false) → checkA op ty d imm sym el nw l rl gn fs = 10
  types : ∀ rl' : List Int, dstM op ty dst rl' = false → checkA op ty dst imm sym el nw l rl' gn fs ≠ 0
theorem cntB_step {k n : Nat} (h : cntB k (n + 1) = true) : cntB k n = false := by
  unfold cntB at h ⊢
  split at h
  · rename_i hk; rw [if_pos hk]; simp at h ⊢; omega
  · rename_i hk; rw [if_neg hk]; simp at h ⊢; omega
theorem acc_of {op ty dst imm sym el : Int} {nw : Bool} {l rl : List Int} {gn : Nat} {fs : List FD} (h : checkA op ty dst imm sym el nw l rl gn fs = 0) : Acc op ty dst imm sym el nw l rl gn fs := by
  by_cases h30 : op = 30
  · subst h30
    unfold checkA at h
    rw [if_pos rfl] at h
    have hst : ¬ (if strayM 30 imm sym el nw then (3 : Int) else 8) = 0 := by split <;> decide
    split at h
    · rename_i h0
      cases hs : fs[sym.toNat]? with
      | none => rw [hs] at h; exact absurd h hst
      | some d =>
        rw [hs] at h
        have e : ∀ (d' : Int) (l' rl' : List Int), checkA 30 ty d' imm sym el nw l' rl' gn fs = checkC ty d' imm el nw l' rl' sym.toNat gn fs.length d := fun d' l' rl' => by
          unfold checkA; rw [if_pos rfl, if_pos h0, hs]
        obtain ⟨_, g1, g2, g3, g4, g5, g6, _, _⟩ := chk_zero h
        refine ⟨rfl, g6, g4, fun l' hl => ?_, fun l' hl hr => ?_, fun d' hr => ?_, fun rl' hr => ?_⟩
        · rw [e]; unfold checkC; simp only [chkM, g1, g2]
          have : decide (l'.length = d.pl.length) = false := by simp at g3 ⊢; omega
          rw [this]; rfl
        · rw [e]; unfold checkC; rw [hl, hr]; simp only [chkM, g1, g2, g3]; rfl
        · rw [e]; unfold checkC; rw [hr]; simp only [chkM, g1, g2, g3]; rfl
        · rw [e]; intro hz
          have := (chk_zero hz).2.2.2.2.2.2.1
          rw [hr] at this; cases this
    · exact absurd h hst
  · have e : ∀ (d' : Int) (l' rl' : List Int), checkA op ty d' imm sym el nw l' rl' gn fs = checkM op ty d' imm sym el nw l' rl' gn fs.length := fun d' l' rl' => by
      unfold checkA; rw [if_neg h30]
    rw [e] at h
    obtain ⟨g0, g1, g2, g3, g4, g5, g6, _, _⟩ := chk_zero h
    refine ⟨g0, g6, g4, fun l' hl => ?_, fun l' hl hr => ?_, fun d' hr => ?_, fun rl' hr => ?_⟩
    · rw [e]; unfold checkM; simp only [chkM, g0, g1, g2]
      rw [cntB_step (by rw [hl]; exact g3)]; rfl
    · rw [e]; unfold checkM; rw [hl, hr]; simp only [chkM, g0, g1, g2, g3]; rfl
    · rw [e]; unfold checkM; rw [hr]; simp only [chkM, g0, g1, g2, g3]; rfl
    · rw [e]; intro hz
      have := (chk_zero hz).2.2.2.2.2.2.1
      rw [hr] at this; cases this
theorem neg_check {op ty dst imm sym el : Int} {nw : Bool} {l rl : List Int} {gn : Nat} {fs : List FD} (h : isOp op = true) : checkA (-op) ty dst imm sym el nw l rl gn fs = 8 := by
  have h' : 1 ≤ op ∧ op ≤ 33 := by simpa [isOp] using h
  unfold checkA
  rw [if_neg (by omega)]
  have : isOp (-op) = false := by simp [isOp]; omega
  unfold checkM
  simp only [chkM, this]; rfl

theorem BoxS.far {w wn : World} {I F M : Array Value} (h : BoxS w wn I F M) {p : Addr} (hp : w.heap.size + 2 < p.block) (u : Value) : BoxS w (wn.setCell p u) I F M :=
  ⟨h.i.far (by omega) u, h.f.far (by omega) u, h.m.far (by omega) u, h.b.setCell (by omega) u⟩
theorem BoxS.alloc {w wn : World} {I F M : Array Value} (h : BoxS w wn I F M) (ob : Obj) : BoxS w (wn.alloc ob) I F M := h.next ((Below.refl _ _).alloc (Nat.le_refl _) _)
def RowAt (cur : Array Value) (l : List Int) (cap : Nat) : Prop := l.length ≤ cap ∧ cap ≤ maxLen ∧ cur.size = cap ∧ cur.toList.take l.length = l.map (Value.int .i64)
theorem own_row {w : World} {base : Nat} {e : TypeId} {v : Value} {l : List Int} (h : Own w base e .i64 v l) (hn : 0 < l.length) : ∃ g cap cur, v = .slice (some ⟨g, 0, none⟩) l.length cap ∧ base ≤ g ∧ Whole w g e cur ∧ RowAt cur l cap := by
  obtain ⟨_, h | ⟨g, cap, cur, e1, e2, e3, e4, e5, e6, e7⟩⟩ := h
  · omega
  · exact ⟨g, cap, cur, e1, e2, e3, e4, e5, by simpa using e6, by simpa using e7⟩
theorem row_rd {w : World} {g : Nat} {e : TypeId} {cur : Array Value} {l : List Int} {cap : Nat} (hw : Whole w g e cur) (h : RowAt cur l cap) : Rd w .i64 (.slice (some ⟨g, 0, none⟩) l.length cap) l := by
  obtain ⟨h1, h2, h3, h4⟩ := h
  refine ⟨_, _, rfl, h1, h2, fun _ => ⟨g, 0, rfl, hw.lt, fun j z hz => ?_⟩⟩
  rw [hw.cell, Nat.zero_add]
  have h5 := congrArg (·[j]?) h4
  have hj : j < l.length := (List.getElem?_eq_some_iff.1 hz).1
  simp only [List.getElem?_take, if_pos hj, List.getElem?_map, hz, Option.map_some, Array.getElem?_toList] at h5
  exact h5
theorem row_set {cur : Array Value} {l : List Int} {cap : Nat} (h : RowAt cur l cap) (i : Nat) (z : Int) : RowAt (cur.setIfInBounds i (.int .i64 z)) (l.set i z) cap := by
  obtain ⟨h1, h2, h3, h4⟩ := h
  refine ⟨by simpa using h1, h2, by simpa using h3, ?_⟩
  rw [Array.toList_setIfInBounds, List.length_set, List.take_set, h4, List.map_set]
theorem BoxS.low {w wn wm : World} {I F M : Array Value} {B : Nat} (h : BoxS w wn I F M) (hb : Below B wn wm) (hB : w.heap.size + 2 < B) : BoxS w wm I F M :=
  ⟨h.i.below hb (by omega), h.f.below hb (by omega), h.m.below hb (by omega), h.b.trans (hb.mono (by omega))⟩
theorem infoInt : (Tryd.prog.info? 3).map (fun i => (i.zero, i.size, i.bytes)) = some (some (.int .i64 0), 1, 8) := by kernel_rfl
theorem intE : ElemI Tryd.prog 23 3 .i64 8 := ⟨Tryd.underlying23, Tryd.underlying3, info_parts infoInt⟩
theorem own_empty (w : World) (base : Nat) (e : TypeId) (k : IntKind) (hb : base ≤ w.heap.size) : Own (w.alloc (.cells #[] e)) base e k (.slice (some ⟨w.heap.size, 0, none⟩) 0 0) [] :=
  ⟨rfl, .inr ⟨_, 0, #[], rfl, hb, heap_alloc_new w _, Nat.le_refl _, Nat.zero_le _, rfl, rfl⟩⟩
end Go.Proofs.YtnhaanjpcnnifaaDoor

/-
  A function of the IR that the call itself made: its rows lie in blocks of the call's own; what stays of it when other blocks turn; what it says, without its addresses.
-/
import Derived.Test.YthnehmfdadgklaaDeepF
import Derived.Test.YthnehmfdadgklaaRowN
namespace Go.Proofs.Ythnehmfdadgklaa
open Go.RowKit

/-- Integers, as rows of one cell. -/
def intsN (k : IntKind) (l : List Int) : List (List Value) := l.map fun z => [.int k z]
theorem intsN_len (k : IntKind) (l : List Int) : (intsN k l).length = l.length := by simp [intsN]
theorem intsN_app (k : IntKind) (l m : List Int) : intsN k (l ++ m) = intsN k l ++ intsN k m := by simp [intsN]
theorem intsN_one (k : IntKind) (l : List Int) : ∀ r ∈ intsN k l, ∀ x ∈ r, x.oneCell' = true := by
  intro r hr x hx
  obtain ⟨z, _, rfl⟩ := List.mem_map.1 hr
  simp only [List.mem_singleton] at hx
  subst hx
  rfl
theorem Rd.toN {w : World} {k : IntKind} {v : Value} {l : List Int} (h : Rd w k v l) : RdN w 1 v (intsN k l) := by
  obtain ⟨A, c, rfl, h1, h2, h3⟩ := h
  refine ⟨fun r hr => by obtain ⟨z, _, rfl⟩ := List.mem_map.1 hr; rfl, A, c, by rw [intsN_len], by rw [intsN_len]; exact h1, h2, fun hn => ?_⟩
  obtain ⟨b, off, e, hb, hc⟩ := h3 (by rw [intsN_len] at hn; exact hn)
  refine ⟨b, off, e, hb, fun i j r z hr hz => ?_⟩
  simp only [intsN, List.getElem?_map] at hr
  obtain ⟨y, hy, rfl⟩ := Option.map_eq_some_iff.1 hr
  cases j with
  | zero =>
    simp only [List.getElem?_cons_zero, Option.some.injEq] at hz
    subst hz
    rw [Nat.mul_one, Nat.add_zero]
    exact hc i y hy
  | succ j => simp at hz
theorem RdN.toI {w : World} {k : IntKind} {v : Value} {l : List Int} (h : RdN w 1 v (intsN k l)) : Rd w k v l := RdV.toI (RdN.one (by rw [List.map_map]; exact h))
/-- The block in which a slice's cells lie, where it has any. -/
def slB (A : Option Addr) (n : Nat) : List Nat := match A with
  | some a => if n = 0 then [] else [a.block]
  | none => []
theorem slB_zero (A : Option Addr) : slB A 0 = [] := by cases A <;> rfl
theorem slB_nodup (A : Option Addr) (n : Nat) : (slB A n).Nodup := by
  cases A with
  | none => exact List.nodup_nil
  | some a => unfold slB; dsimp only; split <;> simp
theorem RdN.frmB {w w' : World} {m : Nat} {A : Option Addr} {n c : Nat} {rows : List (List Value)} {S : List Nat} (h : RdN w m (.slice A n c) rows) (hf : Frm w w' S) (hd : ∀ b ∈ slB A n, b ∉ S) : RdN w' m (.slice A n c) rows := by
  obtain ⟨hm, A', c', e, h1, h2, h3⟩ := h
  injection e with e1 e2 e3
  subst e1 e2 e3
  refine ⟨hm, A, c, rfl, h1, h2, fun hn => ?_⟩
  obtain ⟨b, off, rfl, hb, hc⟩ := h3 hn
  have hbS : b ∉ S := hd b (by simp only [slB]; rw [if_neg (by omega)]; simp)
  exact ⟨b, off, rfl, Nat.lt_of_lt_of_le hb hf.size, fun i j r z hr hz => (hf.cell (p := ⟨b, off + (i * m + j), none⟩) hb hbS).trans (hc i j r z hr hz)⟩
theorem Rd.frmB {w w' : World} {k : IntKind} {A : Option Addr} {n c : Nat} {l : List Int} {S : List Nat} (h : Rd w k (.slice A n c) l) (hf : Frm w w' S) (hd : ∀ b ∈ slB A n, b ∉ S) : Rd w' k (.slice A n c) l := RdN.toI (RdN.frmB h.toN hf hd)
theorem RdN.cut {w : World} {m : Nat} {A : Option Addr} {n c c' : Nat} {rows : List (List Value)} (h : RdN w m (.slice A n c) rows) (h1 : n ≤ c') (h2 : c' ≤ maxLen) : RdN w m (.slice A n c') rows := by
  obtain ⟨hm, A', d, e, _, _, h3⟩ := h
  injection e with e1 e2 e3
  subst e1 e2 e3
  exact ⟨hm, A, c', rfl, h1, h2, h3⟩
/-- The slice holds nothing, or is a row of the call's own, from block base on. -/
def Mine (w : World) (base : Nat) (e : TypeId) (m : Nat) (A : Option Addr) (n c : Nat) (rows : List (List Value)) : Prop := n = rows.length ∧ c ≤ maxLen ∧ (n = 0 ∨ ∃ c0, OwnN w base e m (.slice A n c0) rows)
section
variable {w w' : World} {base : Nat} {e : TypeId} {m : Nat} {A : Option Addr} {n c : Nat} {rows : List (List Value)} {S : List Nat}
theorem Mine.blk (h : Mine w base e m A n c rows) : ∀ b ∈ slB A n, base ≤ b ∧ b < w.heap.size := by
  intro b hb
  cases A with
  | none => cases hb
  | some a =>
    simp only [slB] at hb
    split at hb
    · cases hb
    · rename_i hn
      rcases h.2.2 with h | ⟨_, h⟩
      · exact absurd h hn
      · simp only [List.mem_singleton] at hb
        subst hb
        exact h.lt a.block rfl
theorem Mine.frm (h : Mine w base e m A n c rows) (hf : Frm w w' S) (hd : ∀ b ∈ slB A n, b ∉ S) : Mine w' base e m A n c rows := by
  refine ⟨h.1, h.2.1, ?_⟩
  rcases Nat.eq_zero_or_pos n with h0 | h0
  · exact .inl h0
  · rcases h.2.2 with h1 | ⟨c0, h1⟩
    · exact .inl h1
    · refine .inr ⟨c0, h1.frm hf (fun g hg => ?_)⟩
      cases A with
      | none => cases hg
      | some a =>
        have : a.block = g := by injection hg
        exact hd g (by simp only [slB]; rw [if_neg (by omega), this]; simp)
theorem Mine.low (h : Mine w base e m A n c rows) {b : Nat} (hb : b ≤ base) : Mine w b e m A n c rows := ⟨h.1, h.2.1, h.2.2.imp id (fun ⟨c0, h⟩ => ⟨c0, h.low hb⟩)⟩
theorem Mine.get (h : Mine w base e m A n c rows) (hn : 0 < n) : ∃ c0, OwnN w base e m (.slice A n c0) rows := by
  rcases h.2.2 with h | h
  · omega
  · exact h
theorem Mine.empty (w : World) (base : Nat) (e : TypeId) (m : Nat) (A : Option Addr) (c : Nat) (hc : c ≤ maxLen) : Mine w base e m A 0 c [] := ⟨rfl, hc, .inl rfl⟩
end
/-- The blocks of its rows. -/
def InD.fp (d : InD) : List Nat := slB d.argsA d.args.length
theorem InD.fp_args (d : InD) {b : Nat} (hb : b ∈ slB d.argsA d.args.length) : b ∈ d.fp := hb
theorem InD.ok.frm {w w' : World} {d : InD} {S : List Nat} (h : d.ok w) (hf : Frm w w' S) (hd : ∀ b ∈ d.fp, b ∉ S) : d.ok w' :=
  ⟨h.op, h.ty, h.dst, h.args.frmB hf (fun b hb => hd b (d.fp_args hb)), h.argsB, h.argsI, h.imm, h.sym, h.el⟩
/-- api.Instr made by the call itself. -/
structure InD.own (w : World) (base : Nat) (d : InD) : Prop where
  ok : d.ok w
  args : Mine w base 3 1 d.argsA d.args.length d.argsc (intsN .i64 d.args)
theorem InD.own.frm {w w' : World} {base : Nat} {d : InD} {S : List Nat} (h : d.own w base) (hf : Frm w w' S) (hd : ∀ b ∈ d.fp, b ∉ S) : d.own w' base :=
  ⟨h.ok.frm hf hd, h.args.frm hf (fun b hb => hd b (d.fp_args hb))⟩
theorem InD.own.low {w : World} {base b : Nat} {d : InD} (h : d.own w base) (hb : b ≤ base) : d.own w b :=
  ⟨h.ok, h.args.low hb⟩
theorem InD.own.blk {w : World} {base : Nat} {d : InD} (h : d.own w base) : ∀ b ∈ d.fp, base ≤ b ∧ b < w.heap.size := by
  intro b hb
  exact h.args.blk b hb
theorem InD.own.below' {w w' : World} {base : Nat} {d : InD} (h : d.own w base) (hb : Below w.heap.size w w') : d.own w' base := h.frm (S := []) (Frm.below hb) (fun _ _ => by simp)
/-- The blocks of its rows. -/
def EdD.fp (d : EdD) : List Nat := slB d.argsA d.args.length
theorem EdD.fp_args (d : EdD) {b : Nat} (hb : b ∈ slB d.argsA d.args.length) : b ∈ d.fp := hb
theorem EdD.ok.frm {w w' : World} {d : EdD} {S : List Nat} (h : d.ok w) (hf : Frm w w' S) (hd : ∀ b ∈ d.fp, b ∉ S) : d.ok w' :=
  ⟨h.blk, h.args.frmB hf (fun b hb => hd b (d.fp_args hb)), h.argsB, h.argsI⟩
/-- api.Edge made by the call itself. -/
structure EdD.own (w : World) (base : Nat) (d : EdD) : Prop where
  ok : d.ok w
  args : Mine w base 3 1 d.argsA d.args.length d.argsc (intsN .i64 d.args)
theorem EdD.own.frm {w w' : World} {base : Nat} {d : EdD} {S : List Nat} (h : d.own w base) (hf : Frm w w' S) (hd : ∀ b ∈ d.fp, b ∉ S) : d.own w' base :=
  ⟨h.ok.frm hf hd, h.args.frm hf (fun b hb => hd b (d.fp_args hb))⟩
theorem EdD.own.low {w : World} {base b : Nat} {d : EdD} (h : d.own w base) (hb : b ≤ base) : d.own w b :=
  ⟨h.ok, h.args.low hb⟩
theorem EdD.own.blk {w : World} {base : Nat} {d : EdD} (h : d.own w base) : ∀ b ∈ d.fp, base ≤ b ∧ b < w.heap.size := by
  intro b hb
  exact h.args.blk b hb
theorem EdD.own.below' {w w' : World} {base : Nat} {d : EdD} (h : d.own w base) (hb : Below w.heap.size w w') : d.own w' base := h.frm (S := []) (Frm.below hb) (fun _ _ => by simp)
/-- The blocks of its rows. -/
def TmD.fp (d : TmD) : List Nat := slB d.argsA d.args.length ++ (slB d.casesA d.cases.length ++ (slB d.succsA d.succs.length ++ (d.succs.flatMap EdD.fp)))
theorem TmD.fp_args (d : TmD) {b : Nat} (hb : b ∈ slB d.argsA d.args.length) : b ∈ d.fp := List.mem_append.2 (.inl hb)
theorem TmD.fp_cases (d : TmD) {b : Nat} (hb : b ∈ slB d.casesA d.cases.length) : b ∈ d.fp := List.mem_append.2 (.inr (List.mem_append.2 (.inl hb)))
theorem TmD.fp_succs (d : TmD) {b : Nat} (hb : b ∈ slB d.succsA d.succs.length) : b ∈ d.fp := List.mem_append.2 (.inr (List.mem_append.2 (.inr (List.mem_append.2 (.inl hb)))))
theorem TmD.fp_succsE (d : TmD) {b : Nat} (hb : b ∈ d.succs.flatMap EdD.fp) : b ∈ d.fp := List.mem_append.2 (.inr (List.mem_append.2 (.inr (List.mem_append.2 (.inr (hb))))))
theorem TmD.fp_succsM (d : TmD) {x : EdD} (hx : x ∈ d.succs) {b : Nat} (hb : b ∈ x.fp) : b ∈ d.fp := d.fp_succsE (List.mem_flatMap.2 ⟨x, hx, hb⟩)
theorem TmD.ok.frm {w w' : World} {d : TmD} {S : List Nat} (h : d.ok w) (hf : Frm w w' S) (hd : ∀ b ∈ d.fp, b ∉ S) : d.ok w' :=
  ⟨h.kind, h.args.frmB hf (fun b hb => hd b (d.fp_args hb)), h.argsB, h.argsI, h.cases.frmB hf (fun b hb => hd b (d.fp_cases hb)), h.casesB, h.casesI, h.succs.frmB hf (fun b hb => hd b (d.fp_succs hb)), h.succsB, fun e he => (h.succsO e he).frm hf (fun b hb => hd b (d.fp_succsM he hb)), h.sym⟩
/-- api.Terminator made by the call itself. -/
structure TmD.own (w : World) (base : Nat) (d : TmD) : Prop where
  ok : d.ok w
  args : Mine w base 3 1 d.argsA d.args.length d.argsc (intsN .i64 d.args)
  cases : Mine w base 2 1 d.casesA d.cases.length d.casesc (intsN .i64 d.cases)
  succs : Mine w base 56 2 d.succsA d.succs.length d.succsc (d.succs.map EdD.cells)
  succsO : ∀ e ∈ d.succs, e.own w base
theorem TmD.own.frm {w w' : World} {base : Nat} {d : TmD} {S : List Nat} (h : d.own w base) (hf : Frm w w' S) (hd : ∀ b ∈ d.fp, b ∉ S) : d.own w' base :=
  ⟨h.ok.frm hf hd, h.args.frm hf (fun b hb => hd b (d.fp_args hb)), h.cases.frm hf (fun b hb => hd b (d.fp_cases hb)), h.succs.frm hf (fun b hb => hd b (d.fp_succs hb)), fun e he => (h.succsO e he).frm hf (fun b hb => hd b (d.fp_succsM he hb))⟩
theorem TmD.own.low {w : World} {base b : Nat} {d : TmD} (h : d.own w base) (hb : b ≤ base) : d.own w b :=
  ⟨h.ok, h.args.low hb, h.cases.low hb, h.succs.low hb, fun e he => (h.succsO e he).low hb⟩
theorem TmD.own.blk {w : World} {base : Nat} {d : TmD} (h : d.own w base) : ∀ b ∈ d.fp, base ≤ b ∧ b < w.heap.size := by
  intro b hb
  rcases List.mem_append.1 hb with hb | hb
  · exact h.args.blk b hb
  rcases List.mem_append.1 hb with hb | hb
  · exact h.cases.blk b hb
  rcases List.mem_append.1 hb with hb | hb
  · exact h.succs.blk b hb
  obtain ⟨x, hx, hb⟩ := List.mem_flatMap.1 hb
  exact (h.succsO x hx).blk b hb
theorem TmD.own.below' {w w' : World} {base : Nat} {d : TmD} (h : d.own w base) (hb : Below w.heap.size w w') : d.own w' base := h.frm (S := []) (Frm.below hb) (fun _ _ => by simp)
/-- The blocks of its rows. -/
def BkD.fp (d : BkD) : List Nat := slB d.paramsA d.params.length ++ (slB d.insA d.ins.length ++ (d.ins.flatMap InD.fp ++ (d.term.fp)))
theorem BkD.fp_params (d : BkD) {b : Nat} (hb : b ∈ slB d.paramsA d.params.length) : b ∈ d.fp := List.mem_append.2 (.inl hb)
theorem BkD.fp_ins (d : BkD) {b : Nat} (hb : b ∈ slB d.insA d.ins.length) : b ∈ d.fp := List.mem_append.2 (.inr (List.mem_append.2 (.inl hb)))
theorem BkD.fp_insE (d : BkD) {b : Nat} (hb : b ∈ d.ins.flatMap InD.fp) : b ∈ d.fp := List.mem_append.2 (.inr (List.mem_append.2 (.inr (List.mem_append.2 (.inl hb)))))
theorem BkD.fp_term (d : BkD) {b : Nat} (hb : b ∈ d.term.fp) : b ∈ d.fp := List.mem_append.2 (.inr (List.mem_append.2 (.inr (List.mem_append.2 (.inr (hb))))))
theorem BkD.fp_insM (d : BkD) {x : InD} (hx : x ∈ d.ins) {b : Nat} (hb : b ∈ x.fp) : b ∈ d.fp := d.fp_insE (List.mem_flatMap.2 ⟨x, hx, hb⟩)
theorem BkD.ok.frm {w w' : World} {d : BkD} {S : List Nat} (h : d.ok w) (hf : Frm w w' S) (hd : ∀ b ∈ d.fp, b ∉ S) : d.ok w' :=
  ⟨h.params.frmB hf (fun b hb => hd b (d.fp_params hb)), h.paramsB, h.paramsI, h.ins.frmB hf (fun b hb => hd b (d.fp_ins hb)), h.insB, fun e he => (h.insO e he).frm hf (fun b hb => hd b (d.fp_insM he hb)), h.term.frm hf (fun b hb => hd b (d.fp_term hb))⟩
/-- api.Block made by the call itself. -/
structure BkD.own (w : World) (base : Nat) (d : BkD) : Prop where
  ok : d.ok w
  params : Mine w base 3 1 d.paramsA d.params.length d.paramsc (intsN .i64 d.params)
  ins : Mine w base 70 8 d.insA d.ins.length d.insc (d.ins.map InD.cells)
  insO : ∀ e ∈ d.ins, e.own w base
  term : d.term.own w base
theorem BkD.own.frm {w w' : World} {base : Nat} {d : BkD} {S : List Nat} (h : d.own w base) (hf : Frm w w' S) (hd : ∀ b ∈ d.fp, b ∉ S) : d.own w' base :=
  ⟨h.ok.frm hf hd, h.params.frm hf (fun b hb => hd b (d.fp_params hb)), h.ins.frm hf (fun b hb => hd b (d.fp_ins hb)), fun e he => (h.insO e he).frm hf (fun b hb => hd b (d.fp_insM he hb)), h.term.frm hf (fun b hb => hd b (d.fp_term hb))⟩
theorem BkD.own.low {w : World} {base b : Nat} {d : BkD} (h : d.own w base) (hb : b ≤ base) : d.own w b :=
  ⟨h.ok, h.params.low hb, h.ins.low hb, fun e he => (h.insO e he).low hb, h.term.low hb⟩
theorem BkD.own.blk {w : World} {base : Nat} {d : BkD} (h : d.own w base) : ∀ b ∈ d.fp, base ≤ b ∧ b < w.heap.size := by
  intro b hb
  rcases List.mem_append.1 hb with hb | hb
  · exact h.params.blk b hb
  rcases List.mem_append.1 hb with hb | hb
  · exact h.ins.blk b hb
  rcases List.mem_append.1 hb with hb | hb
  · obtain ⟨x, hx, hb⟩ := List.mem_flatMap.1 hb
    exact (h.insO x hx).blk b hb
  exact h.term.blk b hb
theorem BkD.own.below' {w w' : World} {base : Nat} {d : BkD} (h : d.own w base) (hb : Below w.heap.size w w') : d.own w' base := h.frm (S := []) (Frm.below hb) (fun _ _ => by simp)
/-- The blocks of its rows. -/
def FnD.fp (d : FnD) : List Nat := slB d.paramsA d.params.length ++ (slB d.regsA d.regs.length ++ (slB d.blocksA d.blocks.length ++ (d.blocks.flatMap BkD.fp)))
theorem FnD.fp_params (d : FnD) {b : Nat} (hb : b ∈ slB d.paramsA d.params.length) : b ∈ d.fp := List.mem_append.2 (.inl hb)
theorem FnD.fp_regs (d : FnD) {b : Nat} (hb : b ∈ slB d.regsA d.regs.length) : b ∈ d.fp := List.mem_append.2 (.inr (List.mem_append.2 (.inl hb)))
theorem FnD.fp_blocks (d : FnD) {b : Nat} (hb : b ∈ slB d.blocksA d.blocks.length) : b ∈ d.fp := List.mem_append.2 (.inr (List.mem_append.2 (.inr (List.mem_append.2 (.inl hb)))))
theorem FnD.fp_blocksE (d : FnD) {b : Nat} (hb : b ∈ d.blocks.flatMap BkD.fp) : b ∈ d.fp := List.mem_append.2 (.inr (List.mem_append.2 (.inr (List.mem_append.2 (.inr (hb))))))
theorem FnD.fp_blocksM (d : FnD) {x : BkD} (hx : x ∈ d.blocks) {b : Nat} (hb : b ∈ x.fp) : b ∈ d.fp := d.fp_blocksE (List.mem_flatMap.2 ⟨x, hx, hb⟩)
theorem FnD.ok.frm {w w' : World} {d : FnD} {S : List Nat} (h : d.ok w) (hf : Frm w w' S) (hd : ∀ b ∈ d.fp, b ∉ S) : d.ok w' :=
  ⟨h.nm, h.params.frmB hf (fun b hb => hd b (d.fp_params hb)), h.paramsB, h.paramsI, h.res, h.regs.frmB hf (fun b hb => hd b (d.fp_regs hb)), h.regsB, h.regsI, h.blocks.frmB hf (fun b hb => hd b (d.fp_blocks hb)), h.blocksB, fun e he => (h.blocksO e he).frm hf (fun b hb => hd b (d.fp_blocksM he hb))⟩
/-- api.Func made by the call itself. -/
structure FnD.own (w : World) (base : Nat) (d : FnD) : Prop where
  ok : d.ok w
  params : Mine w base 3 1 d.paramsA d.params.length d.paramsc (intsN .i64 d.params)
  regs : Mine w base 23 1 d.regsA d.regs.length d.regsc (intsN .i64 d.regs)
  blocks : Mine w base 54 7 d.blocksA d.blocks.length d.blocksc (d.blocks.map BkD.cells)
  blocksO : ∀ e ∈ d.blocks, e.own w base
theorem FnD.own.frm {w w' : World} {base : Nat} {d : FnD} {S : List Nat} (h : d.own w base) (hf : Frm w w' S) (hd : ∀ b ∈ d.fp, b ∉ S) : d.own w' base :=
  ⟨h.ok.frm hf hd, h.params.frm hf (fun b hb => hd b (d.fp_params hb)), h.regs.frm hf (fun b hb => hd b (d.fp_regs hb)), h.blocks.frm hf (fun b hb => hd b (d.fp_blocks hb)), fun e he => (h.blocksO e he).frm hf (fun b hb => hd b (d.fp_blocksM he hb))⟩
theorem FnD.own.low {w : World} {base b : Nat} {d : FnD} (h : d.own w base) (hb : b ≤ base) : d.own w b :=
  ⟨h.ok, h.params.low hb, h.regs.low hb, h.blocks.low hb, fun e he => (h.blocksO e he).low hb⟩
theorem FnD.own.blk {w : World} {base : Nat} {d : FnD} (h : d.own w base) : ∀ b ∈ d.fp, base ≤ b ∧ b < w.heap.size := by
  intro b hb
  rcases List.mem_append.1 hb with hb | hb
  · exact h.params.blk b hb
  rcases List.mem_append.1 hb with hb | hb
  · exact h.regs.blk b hb
  rcases List.mem_append.1 hb with hb | hb
  · exact h.blocks.blk b hb
  obtain ⟨x, hx, hb⟩ := List.mem_flatMap.1 hb
  exact (h.blocksO x hx).blk b hb
theorem FnD.own.below' {w w' : World} {base : Nat} {d : FnD} (h : d.own w base) (hb : Below w.heap.size w w') : d.own w' base := h.frm (S := []) (Frm.below hb) (fun _ _ => by simp)
/-- What they say, without their addresses. -/
structure InP where
  op : Int
  ty : Int
  dst : Int
  args : List Int
  imm : Int
  sym : Int
  el : Int
  nw : Bool
structure EdP where
  blk : Int
  args : List Int
structure TmP where
  kind : Int
  args : List Int
  cases : List Int
  succs : List EdP
  sym : Int
structure BkP where
  params : List Int
  ins : List InP
  term : TmP
structure FnP where
  nm : ByteArray
  params : List Int
  res : Int
  regs : List Int
  blocks : List BkP
def InD.pure (d : InD) : InP := ⟨d.op, d.ty, d.dst, d.args, d.imm, d.sym, d.el, d.nw⟩
def EdD.pure (d : EdD) : EdP := ⟨d.blk, d.args⟩
def TmD.pure (d : TmD) : TmP := ⟨d.kind, d.args, d.cases, d.succs.map EdD.pure, d.sym⟩
def BkD.pure (d : BkD) : BkP := ⟨d.params, d.ins.map InD.pure, d.term.pure⟩
def FnD.pure (d : FnD) : FnP := ⟨d.nm, d.params, d.res, d.regs, d.blocks.map BkD.pure⟩
/-- The registers renamed. -/
def InP.re (r : Int → Int) (d : InP) : InP := { d with dst := r d.dst, args := d.args.map r }
def EdP.re (r : Int → Int) (d : EdP) : EdP := { d with args := d.args.map r }
def TmP.re (r : Int → Int) (d : TmP) : TmP := { d with args := d.args.map r, succs := d.succs.map (EdP.re r) }
def BkP.re (r : Int → Int) (d : BkP) : BkP := ⟨d.params.map r, d.ins.map (InP.re r), d.term.re r⟩
def FnP.re (r : Int → Int) (d : FnP) : FnP := { d with params := d.params.map r, blocks := d.blocks.map (BkP.re r) }
end Go.Proofs.Ythnehmfdadgklaa

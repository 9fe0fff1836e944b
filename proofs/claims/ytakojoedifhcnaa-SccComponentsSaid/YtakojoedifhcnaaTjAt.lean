/-
  Layer 7 (scc): Tarjan's search in memory; its three closures.
-/
import Derived.Test.YtakojoedifhcnaaTarjan
import Derived.Test.YtakojoedifhcnaaMade
import Derived.Deep.RegionHeld3
import Derived.Deep.QuietTactic
import Derived.BigQuiet
import Derived.StillTailTactics
namespace Go.Proofs.Ytakojoedifhcnaa
open Go.RowKit

def ints (l : List Nat) : List Int := l.map fun (x : Nat) => (x : Int)
theorem ints_len (l : List Nat) : (ints l).length = l.length := by simp [ints]
theorem ints_get (l : List Nat) (j : Nat) : (ints l)[j]? = (l[j]?).map fun (x : Nat) => (x : Int) := by simp [ints]
theorem ints_snoc (l : List Nat) (x : Nat) : ints (l ++ [x]) = ints l ++ [(x : Int)] := by simp [ints]
/-- The values of a function on the first n numbers. -/
def fl (n : Nat) (f : Nat → Nat) : List Int := (List.range n).map fun i => (f i : Int)
theorem fl_len (n : Nat) (f : Nat → Nat) : (fl n f).length = n := by simp [fl]
theorem fl_get {n i : Nat} (f : Nat → Nat) (h : i < n) : (fl n f)[i]? = some (f i : Int) := by simp [fl, h]
theorem fl_set {n x : Nat} {f h : Nat → Nat} {v : Nat} (hv : h x = v) (hh : ∀ j, j ≠ x → h j = f j) : (fl n f).set x (v : Int) = fl n h := by
  apply List.ext_getElem?
  intro i
  by_cases hi : i < n
  · rw [fl_get h hi]
    by_cases e : x = i
    · subst e; rw [List.getElem?_set_self (by rw [fl_len]; exact hi), hv]
    · rw [List.getElem?_set_ne e, fl_get f hi, hh i (fun c => e c.symm)]
  · rw [List.getElem?_eq_none (by rw [List.length_set, fl_len]; omega), List.getElem?_eq_none (by rw [fl_len]; omega)]
theorem rd_at {w : World} {A : Option Addr} {c : Nat} {l : List Int} {n : Nat} (h : Rd w .i64 (.slice A n c) l) {k : Nat} {x : Int} (hx : l[k]? = some x) : ∃ b off, A = some ⟨b, off, none⟩ ∧ b < w.heap.size ∧ w.cell? ⟨b, off + k, none⟩ = some (.int .i64 x) := by
  have := h.toV.at k (.int .i64 x) (by rw [List.getElem?_map, hx]; rfl)
  exact this

/-- The search in memory: from block q on: closed, entered, turn's row and cell, low's, first's, open's cell; ov: open's row. -/
structure TjAt (w : World) (q N : Nat) (s : Tj) (ov : Value) : Prop where
  bc : Whole w q 3 #[.int .i64 ((N : Int) + 1)]
  be : Whole w (q + 1) 3 #[.int .i64 (s.cn : Nat)]
  rt : Own w q 3 .i64 (.slice (some ⟨q + 2, 0, none⟩) N N) (fl N s.turn)
  bt : Whole w (q + 3) 29 #[.slice (some ⟨q + 2, 0, none⟩) N N]
  rl : Own w q 3 .i64 (.slice (some ⟨q + 4, 0, none⟩) N N) (fl N s.low)
  bl : Whole w (q + 5) 29 #[.slice (some ⟨q + 4, 0, none⟩) N N]
  rf : Own w q 3 .i64 (.slice (some ⟨q + 6, 0, none⟩) N N) (fl N s.first)
  bf : Whole w (q + 7) 29 #[.slice (some ⟨q + 6, 0, none⟩) N N]
  bo : Whole w (q + 8) 29 #[ov]
  ro : Own w q 3 .i64 ov (ints s.opn)
  far : ∀ x, ov.ownBlock = some x → q + 9 ≤ x
section
variable {w w' : World} {q N : Nat} {s : Tj} {ov : Value} {S : List Nat}
theorem TjAt.frm (h : TjAt w q N s ov) (hf : Frm w w' S) (hS : ∀ x ∈ S, x < q ∨ q + 9 ≤ x) (ho : ∀ x, ov.ownBlock = some x → x ∉ S) : TjAt w' q N s ov := by
  have k : ∀ d, d < 9 → q + d ∉ S := fun d hd hm => by rcases hS _ hm with h | h <;> omega
  have own : ∀ d, d < 9 → ∀ x, (Value.slice (some ⟨q + d, 0, none⟩) N N).ownBlock = some x → x ∉ S := fun d hd x hx => by
    have e : x = q + d := by simpa [Value.ownBlock] using hx.symm
    rw [e]; exact k d hd
  exact ⟨h.bc.frm hf (k 0 (by omega)), h.be.frm hf (k 1 (by omega)), h.rt.frmS hf (own 2 (by omega)), h.bt.frm hf (k 3 (by omega)), h.rl.frmS hf (own 4 (by omega)), h.bl.frm hf (k 5 (by omega)), h.rf.frmS hf (own 6 (by omega)), h.bf.frm hf (k 7 (by omega)), h.bo.frm hf (k 8 (by omega)), h.ro.frmS hf ho, h.far⟩
theorem TjAt.still (h : TjAt w q N s ov) (hf : Frm w w' []) : TjAt w' q N s ov := h.frm hf (by simp) (by simp)
theorem TjAt.size (h : TjAt w q N s ov) : q + 8 < w.heap.size := h.bo.lt
end
def Tj.mark (s : Tj) (x : Nat) : Tj := { s with turn := set1 s.turn x (s.cn + 1), low := set1 s.low x (s.cn + 1), cn := s.cn + 1 }
/-- What the closures may turn. -/
def Ft (q : Nat) (ov : Value) : List Nat := [q + 1, q + 2, q + 4, q + 6, q + 8] ++ ov.ownBlock.toList

set_option maxRecDepth 100000 in
set_option maxHeartbeats 4000000 in
theorem enter_old {w : World} {q N : Nat} {s : Tj} {ov : Value} (h : TjAt w q N s ov) {x : Nat} (hx : x < N) (h0 : s.turn x ≠ 0) :
    Calls Try.prog 33 #[.int .i64 (x : Nat), .pointer (some ⟨q + 3, 0, none⟩), .pointer (some ⟨q + 1, 0, none⟩), .pointer (some ⟨q + 5, 0, none⟩), .pointer (some ⟨q + 8, 0, none⟩)] w fun en w' => en = .returned (.bool false) ∧ w' = w := by
  have c1 := h.bt.cell 0
  have c2 := h.rt.cellAt (fl_get s.turn hx)
  have hx' : (x : Int) < N := by omega
  have h1 : ((s.turn x : Int) == 0) = false := by simp; exact h0
  have h2 : (s.turn x == 0) = false := by simpa using h0
  have hm := h.rt.rd.len
  clear h h0 hm
  go_enter Try.func33, Try.ntmps33
  go_wp2_with fail
  go_ret
  exact ⟨rfl, rfl⟩

set_option maxRecDepth 100000 in
set_option maxHeartbeats 4000000 in
theorem enter_new {w : World} {q N : Nat} {s : Tj} {ov : Value} (h : TjAt w q N s ov) {x : Nat} (hx : x < N) (h0 : s.turn x = 0) (hN : N ≤ 65536) (hcn : s.cn ≤ N) (hop : s.opn.length ≤ N) :
    Calls Try.prog 33 #[.int .i64 (x : Nat), .pointer (some ⟨q + 3, 0, none⟩), .pointer (some ⟨q + 1, 0, none⟩), .pointer (some ⟨q + 5, 0, none⟩), .pointer (some ⟨q + 8, 0, none⟩)] w fun en w' => ∃ ov', en = .returned (.bool true) ∧ TjAt w' q N (s.enter x) ov' ∧ Frm w w' (Ft q ov) ∧ ∀ y, ov'.ownBlock = some y → y ∈ ov.ownBlock.toList ∨ w.heap.size ≤ y := by
  have H := hide h
  have c1 := h.bt.cell 0
  have c2 := h.rt.cellAt (fl_get s.turn hx)
  have c3 := h.be.cell 0
  have c3f := h.be.free 0
  have c4 := h.bl.cell 0
  have c5 := h.rl.cellAt (fl_get s.low hx)
  have hx' : (x : Int) < N := by omega
  have hw1 : IntKind.i64.wrap ((s.cn : Int) + 1) = (s.cn : Int) + 1 := IntWalk.i64_in _ (by omega)
  rw [h0] at c2
  obtain ⟨w2, hw2⟩ : ∃ y, w.setCell ⟨q + 1, 0, none⟩ (.int .i64 ((s.cn : Int) + 1)) = y := ⟨_, rfl⟩
  have hf2 : Frm w w2 [q + 1] := by rw [← hw2]; exact (Frm.refl w [q + 1]).setCell _ _ (.inl (by simp))
  have he2 : Whole w2 (q + 1) 3 #[.int .i64 ((s.cn : Int) + 1)] := by rw [← hw2]; exact h.be.set 0 _
  have d1 : w2.cell? ⟨q + 3, 0, none⟩ = some (.slice (some ⟨q + 2, 0, none⟩) N N) := (h.bt.frm hf2 (by simp)).cell 0
  have d2 : w2.cell? ⟨q + 5, 0, none⟩ = some (.slice (some ⟨q + 4, 0, none⟩) N N) := (h.bl.frm hf2 (by simp)).cell 0
  have d3 : w2.cell? ⟨q + 1, 0, none⟩ = some (.int .i64 ((s.cn : Int) + 1)) := he2.cell 0
  have hrt := h.rt.frmS hf2 (fun y hy => by have e : y = q + 2 := by simpa [Value.ownBlock] using hy.symm
                                            rw [e]; simp)
  have hrl := h.rl.frmS hf2 (fun y hy => by have e : y = q + 4 := by simpa [Value.ownBlock] using hy.symm
                                            rw [e]; simp)
  have d4 := hrt.cellAt (fl_get s.turn hx)
  have d4f := hrt.freeAt x
  have d5 := hrl.cellAt (fl_get s.low hx)
  have d5f := hrl.freeAt x
  have H2 := hide (And.intro hrt (And.intro hrl (And.intro hf2 he2)))
  clear h hf2 he2 hrt hrl
  go_enter Try.func33, Try.ntmps33
  go_wp2_with fail
  clear hw2 c1 c2 c3 c3f c4 c5
  go_region_held3 (fun w' => w'.cell? ⟨q + 3, 0, none⟩ = some (.slice (some ⟨q + 2, 0, none⟩) N N) ∧ w'.cell? ⟨q + 5, 0, none⟩ = some (.slice (some ⟨q + 4, 0, none⟩) N N) ∧ w'.cell? ⟨q + 1, 0, none⟩ = some (.int .i64 ((s.cn : Int) + 1))) (first | exact ⟨d1, d2, d3⟩ | (go_keep)) (first | fail)
  clear d1 d2 d3 d4 d4f d5 d5f
  obtain ⟨w3, hw3⟩ : ∃ y, ((w2.setCell ⟨q + 2, x, none⟩ (.int .i64 ((s.cn : Int) + 1))).setCell ⟨q + 4, x, none⟩ (.int .i64 ((s.cn : Int) + 1))).drew = y := ⟨_, rfl⟩
  rw [hw3]
  have hT : TjAt w3 q N (s.mark x) ov ∧ Frm w w3 [q + 1, q + 2, q + 4] := by
    obtain ⟨hrt, hrl, hf2, he2⟩ := H2.out
    have hfa : Frm w2 (w2.setCell ⟨q + 2, x, none⟩ (.int .i64 ((s.cn : Int) + 1))) [q + 2] := (Frm.refl w2 [q + 2]).setCell _ _ (.inl (by simp))
    have hfb : Frm (w2.setCell ⟨q + 2, x, none⟩ (.int .i64 ((s.cn : Int) + 1))) w3 [q + 4] := by rw [← hw3]; exact ((Frm.refl _ [q + 4]).setCell ⟨q + 4, x, none⟩ (.int .i64 ((s.cn : Int) + 1)) (.inl (by simp))).trans (Frm.drew _ _)
    have hf3 : Frm w2 w3 [q + 2, q + 4] := (hfa.mono (by simp)).trans (hfb.mono (by simp))
    have hf : Frm w w3 [q + 1, q + 2, q + 4] := (hf2.mono (by simp)).trans (hf3.mono (by simp))
    have hne : ∀ (n : Nat) (e : Nat), (Value.slice (some ⟨n, 0, none⟩) N N).ownBlock = some e → e = n := fun n e he => by simpa [Value.ownBlock] using he.symm
    have hrt2 := (hrt.set x ((s.cn : Int) + 1)).frmS hfb (fun y hy => by rw [hne _ _ hy]; simp)
    have hrl2 := hrl.frmS hfa (fun y hy => by rw [hne _ _ hy]; simp)
    have hrl3 := hrl2.set x ((s.cn : Int) + 1)
    have e1 := fl_set (n := N) (x := x) (f := s.turn) (h := (s.mark x).turn) (v := s.cn + 1) (set1_at _ _ _) (fun j hj => set1_ne _ _ hj)
    have e2 := fl_set (n := N) (x := x) (f := s.low) (h := (s.mark x).low) (v := s.cn + 1) (set1_at _ _ _) (fun j hj => set1_ne _ _ hj)
    have hc : (((s.cn + 1 : Nat)) : Int) = (s.cn : Int) + 1 := by omega
    rw [hc] at e1 e2
    rw [e1] at hrt2
    rw [e2] at hrl3
    have hrl4 : Own w3 q 3 .i64 (.slice (some ⟨q + 4, 0, none⟩) N N) (fl N (s.mark x).low) := by rw [← hw3]; exact hrl3
    have hn : ∀ d, d ≠ 1 → d ≠ 2 → d ≠ 4 → q + d ∉ [q + 1, q + 2, q + 4] := fun d h1 h2 h3 => by simp; omega
    refine ⟨⟨H.out.bc.frm hf (hn 0 (by omega) (by omega) (by omega)), ?_, hrt2, H.out.bt.frm hf (hn 3 (by omega) (by omega) (by omega)), hrl4, H.out.bl.frm hf (hn 5 (by omega) (by omega) (by omega)), H.out.rf.frmS hf (fun y hy => by rw [hne _ _ hy]; exact hn 6 (by omega) (by omega) (by omega)), H.out.bf.frm hf (hn 7 (by omega) (by omega) (by omega)), H.out.bo.frm hf (hn 8 (by omega) (by omega) (by omega)), H.out.ro.frmS hf (fun y hy hm => by have := H.out.far y hy; simp at hm; omega), H.out.far⟩, hf⟩
    have := he2.frm hf3 (by simp)
    rw [show (.int .i64 ((s.mark x).cn : Nat) : Value) = .int .i64 ((s.cn : Int) + 1) by show Value.int .i64 ((s.cn + 1 : Nat) : Int) = _; rw [hc]]
    exact this
  have HT := hide hT.1
  have HF := hide hT.2
  have HO := hide hT.1.ro
  have c8 := hT.1.bo.cell 0
  have hfar := hT.1.far
  have hsz := hT.1.size
  obtain ⟨Ao, co, rfl, hco, hmo, -⟩ := hT.1.ro.rd
  have HFA := hide hfar
  clear hT H2 hw3 hfar hmo hco
  go_wp2_with (first | (refine wpList_append_rd _ rfl _ _ 29 rfl q 3 .i64 8 intE _ (ints (s.mark x).opn) rfl (HO.out.alloc _) _ [(x : Int)] rfl (rd_one w3 3 (x : Int)) ?b1 ?b2 ?b3 ?_))
  case b1 => rw [ints_len, List.length_singleton]; show (s.opn.length + 1) * 8 ≤ _; omega
  case b2 => unfold maxLen; rw [ints_len, List.length_singleton]; show s.opn.length + 1 ≤ _; omega
  case b3 => rw [World.size_alloc]; omega
  intro v' w5 ho5 hg5 hb5 hblk
  have hf5 : Frm w3 w5 (Value.slice Ao (ints (s.mark x).opn).length co).ownBlock.toList := ((Frm.refl w3 _).alloc _).trans (Frm.grown hg5)
  have hS5 : ∀ y ∈ (Value.slice Ao (ints (s.mark x).opn).length co).ownBlock.toList, q + 9 ≤ y := fun y hy => HFA.out y (by simpa using hy)
  have hn5 : ∀ d, d < 9 → q + d ∉ (Value.slice Ao (ints (s.mark x).opn).length co).ownBlock.toList := fun d hd hm => by have := hS5 _ hm; omega
  have hne : ∀ (d : Nat), d < 9 → ∀ e, (Value.slice (some ⟨q + d, 0, none⟩) N N).ownBlock = some e → e ∉ (Value.slice Ao (ints (s.mark x).opn).length co).ownBlock.toList := fun d hd e he => by
    have e1 : e = q + d := by simpa [Value.ownBlock] using he.symm
    rw [e1]; exact hn5 d hd
  have hbo5 : Whole w5 (q + 8) 29 #[.slice Ao (ints (s.mark x).opn).length co] := HT.out.bo.frm hf5 (hn5 8 (by omega))
  have c8' := hbo5.cell 0
  have f8' := hbo5.free 0
  have hfar' : ∀ y, v'.ownBlock = some y → q + 9 ≤ y := fun y hy => by
    rcases hblk with h | h
    · rw [h] at hy; exact HFA.out y hy
    · rw [h] at hy; injection hy with hy; omega
  have hf6 : Frm w5 (w5.setCell ⟨q + 8, 0, none⟩ v') [q + 8] := (Frm.refl w5 [q + 8]).setCell _ _ (.inl (by simp))
  have n6 : ∀ d, d < 8 → q + d ∉ [q + 8] := fun d hd => by simp; omega
  have ne6 : ∀ (d : Nat), d < 8 → ∀ e, (Value.slice (some ⟨q + d, 0, none⟩) N N).ownBlock = some e → e ∉ [q + 8] := fun d hd e he => by
    have e1 : e = q + d := by simpa [Value.ownBlock] using he.symm
    rw [e1]; exact n6 d hd
  have HZ : Hid (TjAt (w5.setCell ⟨q + 8, 0, none⟩ v') q N (s.enter x) v') := hide (by
    have h := HT.out
    refine ⟨(h.bc.frm hf5 (hn5 0 (by omega))).frm hf6 (n6 0 (by omega)), (h.be.frm hf5 (hn5 1 (by omega))).frm hf6 (n6 1 (by omega)), (h.rt.frmS hf5 (hne 2 (by omega))).frmS hf6 (ne6 2 (by omega)), (h.bt.frm hf5 (hn5 3 (by omega))).frm hf6 (n6 3 (by omega)), (h.rl.frmS hf5 (hne 4 (by omega))).frmS hf6 (ne6 4 (by omega)), (h.bl.frm hf5 (hn5 5 (by omega))).frm hf6 (n6 5 (by omega)), (h.rf.frmS hf5 (hne 6 (by omega))).frmS hf6 (ne6 6 (by omega)), (h.bf.frm hf5 (hn5 7 (by omega))).frm hf6 (n6 7 (by omega)), hbo5.set 0 v', ?_, hfar'⟩
    have h9 := ho5.frmS hf6 (fun y hy => by have := hfar' y hy; simp; omega)
    rw [← ints_snoc] at h9
    exact h9)
  have HY : Hid (Frm w (w5.setCell ⟨q + 8, 0, none⟩ v') (Ft q (.slice Ao (ints (s.mark x).opn).length co)) ∧ ∀ y, v'.ownBlock = some y → y ∈ (Value.slice Ao (ints (s.mark x).opn).length co).ownBlock.toList ∨ w.heap.size ≤ y) := hide (by
    refine ⟨((HF.out.mono (fun y hy => .inl (by unfold Ft; simp at hy ⊢; omega))).trans' (hf5.mono (T := (Value.slice Ao (ints (s.mark x).opn).length co).ownBlock.toList) (fun y hy => .inl hy)) (fun y hy => .inl (by unfold Ft; simp at hy ⊢; exact .inr (.inr (.inr (.inr (.inr hy))))))).trans' hf6 (fun y hy => .inl (by unfold Ft; simp at hy ⊢; omega)), fun y hy => ?_⟩
    rcases hblk with h | h
    · rw [h] at hy; exact .inl (by simpa using hy)
    · rw [h] at hy; injection hy with hy; have := HF.out.size; exact .inr (by omega))
  obtain ⟨A5, c5, rfl, -, -, -⟩ := ho5.rd
  rw [List.length_append, List.length_singleton] at HZ HY
  clear ho5 hg5 hb5 hblk hf5 hS5 hn5 hne hbo5 hfar' hf6 n6 ne6
  go_wp2_with fail
  go_ret
  exact ⟨_, rfl, HZ.out, HY.out.1, HY.out.2⟩

theorem TjAt.lowSet {w w' : World} {q N : Nat} {s : Tj} {ov : Value} (h : TjAt w q N s ov) (hf : Frm w w' [q + 4]) {low : Nat → Nat} (hr : Own w' q 3 .i64 (.slice (some ⟨q + 4, 0, none⟩) N N) (fl N low)) : TjAt w' q N { s with low := low } ov := by
  have n6 : ∀ d, d ≠ 4 → q + d ∉ [q + 4] := fun d hd => by simp; omega
  have ne6 : ∀ (d : Nat), d ≠ 4 → ∀ e, (Value.slice (some ⟨q + d, 0, none⟩) N N).ownBlock = some e → e ∉ [q + 4] := fun d hd e he => by
    have e1 : e = q + d := by simpa [Value.ownBlock] using he.symm
    rw [e1]; exact n6 d hd
  exact ⟨h.bc.frm hf (n6 0 (by omega)), h.be.frm hf (n6 1 (by omega)), h.rt.frmS hf (ne6 2 (by omega)), h.bt.frm hf (n6 3 (by omega)), hr, h.bl.frm hf (n6 5 (by omega)), h.rf.frmS hf (ne6 6 (by omega)), h.bf.frm hf (n6 7 (by omega)), h.bo.frm hf (n6 8 (by omega)), h.ro.frmS hf (fun y hy hm => by have := h.far y hy; simp at hm; omega), h.far⟩

set_option maxRecDepth 100000 in
set_option maxHeartbeats 4000000 in
theorem comp_any {w : World} {q N : Nat} {s : Tj} {ov : Value} (h : TjAt w q N s ov) {u c : Nat} (hu : u < N) (hc : c < N) :
    Calls Try.prog 34 #[.int .i64 (u : Nat), .int .i64 (c : Nat), .pointer (some ⟨q + 5, 0, none⟩)] w fun en w' => en = .returned (.tuple #[]) ∧ TjAt w' q N (s.comp u c) ov ∧ Frm w w' (Ft q ov) := by
  have H := hide h
  have c1 : w.cell? ⟨q + 5, 0, none⟩ = some (.slice (some ⟨q + 4, 0, none⟩) N N) := h.bl.cell 0
  have c2 := h.rl.cellAt (fl_get s.low hu)
  have c2f := h.rl.freeAt u
  have c3 := h.rl.cellAt (fl_get s.low hc)
  have hu' : (u : Int) < N := by omega
  have hc' : (c : Int) < N := by omega
  clear h
  have fin : ∀ m : Nat, m = min (s.low u) (s.low c) → TjAt (w.setCell ⟨q + 4, u, none⟩ (.int .i64 (m : Nat))).drew q N (s.comp u c) ov ∧ Frm w (w.setCell ⟨q + 4, u, none⟩ (.int .i64 (m : Nat))).drew (Ft q ov) := fun m hm => by
    have hf : Frm w (w.setCell ⟨q + 4, u, none⟩ (.int .i64 (m : Nat))).drew [q + 4] := ((Frm.refl w [q + 4]).setCell ⟨q + 4, u, none⟩ (.int .i64 (m : Nat)) (.inl (by simp))).trans (Frm.drew _ _)
    have hr := H.out.rl.set u (m : Int)
    rw [fl_set (h := (s.comp u c).low) (by rw [hm]; exact set1_at _ _ _) (fun j hj => set1_ne _ _ hj)] at hr
    have h9 := H.out.lowSet hf hr
    exact ⟨⟨h9.bc, h9.be, h9.rt, h9.bt, h9.rl, h9.bl, h9.rf, h9.bf, h9.bo, h9.ro, h9.far⟩, hf.mono (fun y hy => .inl (by unfold Ft; simp at hy ⊢; omega))⟩
  have FIN := hide fin
  clear fin
  by_cases hlt : s.low u ≤ s.low c
  · have h1 : (s.low u : Int) ≤ (s.low c : Int) := by omega
    go_enter Try.func34, Try.ntmps34
    go_wp2_with fail
    go_still_tail 11, (by kernel_rfl)
    change wpList _ _ _ _ _ w.drew
    go_wp2_with fail
    all_goals
      go_end0
      first | exact ⟨rfl, FIN.out _ (Nat.min_eq_left hlt).symm⟩ | omega
  · have h1 : ¬ ((s.low u : Int) ≤ (s.low c : Int)) := by omega
    go_enter Try.func34, Try.ntmps34
    go_wp2_with fail
    go_still_tail 11, (by kernel_rfl)
    change wpList _ _ _ _ _ w.drew
    go_wp2_with fail
    all_goals
      go_end0
      first | exact ⟨rfl, FIN.out _ (Nat.min_eq_right (by omega)).symm⟩ | omega

set_option maxRecDepth 100000 in
set_option maxHeartbeats 4000000 in
theorem leave_keep {w : World} {q N : Nat} {s : Tj} {ov : Value} (h : TjAt w q N s ov) {u : Nat} (hu : u < N) (hne : s.low u ≠ s.turn u) :
    Calls Try.prog 35 #[.int .i64 (u : Nat), .pointer (some ⟨q + 5, 0, none⟩), .pointer (some ⟨q + 3, 0, none⟩), .pointer (some ⟨q + 8, 0, none⟩), .pointer (some ⟨q, 0, none⟩), .pointer (some ⟨q + 7, 0, none⟩)] w fun en w' => en = .returned (.tuple #[]) ∧ ∃ m, w' = w.drewN m := by
  have c1 : w.cell? ⟨q + 5, 0, none⟩ = some (.slice (some ⟨q + 4, 0, none⟩) N N) := h.bl.cell 0
  have c2 : w.cell? ⟨q + 3, 0, none⟩ = some (.slice (some ⟨q + 2, 0, none⟩) N N) := h.bt.cell 0
  have c3 := h.rl.cellAt (fl_get s.low hu)
  have c4 := h.rt.cellAt (fl_get s.turn hu)
  have hu' : (u : Int) < N := by omega
  have h1 : ((s.low u : Int) == (s.turn u : Int)) = false := by simp; omega
  have h2 : (s.low u == s.turn u) = false := by simpa using hne
  have h3 : ¬ s.low u = s.turn u := hne
  clear h
  go_enter Try.func35, Try.ntmps35
  go_wp2_with fail
  go_quiet (fail)
  go_wp2_with fail
  refine bodyPost_ret (results_none rfl _ _ _) rfl ?_
  exact ⟨rfl, _, rfl⟩
theorem Own.cut {w : World} {base g n cap : Nat} {e : TypeId} {k : IntKind} {l : List Int} (h : Own w base e k (.slice (some ⟨g, 0, none⟩) n cap) l) {q : Nat} (hq : q ≤ l.length) : Own w base e k (.slice (some ⟨g, 0, none⟩) q cap) (l.take q) := by
  obtain ⟨hlen, h⟩ := h
  rcases h with ⟨h, _⟩ | ⟨g', cap', cur, hv, hb, hcur, hn, hm, hs, ht⟩
  · cases h
  · simp only [Nat.mul_one] at hv hn ht
    injection hv with e1 e2 e3
    injection e1 with e1
    injection e1 with e1
    subst e1 e3
    have el : (l.take q).length = q := by rw [List.length_take]; omega
    refine ⟨by simp, .inr ⟨g, cap, cur, by rw [el], hb, hcur, by rw [el]; omega, hm, hs, ?_⟩⟩
    have := congrArg (List.take q) ht
    rw [List.take_take, Nat.min_eq_left hq] at this
    rw [el, Nat.mul_one, this, List.map_take]

theorem TjAt.firstSet {w w' : World} {q N : Nat} {s : Tj} {ov : Value} (h : TjAt w q N s ov) (hf : Frm w w' [q + 6]) {first : Nat → Nat} (hr : Own w' q 3 .i64 (.slice (some ⟨q + 6, 0, none⟩) N N) (fl N first)) : TjAt w' q N { s with first := first } ov := by
  have n6 : ∀ d, d ≠ 6 → q + d ∉ [q + 6] := fun d hd => by simp; omega
  have ne6 : ∀ (d : Nat), d ≠ 6 → ∀ e, (Value.slice (some ⟨q + d, 0, none⟩) N N).ownBlock = some e → e ∉ [q + 6] := fun d hd e he => by
    have e1 : e = q + d := by simpa [Value.ownBlock] using he.symm
    rw [e1]; exact n6 d hd
  exact ⟨h.bc.frm hf (n6 0 (by omega)), h.be.frm hf (n6 1 (by omega)), h.rt.frmS hf (ne6 2 (by omega)), h.bt.frm hf (n6 3 (by omega)), h.rl.frmS hf (ne6 4 (by omega)), h.bl.frm hf (n6 5 (by omega)), hr, h.bf.frm hf (n6 7 (by omega)), h.bo.frm hf (n6 8 (by omega)), h.ro.frmS hf (fun y hy hm => by have := h.far y hy; simp at hm; omega), h.far⟩
def lowJ (s : Tj) (N : Nat) (ms : List Nat) : Nat → Nat := fun i => if i ∈ ms then N + 1 else s.low i
def fstJ (s : Tj) (u : Nat) (ms : List Nat) : Nat → Nat := fun i => if i ∈ ms then u else s.first i

theorem nodup_len : ∀ {n : Nat} {l : List Nat}, l.Nodup → (∀ x ∈ l, x < n) → l.length ≤ n
  | 0, l, _, hl => by
    cases l with
    | nil => simp
    | cons x r => exact absurd (hl x (List.mem_cons_self ..)) (by omega)
  | n + 1, l, h, hl => by
    by_cases c : n ∈ l
    · have h1 := nodup_len (n := n) (h.erase n) (fun x hx => by
        have h2 := (List.Nodup.mem_erase_iff h).1 hx
        have h3 := hl x h2.2
        have h4 : x ≠ n := h2.1
        omega)
      rw [List.length_erase_of_mem c] at h1
      omega
    · have h1 := nodup_len (n := n) h (fun x hx => by
        have h3 := hl x hx
        have h4 : x ≠ n := fun e => c (e ▸ hx)
        omega)
      omega
theorem lowJ_nil (s : Tj) (N : Nat) : lowJ s N [] = s.low := by funext i; simp [lowJ]
theorem fstJ_nil (s : Tj) (u : Nat) : fstJ s u [] = s.first := by funext i; simp [fstJ]
theorem nodup_get {l : List Nat} (h : l.Nodup) {i j x : Nat} (hi : l[i]? = some x) (hj : l[j]? = some x) : i = j := by
  obtain ⟨h1, h2⟩ := List.getElem?_eq_some_iff.1 hi
  obtain ⟨h3, h4⟩ := List.getElem?_eq_some_iff.1 hj
  rcases Nat.lt_trichotomy i j with c | c | c
  · exact absurd (h2.trans h4.symm) (List.pairwise_iff_getElem.1 h i j h1 h3 c)
  · exact c
  · exact absurd (h4.trans h2.symm) (List.pairwise_iff_getElem.1 h j i h3 h1 c)

set_option maxRecDepth 100000 in
set_option maxHeartbeats 4000000 in
theorem leave_shut {w : World} {q N : Nat} {s : Tj} {ov : Value} (h : TjAt w q N s ov) {u : Nat} {a b : List Nat} (p : List Nat) (hu : u < N) (heq : s.low u = s.turn u) (ho : s.opn = a ++ u :: b) (hnd : s.opn.Nodup) (hlt : ∀ x ∈ s.opn, x < N) (hN : N ≤ 65536) :
    Calls Try.prog 35 #[.int .i64 (u : Nat), .pointer (some ⟨q + 5, 0, none⟩), .pointer (some ⟨q + 3, 0, none⟩), .pointer (some ⟨q + 8, 0, none⟩), .pointer (some ⟨q, 0, none⟩), .pointer (some ⟨q + 7, 0, none⟩)] w fun en w' => ∃ ov', en = .returned (.tuple #[]) ∧ TjAt w' q N (s.shutAt N u a p) ov' ∧ Frm w w' (Ft q ov) ∧ ∀ y, ov'.ownBlock = some y → y ∈ ov.ownBlock.toList := by
  have hL : s.opn.length = a.length + b.length + 1 := by rw [ho]; simp; omega
  obtain ⟨o, c, rfl, hLc, hcm, hob, hol⟩ := h.ro.form (by rw [ints_len]; omega)
  rw [ints_len] at hLc h ⊢
  have hc9 : c ≤ 9223372036854775807 := by unfold maxLen at hcm; omega
  have H := hide h
  have HON := hide hnd
  have c1 : w.cell? ⟨q + 5, 0, none⟩ = some (.slice (some ⟨q + 4, 0, none⟩) N N) := h.bl.cell 0
  have c2 : w.cell? ⟨q + 3, 0, none⟩ = some (.slice (some ⟨q + 2, 0, none⟩) N N) := h.bt.cell 0
  have c3 := h.rl.cellAt (fl_get s.low hu)
  have c4 := h.rt.cellAt (fl_get s.turn hu)
  have c5 : w.cell? ⟨q + 8, 0, none⟩ = some (.slice (some ⟨o, 0, none⟩) s.opn.length c) := h.bo.cell 0
  have hu' : (u : Int) < N := by omega
  obtain ⟨L, hLL⟩ : ∃ L, s.opn.length = L := ⟨_, rfl⟩
  obtain ⟨k, hk⟩ : ∃ k, a.length = k := ⟨_, rfl⟩
  have hLk : k + 1 ≤ L := by omega
  have hrow : ∀ W m, W = w.drewN m → ∀ i x, s.opn[i]? = some x → W.cell? ⟨o, i, none⟩ = some (.int .i64 (x : Nat)) := fun W m hW i x hx => by
    subst hW
    have := h.ro.cellAt (j := i) (z := (x : Int)) (by rw [ints_get, hx]; rfl)
    exact this
  have HROW := hide hrow
  have hN1 : L ≤ N := by rw [← hLL]; exact nodup_len hnd hlt
  have hLN : IntKind.i64.wrap ((L : Int) - 1) = (L : Int) - 1 := IntWalk.i64_in _ (by omega)
  have HO := hide ho
  have HK := hide hk
  rw [heq] at c3
  rw [hLL] at c5
  clear h hrow hnd ho hk hcm
  go_enter Try.func35, Try.ntmps35
  go_wp2_with fail
  go_quiet (fail)
  go_wp2_with fail
  go_loopw [7] (fun z wr => ∃ i : Nat, k ≤ i ∧ i < L ∧ z = .int .i64 i ∧ ∃ m, wr = w.drewN m) (fun z _ => (intOf z).toNat)
  case atStart => exact ⟨L - 1, by omega, by omega, by congr 1; omega, _, rfl⟩
  case round =>
    clear c1 c2 c3 c4 hLN
    obtain ⟨i, hki, hiL, rfl, m, rfl⟩ := hrel
    obtain ⟨x, hx⟩ : ∃ x, s.opn[i]? = some x := ⟨_, List.getElem?_eq_getElem (by omega)⟩
    have cx := HROW.out _ m rfl i x hx
    have hiL' : (i : Int) < L := by omega
    have hki' : 0 ≤ (i : Int) := by omega
    by_cases hik : i = k
    · have hxu : x = u := by
        rw [HO.out, hik, ← HK.out, List.getElem?_append_right (Nat.le_refl _)] at hx
        simpa using hx.symm
      subst hik hxu
      have HXX := hide hx
      have hck : ¬ (c - i = 0) := by omega
      have hic : (i : Int) ≤ c := by omega
      clear hx
      go_wp2_with fail
      have hms : ∀ j, (x :: b)[j]? = s.opn[i + j]? := fun j => by
        rw [HO.out, ← HK.out, List.getElem?_append_right (Nat.le_add_right _ _), Nat.add_sub_cancel_left]
      have HMS := hide hms
      have HT0 : Hid (TjAt (w.drewN m) q N { s with low := lowJ s N ((x :: b).take 0), first := fstJ s x ((x :: b).take 0) } (.slice (some ⟨o, 0, none⟩) L c)) := hide (by
        rw [List.take_zero, lowJ_nil, fstJ_nil]
        have h := H.out.still ((Frm.refl w []).drewN m)
        rw [hLL] at h
        exact h)
      have HF0 : Hid (Frm w (w.drewN m) (Ft q (.slice (some ⟨o, 0, none⟩) L c))) := hide ((Frm.refl w _).drewN m)
      have hbl : b.length + 1 = L - i := by have := HK.out; omega
      clear cx hms
      go_loopw [34] (fun z wr => ∃ j : Nat, j ≤ L - i ∧ z = .int .i64 j ∧ Hid (TjAt wr q N { s with low := lowJ s N ((x :: b).take j), first := fstJ s x ((x :: b).take j) } (.slice (some ⟨o, 0, none⟩) L c)) ∧ Hid (Frm w wr (Ft q (.slice (some ⟨o, 0, none⟩) L c)))) (fun z _ => L - i - (intOf z).toNat)
      case atStart => exact ⟨0, Nat.zero_le _, rfl, HT0, HF0⟩
      case round =>
        clear HT0 HF0
        obtain ⟨wr, rfl⟩ : ∃ y, y = wr := ⟨_, rfl⟩
        obtain ⟨j, hj, rfl, HT, HF⟩ := hrel
        by_cases hjt : j < L - i
        · have hjt' : (j : Int) < ((L - i : Nat) : Int) := by omega
          obtain ⟨y, hy⟩ : ∃ y, (x :: b)[j]? = some y := ⟨_, List.getElem?_eq_getElem (by simp; omega)⟩
          have hyo : s.opn[i + j]? = some y := by rw [← HMS.out]; exact hy
          have hyn := hlt y (List.mem_of_getElem? hyo)
          have hyn' : (y : Int) < N := by omega
          have cy : wr.cell? ⟨o, i + j, none⟩ = some (.int .i64 (y : Nat)) := HT.out.ro.cellAt (by rw [ints_get]; show (s.opn[i + j]?).map _ = _; rw [hyo]; rfl)
          have d1 : wr.cell? ⟨q + 7, 0, none⟩ = some (.slice (some ⟨q + 6, 0, none⟩) N N) := HT.out.bf.cell 0
          have d2 : wr.cell? ⟨q + 5, 0, none⟩ = some (.slice (some ⟨q + 4, 0, none⟩) N N) := HT.out.bl.cell 0
          have d3 : wr.cell? ⟨q, 0, none⟩ = some (.int .i64 ((N : Int) + 1)) := HT.out.bc.cell 0
          have d4 := HT.out.rf.cellAt (fl_get (fstJ s x ((x :: b).take j)) hyn)
          have d4f := HT.out.rf.freeAt y
          have d5 := HT.out.rl.cellAt (fl_get (lowJ s N ((x :: b).take j)) hyn)
          have d5f := HT.out.rl.freeAt y
          have HY := hide (And.intro hy hyo)
          clear hy hyo
          go_wp2_with fail
          go_region_held3 (fun w' => w'.cell? ⟨q + 7, 0, none⟩ = some (.slice (some ⟨q + 6, 0, none⟩) N N) ∧ w'.cell? ⟨q + 5, 0, none⟩ = some (.slice (some ⟨q + 4, 0, none⟩) N N) ∧ w'.cell? ⟨q, 0, none⟩ = some (.int .i64 ((N : Int) + 1))) (first | exact ⟨d1, d2, d3⟩ | (go_keep)) (first | fail)
          clear d1 d2 d3 d4 d4f d5 d5f cy
          obtain ⟨w5, hw5⟩ : ∃ z, ((wr.setCell ⟨q + 6, y, none⟩ (.int .i64 (x : Nat))).setCell ⟨q + 4, y, none⟩ (.int .i64 ((N : Int) + 1))).drew = z := ⟨_, rfl⟩
          have HT5 : Hid (TjAt w5 q N { s with low := lowJ s N ((x :: b).take (j + 1)), first := fstJ s x ((x :: b).take (j + 1)) } (.slice (some ⟨o, 0, none⟩) L c) ∧ Frm w w5 (Ft q (.slice (some ⟨o, 0, none⟩) L c))) := hide (by
            have htk : ∀ z, z ∈ (x :: b).take (j + 1) ↔ z ∈ (x :: b).take j ∨ z = y := fun z => by
              rw [List.take_add_one, HY.out.1, List.mem_append]
              simp
            have hfa : Frm wr (wr.setCell ⟨q + 6, y, none⟩ (.int .i64 (x : Nat))) [q + 6] := (Frm.refl wr [q + 6]).setCell _ _ (.inl (by simp))
            have hfb : Frm (wr.setCell ⟨q + 6, y, none⟩ (.int .i64 (x : Nat))) w5 [q + 4] := by rw [← hw5]; exact ((Frm.refl _ [q + 4]).setCell ⟨q + 4, y, none⟩ (.int .i64 ((N : Int) + 1)) (.inl (by simp))).trans (Frm.drew _ _)
            have hra := HT.out.rf.set y (x : Int)
            rw [fl_set (h := fstJ s x ((x :: b).take (j + 1))) (by unfold fstJ; rw [if_pos ((htk y).2 (.inr rfl))]) (fun z hz => by
              show fstJ s x _ z = fstJ s x _ z
              unfold fstJ
              by_cases hm : z ∈ (x :: b).take j
              · rw [if_pos hm, if_pos ((htk z).2 (.inl hm))]
              · rw [if_neg hm, if_neg (fun d => ((htk z).1 d).elim hm hz)])] at hra
            have h1 := HT.out.firstSet hfa hra
            have hrb := h1.rl.set y ((N + 1 : Nat) : Int)
            rw [fl_set (h := lowJ s N ((x :: b).take (j + 1))) (by unfold lowJ; rw [if_pos ((htk y).2 (.inr rfl))]) (fun z hz => by
              show lowJ s N _ z = lowJ s N _ z
              unfold lowJ
              by_cases hm : z ∈ (x :: b).take j
              · rw [if_pos hm, if_pos ((htk z).2 (.inl hm))]
              · rw [if_neg hm, if_neg (fun d => ((htk z).1 d).elim hm hz)])] at hrb
            have hrb2 : Own w5 q 3 .i64 (.slice (some ⟨q + 4, 0, none⟩) N N) (fl N (lowJ s N ((x :: b).take (j + 1)))) := by
              rw [← hw5]
              have e : ((N + 1 : Nat) : Int) = (N : Int) + 1 := by omega
              rw [e] at hrb
              exact hrb
            have h2 := h1.lowSet hfb hrb2
            exact ⟨⟨h2.bc, h2.be, h2.rt, h2.bt, h2.rl, h2.bl, h2.rf, h2.bf, h2.bo, h2.ro, h2.far⟩, (HF.out.trans' hfa (fun z hz => .inl (by unfold Ft; simp at hz ⊢; omega))).trans' hfb (fun z hz => .inl (by unfold Ft; simp at hz ⊢; omega))⟩)
          rw [hw5]
          clear hw5
          go_wp2_with fail
          go_roundw
          case rel => exact ⟨j + 1, by omega, by go_num, hide HT5.out.1, hide HT5.out.2⟩
          case measure => simp [intOf]; omega
        · obtain rfl : j = L - i := by omega
          rw [List.take_of_length_le (by simp; omega)] at HT
          have e5 : wr.cell? ⟨q + 8, 0, none⟩ = some (.slice (some ⟨o, 0, none⟩) L c) := HT.out.bo.cell 0
          have e5f := HT.out.bo.free 0
          have hmem : ∀ z, (z ∈ s.opn ∧ z ∉ a) ↔ z ∈ x :: b := fun z => by
            rw [HO.out]
            have hnd := HON.out
            rw [HO.out] at hnd
            have h3 := (List.nodup_append.1 hnd).2.2
            constructor
            · rintro ⟨h1, h2⟩
              exact (List.mem_append.1 h1).resolve_left h2
            · intro h1
              exact ⟨List.mem_append_right _ h1, fun h2 => h3 z h2 z h1 rfl⟩
          have HZ : Hid (TjAt (wr.setCell ⟨q + 8, 0, none⟩ (.slice (some ⟨o, 0, none⟩) i c)) q N (s.shutAt N x a p) (.slice (some ⟨o, 0, none⟩) i c) ∧ Frm w (wr.setCell ⟨q + 8, 0, none⟩ (.slice (some ⟨o, 0, none⟩) i c)) (Ft q (.slice (some ⟨o, 0, none⟩) L c))) := hide (by
            have h := HT.out
            have hf6 : Frm wr (wr.setCell ⟨q + 8, 0, none⟩ (.slice (some ⟨o, 0, none⟩) i c)) [q + 8] := (Frm.refl wr [q + 8]).setCell _ _ (.inl (by simp))
            have n6 : ∀ d, d < 8 → q + d ∉ [q + 8] := fun d hd => by simp; omega
            have ne6 : ∀ (d : Nat), d < 8 → ∀ e, (Value.slice (some ⟨q + d, 0, none⟩) N N).ownBlock = some e → e ∉ [q + 8] := fun d hd e he => by
              have e1 : e = q + d := by simpa [Value.ownBlock] using he.symm
              rw [e1]; exact n6 d hd
            have el : lowJ s N (x :: b) = (s.shutAt N x a p).low := by
              funext z
              show (if z ∈ x :: b then N + 1 else s.low z) = if z ∈ s.opn ∧ z ∉ a then N + 1 else s.low z
              by_cases hz : z ∈ x :: b
              · rw [if_pos hz, if_pos ((hmem z).2 hz)]
              · rw [if_neg hz, if_neg (fun d => hz ((hmem z).1 d))]
            have ef : fstJ s x (x :: b) = (s.shutAt N x a p).first := by
              funext z
              show (if z ∈ x :: b then x else s.first z) = if z ∈ s.opn ∧ z ∉ a then x else s.first z
              by_cases hz : z ∈ x :: b
              · rw [if_pos hz, if_pos ((hmem z).2 hz)]
              · rw [if_neg hz, if_neg (fun d => hz ((hmem z).1 d))]
            have hrl := h.rl.frmS hf6 (ne6 4 (by omega))
            have hrf := h.rf.frmS hf6 (ne6 6 (by omega))
            have hrl : Own (wr.setCell ⟨q + 8, 0, none⟩ (.slice (some ⟨o, 0, none⟩) i c)) q 3 .i64 (.slice (some ⟨q + 4, 0, none⟩) N N) (fl N (s.shutAt N x a p).low) := by rw [← el]; exact hrl
            have hrf : Own (wr.setCell ⟨q + 8, 0, none⟩ (.slice (some ⟨o, 0, none⟩) i c)) q 3 .i64 (.slice (some ⟨q + 6, 0, none⟩) N N) (fl N (s.shutAt N x a p).first) := by rw [← ef]; exact hrf
            have hro : Own wr q 3 .i64 (.slice (some ⟨o, 0, none⟩) i c) ((ints s.opn).take i) := Own.cut h.ro (by show i ≤ (ints s.opn).length; rw [ints_len]; omega)
            have hta : (ints s.opn).take i = ints a := by
              rw [HO.out, ← HK.out]
              unfold ints
              rw [← List.map_take, List.take_left]
            rw [hta] at hro
            exact ⟨⟨h.bc.frm hf6 (n6 0 (by omega)), h.be.frm hf6 (n6 1 (by omega)), h.rt.frmS hf6 (ne6 2 (by omega)), h.bt.frm hf6 (n6 3 (by omega)), hrl, h.bl.frm hf6 (n6 5 (by omega)), hrf, h.bf.frm hf6 (n6 7 (by omega)), h.bo.set 0 _, hro.frmS hf6 (fun y hy hm => by have := h.far y (by simpa [Value.ownBlock] using hy); simp at hm; omega), fun y hy => h.far y (by simpa [Value.ownBlock] using hy)⟩, HF.out.trans' hf6 (fun z hz => .inl (by unfold Ft; simp at hz ⊢; omega))⟩)
          have hiL9 : (i : Int) ≤ L := by omega
          clear hmem
          go_wp2_with fail
          first | (refine bodyPost_ret (results_none rfl _ _ _) rfl ?_) | go_end0
          exact ⟨_, rfl, HZ.out.1, HZ.out.2, fun y hy => by
            have e : o = y := by simpa [Value.ownBlock] using hy
            simp [Value.ownBlock, e]⟩
    · have hxu : x ≠ u := fun e => by
        subst e
        have h1 : s.opn[k]? = some x := by rw [HO.out, ← HK.out, List.getElem?_append_right (Nat.le_refl _)]; simp
        have := nodup_get HON.out hx h1
        omega
      have hxu1 : ((x : Int) == (u : Int)) = false := by simp; omega
      have hxu2 : (x == u) = false := by simpa using hxu
      have hwi : IntKind.i64.wrap ((i : Int) - 1) = (i : Int) - 1 := IntWalk.i64_in _ (by omega)
      clear hx hxu
      go_wp2_with fail
      go_roundw
      case rel => exact ⟨i - 1, by omega, by omega, by congr 1; omega, m, rfl⟩
      case measure => simp [intOf]; omega
end Go.Proofs.Ytakojoedifhcnaa

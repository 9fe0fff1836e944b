/-
  Layer 7 (scc): package heap over minHeap, in memory.
-/
import Derived.Test.YtakojoedifhcnaaTHeap
import Derived.Test.YtakojoedifhcnaaTSearch
import Derived.BigRegion
namespace Go.Proofs.Ytakojoedifhcnaa
open Go.RowKit

/-- The queue: its cell hb, its row sv, whose n places hold h. -/
structure QAt (w : World) (hb base : Nat) (sv : Value) (n : Nat) (h : Nat → Nat) : Prop where
  box : Whole w hb 48 #[sv]
  row : Own w base 3 .i64 sv (fl n h)
  off : sv.ownBlock ≠ some hb
section
variable {w w' : World} {hb base n : Nat} {sv : Value} {h : Nat → Nat}
theorem QAt.frm {S : List Nat} (q : QAt w hb base sv n h) (hf : Frm w w' S) (h1 : hb ∉ S) (h2 : ∀ x, sv.ownBlock = some x → x ∉ S) : QAt w' hb base sv n h := ⟨q.box.frm hf h1, q.row.frmS hf h2, q.off⟩
theorem QAt.still (q : QAt w hb base sv n h) (hf : Frm w w' []) : QAt w' hb base sv n h := q.frm hf (by simp) (by simp)
end
set_option maxRecDepth 100000 in
theorem method_len0 (hb : Nat) (w : World) : Sem.run Try.prog (method 183 45 (.pointer (some ⟨hb, 0, none⟩)) "Len") w = Sem.run Try.prog (do pure (30, ← loadVar 46 ⟨hb, 0, none⟩)) w := by
  kernel_rfl
set_option maxRecDepth 100000 in
theorem method_less0 (hb : Nat) (w : World) : Sem.run Try.prog (method 183 45 (.pointer (some ⟨hb, 0, none⟩)) "Less") w = Sem.run Try.prog (do pure (57, ← loadVar 46 ⟨hb, 0, none⟩)) w := by
  kernel_rfl
set_option maxRecDepth 100000 in
theorem method_swap0 (hb : Nat) (w : World) : Sem.run Try.prog (method 183 45 (.pointer (some ⟨hb, 0, none⟩)) "Swap") w = Sem.run Try.prog (do pure (61, ← loadVar 46 ⟨hb, 0, none⟩)) w := by
  kernel_rfl
theorem method_len (hb : Nat) (v : Value) (w : World) (hc : w.cell? ⟨hb, 0, none⟩ = some v) : Sem.run Try.prog (method 183 45 (.pointer (some ⟨hb, 0, none⟩)) "Len") w = .ok (30, v) w := by
  rw [method_len0]; simp [go_sem, hc]
theorem method_less (hb : Nat) (v : Value) (w : World) (hc : w.cell? ⟨hb, 0, none⟩ = some v) : Sem.run Try.prog (method 183 45 (.pointer (some ⟨hb, 0, none⟩)) "Less") w = .ok (57, v) w := by
  rw [method_less0]; simp [go_sem, hc]
theorem method_swap (hb : Nat) (v : Value) (w : World) (hc : w.cell? ⟨hb, 0, none⟩ = some v) : Sem.run Try.prog (method 183 45 (.pointer (some ⟨hb, 0, none⟩)) "Swap") w = .ok (61, v) w := by
  rw [method_swap0]; simp [go_sem, hc]

set_option maxRecDepth 100000 in
theorem qlen_any (A : Option Addr) (n c : Nat) (w : World) : Calls Try.prog 30 #[.slice A n c] w fun en w' => en = .returned (.int .i64 (n : Nat)) ∧ w' = w := by
  go_enter Try.func30, Try.ntmps30
  go_wp2_with fail
  go_ret
  exact ⟨rfl, rfl⟩
set_option maxRecDepth 100000 in
theorem less_any (r n c i j base : Nat) (h : Nat → Nat) (w : World) (ho : Own w base 3 .i64 (.slice (some ⟨r, 0, none⟩) n c) (fl n h)) (hi : i < n) (hj : j < n) :
    Calls Try.prog 57 #[.slice (some ⟨r, 0, none⟩) n c, .int .i64 (i : Nat), .int .i64 (j : Nat)] w fun en w' => en = .returned (.bool (decide (h i < h j))) ∧ ∃ m, w' = w.drewN m := by
  have hi' : (i : Int) < n := by omega
  have hj' : (j : Int) < n := by omega
  have c1 := ho.cellAt (fl_get h hi)
  have c2 := ho.cellAt (fl_get h hj)
  clear ho
  go_enter Try.func57, Try.ntmps57
  go_wp2_with fail
  go_quiet (fail)
  go_wp2_with fail
  go_ret
  exact ⟨rfl, _, rfl⟩
set_option maxRecDepth 100000 in
theorem swap_any (r n c i j base : Nat) (h : Nat → Nat) (w : World) (ho : Own w base 3 .i64 (.slice (some ⟨r, 0, none⟩) n c) (fl n h)) (hi : i < n) (hj : j < n) :
    Calls Try.prog 61 #[.slice (some ⟨r, 0, none⟩) n c, .int .i64 (i : Nat), .int .i64 (j : Nat)] w fun en w' => en = .returned (.tuple #[]) ∧ Own w' base 3 .i64 (.slice (some ⟨r, 0, none⟩) n c) (fl n (swp h i j)) ∧ Frm w w' [r] := by
  have hi' : (i : Int) < n := by omega
  have hj' : (j : Int) < n := by omega
  have c1 := ho.cellAt (fl_get h hi)
  have c2 := ho.cellAt (fl_get h hj)
  have f1 := ho.freeAt i
  have f2 := ho.freeAt j
  have fin : Own (((w.drew).setCell ⟨r, i, none⟩ (.int .i64 (h j : Nat))).setCell ⟨r, j, none⟩ (.int .i64 (h i : Nat))) base 3 .i64 (.slice (some ⟨r, 0, none⟩) n c) (fl n (swp h i j)) ∧ Frm w (((w.drew).setCell ⟨r, i, none⟩ (.int .i64 (h j : Nat))).setCell ⟨r, j, none⟩ (.int .i64 (h i : Nat))) [r] := by
    have hd : Own w.drew base 3 .i64 (.slice (some ⟨r, 0, none⟩) n c) (fl n h) := ho.drewN 1
    refine ⟨?_, ?_⟩
    · have h1 := (hd.set i (h j : Int)).set j (h i : Int)
      rw [fl_set (h := set1 h i (h j)) (set1_at _ _ _) (fun z hz => set1_ne _ _ hz), fl_set (h := swp h i j) (swp_r _ _ _) (fun z hz => by
        unfold swp set1
        by_cases e : z = i
        · rw [if_pos e, if_pos e]
        · rw [if_neg e, if_neg e, if_neg hz])] at h1
      exact h1
    · exact ((((Frm.refl w [r]).drewN 1).setCell ⟨r, i, none⟩ (.int .i64 (h j : Nat)) (.inl (by simp)))).setCell ⟨r, j, none⟩ (.int .i64 (h i : Nat)) (.inl (by simp))
  obtain ⟨v9, hv9⟩ := cell?_setCell_some (w := w) (p := ⟨r, i, none⟩) (x := .int .i64 (h j : Nat)) (q := ⟨r, j, none⟩) (v := .int .i64 (h j : Nat)) c2
  have fz := (ho.set i (h j : Int)).freeAt j
  have FIN := hide fin
  clear ho fin
  go_enter Try.func61, Try.ntmps61
  go_wp2_with fail
  go_region
  go_end0
  exact ⟨rfl, FIN.out⟩

set_option maxRecDepth 100000 in
set_option maxHeartbeats 2000000 in
theorem up_any (hb base n j0 r c : Nat) (h0 : Nat → Nat) (S : Nat → Prop) (w : World) (hq : QAt w hb base (.slice (some ⟨r, 0, none⟩) n c) n h0) (hu : UpOk h0 n j0) (hbag : Bag h0 n S) (hj : j0 < n) (hn : n ≤ 65536) :
    Calls Try.prog 37 #[.iface 45 (.pointer (some ⟨hb, 0, none⟩)), .int .i64 (j0 : Nat)] w fun en w' => en = .returned (.tuple #[]) ∧ ∃ h, QAt w' hb base (.slice (some ⟨r, 0, none⟩) n c) n h ∧ HeapOk h n ∧ Bag h n S ∧ Frm w w' [r] := by
  have HQ := hide hq
  have HU := hide hu
  have HBG := hide hbag
  have hrb : r ≠ hb := fun e => hq.off (by rw [e]; rfl)
  clear hq hu hbag
  go_enter Try.func37, Try.ntmps37
  go_wp2_with fail
  go_loopg [1] j0 (fun k z wr => ∃ (j : Nat) (h : Nat → Nat), j ≤ k ∧ z = .int .i64 (j : Nat) ∧ j < n ∧ Hid (UpOk h n j) ∧ Hid (Bag h n S) ∧ Hid (QAt wr hb base (.slice (some ⟨r, 0, none⟩) n c) n h) ∧ Hid (Frm w wr [r]))
  case atStart => exact ⟨j0, h0, Nat.le_refl _, rfl, hj, HU, HBG, HQ, hide (Frm.refl _ _)⟩
  case round =>
    clear HU HBG HQ
    obtain ⟨wq, rfl⟩ : ∃ x, x = wr := ⟨_, rfl⟩
    obtain ⟨k, rfl⟩ : ∃ x, x = gk := ⟨_, rfl⟩
    obtain ⟨j, h, hjk, rfl, hjn, HU, HBG, HQ, HF⟩ := hrel
    by_cases hj0 : j = 0
    · subst hj0
      go_wp2_with fail
      go_end0
      exact ⟨rfl, h, HQ.out, HU.out.done (.inl rfl), HBG.out, HF.out⟩
    · obtain ⟨i, hi⟩ : ∃ i, (j - 1) / 2 = i := ⟨_, rfl⟩
      have hij : i < j := by omega
      have hw1 : IntKind.i64.wrap ((j : Int) - 1) = (j : Int) - 1 := IntWalk.i64_in _ (by omega)
      have hd1 : ((j : Int) - 1).tdiv 2 = (i : Int) := by rw [show (j : Int) - 1 = ((j - 1 : Nat) : Int) by omega, ← hi]; rfl
      have hw2 : IntKind.i64.wrap (i : Int) = (i : Int) := IntWalk.i64_in _ (by omega)
      have e1 : ((i : Int) == (j : Int)) = false := by simp; omega
      have e2 : ¬ (i : Int) = (j : Int) := by omega
      have c1 := HQ.out.box.cell 0
      have m1 := fun W hc => method_less hb (.slice (some ⟨r, 0, none⟩) n c) W hc
      have m2 := fun W hc => method_swap hb (.slice (some ⟨r, 0, none⟩) n c) W hc
      go_wp2_with fail
      refine (less_any r n c j i base h wq HQ.out.row hjn (by omega)).mono ?_
      rintro en w6 ⟨rfl, m, rfl⟩
      have c2 : (wq.drewN m).cell? ⟨hb, 0, none⟩ = some (.slice (some ⟨r, 0, none⟩) n c) := c1
      by_cases hl : h j < h i
      · rw [show decide (h j < h i) = true from decide_eq_true hl]
        go_wp2_with fail
        refine (swap_any r n c i j base h (wq.drewN m) (HQ.out.row.drewN m) (by omega) hjn).mono ?_
        rintro en w7 ⟨rfl, ho7, hf7⟩
        have HF7 : Hid (Frm w w7 [r]) := hide (HF.out.trans' (((Frm.refl wq [r]).drewN m).trans' hf7 (fun x hx => .inl hx)) (fun x hx => .inl hx))
        have HQ7 : Hid (QAt w7 hb base (.slice (some ⟨r, 0, none⟩) n c) n (swp h i j)) := hide ⟨HQ.out.box.frm (((Frm.refl wq [r]).drewN m).trans' hf7 (fun x hx => .inl hx)) (by simpa using fun e : hb = r => hrb e.symm), ho7, HQ.out.off⟩
        have HU7 : Hid (UpOk (swp h i j) n i) := hide (by rw [← hi] at hl ⊢; exact HU.out.step hjn (by omega) hl)
        have HB7 := hide (HBG.out.swp (show i < n by omega) hjn)
        clear ho7 hf7 c1 c2
        go_wp2_with fail
        go_roundg (k - 1)
        case measure => omega
        case rel => exact ⟨i, swp h i j, by omega, rfl, by omega, HU7, HB7, HQ7, HF7⟩
      · rw [show decide (h j < h i) = false from decide_eq_false hl]
        have HF7 : Hid (Frm w (wq.drewN m) [r]) := hide (HF.out.drewN m)
        have HQ7 := hide (HQ.out.still ((Frm.refl wq []).drewN m))
        clear c1 c2
        go_wp2_with fail
        go_end0
        exact ⟨rfl, h, HQ7.out, HU.out.done (.inr (by rw [hi]; omega)), HBG.out, HF7.out⟩

theorem fl_push (n : Nat) (h : Nat → Nat) (x : Nat) : fl (n + 1) (set1 h n x) = fl n h ++ [(x : Int)] := by
  unfold fl
  rw [List.range_succ, List.map_append]
  congr 1
  · exact List.map_congr_left fun i hi => by rw [set1_ne _ _ (by have := List.mem_range.1 hi; omega)]
  · simp [set1_at]
theorem assert_int (z : Int) (w : World) : Sem.run Try.prog (Instr.typeAssert (.iface 3 (.int .i64 z)) 20 3 false) w = .ok (.int .i64 z) w := by kernel_rfl
theorem intQ : ElemV Try.prog 46 3 (.int .i64 0) 8 := ⟨by kernel_rfl, rfl, info_parts infoInt⟩
set_option maxRecDepth 100000 in
set_option maxHeartbeats 2000000 in
theorem qpush_any (hb base n c x : Nat) (A : Option Addr) (h : Nat → Nat) (w : World) (hq : QAt w hb base (.slice A n c) n h) (hn : n ≤ 65536) (hbs : base ≤ w.heap.size) :
    Calls Try.prog 59 #[.pointer (some ⟨hb, 0, none⟩), .iface 3 (.int .i64 (x : Nat))] w fun en w' => en = .returned (.tuple #[]) ∧ ∃ r' c', QAt w' hb base (.slice (some ⟨r', 0, none⟩) (n + 1) c') (n + 1) (set1 h n x) ∧ Frm w w' (hb :: (Value.slice A n c).ownBlock.toList) ∧ ((Value.slice (some ⟨r', 0, none⟩) (n + 1) c').ownBlock = (Value.slice A n c).ownBlock ∨ w.heap.size ≤ r') := by
  have c1 := hq.box.cell 0
  have f1 := hq.box.free 0
  have HQ := hide hq
  have hta := assert_int (x : Int)
  obtain ⟨_, _, e3, hd, hm, -⟩ := hq.row.rd
  rw [fl_len] at e3 hd
  injection e3 with e3 e4 e5
  subst e3 e5
  have hd9 : c ≤ 9223372036854775807 := by unfold maxLen at hm; omega
  clear hq hm e4
  go_enter Try.func59, Try.ntmps59
  go_wp2_with fail
  have HO2 : Hid (OwnV (w.alloc (.cells #[.int .i64 (x : Nat)] 3)).drew base 3 (.slice A n c) ((fl n h).map (Value.int .i64))) := hide (HQ.out.row.alloc _).toV
  have hone : ∀ y ∈ [Value.int .i64 (x : Int)], y.oneCell' = true := by
    intro y hy; rw [List.mem_singleton] at hy; subst hy; rfl
  have hby : (((fl n h).map (Value.int .i64)).length + [Value.int .i64 (x : Int)].length) * 8 ≤ 140737488355328 := by
    simp only [List.length_map, List.length_cons, List.length_nil, fl_len]; omega
  have hml : ((fl n h).map (Value.int .i64)).length + [Value.int .i64 (x : Int)].length ≤ maxLen := by
    unfold maxLen; simp only [List.length_map, List.length_cons, List.length_nil, fl_len]; omega
  have hB2 : base ≤ (w.alloc (.cells #[.int .i64 (x : Int)] 3)).drew.heap.size := by
    show _ ≤ (w.alloc _).heap.size
    rw [World.size_alloc]; omega
  have cbx1 : (w.alloc (.cells #[.int .i64 (x : Int)] 3)).cell? ⟨hb, 0, none⟩ = some (.slice A n c) := (HQ.out.box.alloc _).cell 0
  have fbx1 : (w.alloc (.cells #[.int .i64 (x : Int)] 3)).frozen? ⟨hb, 0, none⟩ = false := (HQ.out.box.alloc _).free 0
  have HAFT : Hid (∀ v' w5, OwnV w5 base 3 v' ((fl n h).map (Value.int .i64) ++ [.int .i64 (x : Int)]) → Frm (w.alloc (.cells #[.int .i64 (x : Int)] 3)).drew w5 (Value.slice A n c).ownBlock.toList → (v'.ownBlock = (Value.slice A n c).ownBlock ∨ v'.ownBlock = some (w.alloc (.cells #[.int .i64 (x : Int)] 3)).drew.heap.size) →
      ∃ r5 c5, v' = .slice (some ⟨r5, 0, none⟩) (n + 1) c5 ∧ w5.cell? ⟨hb, 0, none⟩ = some (.slice A n c) ∧ w5.frozen? ⟨hb, 0, none⟩ = false ∧
        Hid (QAt (w5.setCell ⟨hb, 0, none⟩ v') hb base v' (n + 1) (set1 h n x) ∧ Frm w (w5.setCell ⟨hb, 0, none⟩ v') (hb :: (Value.slice A n c).ownBlock.toList) ∧ (v'.ownBlock = (Value.slice A n c).ownBlock ∨ w.heap.size ≤ r5))) := hide (by
    intro v' w5 ho5 hf5 hb5
    have hf5 : Frm (w.alloc (.cells #[.int .i64 (x : Int)] 3)) w5 (Value.slice A n c).ownBlock.toList := (Frm.drew _ _).trans hf5
    have hsz : (w.alloc (.cells #[.int .i64 (x : Int)] 3)).drew.heap.size = w.heap.size + 1 := World.size_alloc _ _
    have ho6 : Own w5 base 3 .i64 v' (fl (n + 1) (set1 h n x)) := OwnV.toI (by rw [fl_push, List.map_append]; exact ho5)
    have hlt := HQ.out.box.lt
    have hoff := HQ.out.off
    have hbx6 : Whole w5 hb 48 #[.slice A n c] := (HQ.out.box.alloc (.cells #[.int .i64 (x : Int)] 3)).frm hf5 (fun hg => hoff (by simpa using hg))
    obtain ⟨r5, c5, rfl, -, -, -, -⟩ := ho6.form (by rw [fl_len]; omega)
    rw [fl_len] at ho5 ho6 hb5 ⊢
    have hoff' : (Value.slice (some ⟨r5, 0, none⟩) (n + 1) c5).ownBlock ≠ some hb := by
      rcases hb5 with e | e
      · rw [e]; exact hoff
      · rw [e, hsz]; intro e; injection e with e; omega
    have hset : Frm w5 (w5.setCell ⟨hb, 0, none⟩ (.slice (some ⟨r5, 0, none⟩) (n + 1) c5)) [hb] := (Frm.refl _ [hb]).setCell _ _ (.inl (by simp))
    refine ⟨r5, c5, rfl, hbx6.cell 0, hbx6.free 0, hide ⟨⟨hbx6.set 0 _, ho6.frmS hset (fun y hy hm => hoff' (by rw [hy, List.mem_singleton.1 hm])), hoff'⟩, ?_, hb5.imp id (fun e => ?_)⟩⟩
    · refine Frm.trans' ((Frm.refl w (hb :: (Value.slice A n c).ownBlock.toList)).alloc (.cells #[.int .i64 (x : Int)] 3)) ((hf5.mono (fun y hy => .inl (List.mem_cons_of_mem _ hy))).trans' hset (fun y hy => .inl (by rw [List.mem_singleton.1 hy]; exact List.mem_cons_self ..))) (fun y hy => .inl hy)
    · rw [hsz] at e
      have e2 : r5 = w.heap.size + 1 := by simpa [Value.ownBlock] using e
      omega)
  go_region_law (refine step_append_v rfl (.tmp 8) (.tmp 11) 46 rfl base 3 (.int .i64 0) 8 intQ (.slice A n c) ((fl n h).map (Value.int .i64)) (by simp [Act.eval]) HO2.out (.slice (some ⟨w.heap.size, 0, none⟩) 1 1) [.int .i64 (x : Int)] (by simp [Act.eval]) (rdv_one_drew _ _ _) hone hby hml hB2 ?_; intro v' w5 ho5 hf5 hb5; obtain ⟨r5, c5, rfl, cb6, fr6, HP⟩ := HAFT.out v' w5 ho5 hf5 hb5; clear ho5 hf5 hb5)
  all_goals
    clear cbx1 fbx1 hB2 hml hby hone HO2 HAFT
    go_wp2_with fail
    go_end0
    exact ⟨rfl, r5, c5, HP.out⟩

set_option maxRecDepth 100000 in
set_option maxHeartbeats 2000000 in
/-- heap.Push. -/
theorem hpush_any (hb base n c x : Nat) (A : Option Addr) (h : Nat → Nat) (S : Nat → Prop) (w : World) (hq : QAt w hb base (.slice A n c) n h) (ho : HeapOk h n) (hbag : Bag h n S) (hx : ¬ S x) (hn : n < 65536) (hbs : base ≤ w.heap.size) :
    Calls Try.prog 28 #[.iface 45 (.pointer (some ⟨hb, 0, none⟩)), .iface 3 (.int .i64 (x : Nat))] w fun en w' => en = .returned (.tuple #[]) ∧ ∃ r' c' h', QAt w' hb base (.slice (some ⟨r', 0, none⟩) (n + 1) c') (n + 1) h' ∧ HeapOk h' (n + 1) ∧ Bag h' (n + 1) (fun y => S y ∨ y = x) ∧ Frm w w' (hb :: (Value.slice A n c).ownBlock.toList) ∧ ((Value.slice (some ⟨r', 0, none⟩) (n + 1) c').ownBlock = (Value.slice A n c).ownBlock ∨ w.heap.size ≤ r') := by
  have HQ := hide hq
  have HO := hide ho
  have HBG := hide hbag
  have HX := hide hx
  clear hq ho hbag hx
  go_enter Try.func28, Try.ntmps28
  go_wp2_with fail
  refine (qpush_any hb base n c x A h w HQ.out (by omega) hbs).mono ?_
  rintro en w1 ⟨rfl, r1, c1, hq1, hf1, hd1⟩
  have HQ1 := hide hq1
  have HF1 := hide hf1
  have HD1 := hide hd1
  have k1 := hq1.box.cell 0
  have m1 := fun W hc => method_len hb (.slice (some ⟨r1, 0, none⟩) (n + 1) c1) W hc
  have hw1 : IntKind.i64.wrap (((n + 1 : Nat) : Int) - 1) = (n : Int) := by rw [show (((n + 1 : Nat) : Int) - 1) = (n : Int) by omega]; exact IntWalk.i64_in _ (by omega)
  clear hq1 hf1 hd1
  go_wp2_with fail
  refine (qlen_any (some ⟨r1, 0, none⟩) (n + 1) c1 w1).mono ?_
  rintro en w2 ⟨rfl, rfl⟩
  go_wp2_with fail
  refine (up_any hb base (n + 1) n r1 c1 (set1 h n x) (fun y => S y ∨ y = x) w2 HQ1.out (HO.out.push x) (HBG.out.push HX.out) (by omega) (by omega)).mono ?_
  rintro en w3 ⟨rfl, h', hq3, ho3, hb3, hf3⟩
  have HZ : Hid (QAt w3 hb base (.slice (some ⟨r1, 0, none⟩) (n + 1) c1) (n + 1) h' ∧ HeapOk h' (n + 1) ∧ Bag h' (n + 1) (fun y => S y ∨ y = x) ∧ Frm w w3 (hb :: (Value.slice A n c).ownBlock.toList)) := hide ⟨hq3, ho3, hb3, HF1.out.trans' hf3 (fun y hy => by
    rw [List.mem_singleton.1 hy]
    rcases HD1.out with e | e
    · exact .inl (List.mem_cons_of_mem _ (by rw [← e]; simp [Value.ownBlock]))
    · exact .inr e)⟩
  clear hq3 ho3 hb3 hf3
  go_wp2_with fail
  go_end0
  exact ⟨rfl, r1, c1, h', HZ.out.1, HZ.out.2.1, HZ.out.2.2.1, HZ.out.2.2.2, HD1.out⟩
end Go.Proofs.Ytakojoedifhcnaa

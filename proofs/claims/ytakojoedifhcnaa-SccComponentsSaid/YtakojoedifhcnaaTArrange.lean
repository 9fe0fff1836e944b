/-
  Layer 7 (scc): arrange.
-/
import Derived.Test.YtakojoedifhcnaaTArrAt
import Derived.Test.YtakojoedifhcnaaTIdx
namespace Go.Proofs.Ytakojoedifhcnaa
open Go.RowKit

theorem codeG_zero {g : List (List Int)} (h : okG g = true) (hN : g.length ≤ 65536) : codeG g = 0 := by
  unfold codeG; rw [if_neg (by omega), if_pos h]
def lens (C : List (List Int)) (a k : Nat) : Nat := if k < a then (C.getD k []).length else 0
theorem lens_zero (C : List (List Int)) : lens C 0 = fun _ => 0 := by funext k; simp [lens]
theorem lens_at (C : List (List Int)) (a : Nat) : lens C (a + 1) a = (C.getD a []).length := by unfold lens; rw [if_pos (by omega)]
theorem lens_ne (C : List (List Int)) {a k : Nat} (h : k ≠ a) : lens C (a + 1) k = lens C a k := by
  unfold lens
  by_cases c : k < a
  · rw [if_pos c, if_pos (by omega)]
  · rw [if_neg c, if_neg (by omega)]
/-- Those of the first a that have no successors. -/
def leafs (C : List (List Int)) (a k : Nat) : Prop := k < a ∧ (C.getD k []).length = 0
theorem leafs_end (C : List (List Int)) (k : Nat) : leafs C C.length k ↔ Rdy C [] k := by
  rw [rdy_iff, miss_nil]; unfold leafs; simp
theorem ready_mem {C : List (List Int)} {lst : List Nat} {x : Nat} (hg : Grd C lst) (hr : Rdy C lst x) : lst.length < C.length := by
  have h1 : (lst ++ [x]).Nodup := List.nodup_append.2 ⟨hg.nodup, by simp, fun a ha b hb e => hr.2.1 (by rw [← List.mem_singleton.1 hb, ← e]; exact ha)⟩
  have := nodup_len (n := C.length) h1 (fun y hy => by
    rcases List.mem_append.1 hy with hy | hy
    · exact hg.lt y hy
    · rw [List.mem_singleton.1 hy]; exact hr.1)
  rw [List.length_append, List.length_singleton] at this
  omega
theorem set1_self (f : Nat → Nat) (x : Nat) : set1 f x (f x) = f := by
  funext i; unfold set1; split
  · rename_i h; rw [h]
  · rfl

set_option maxRecDepth 100000 in
set_option maxHeartbeats 4000000 in
theorem arr_any (A : Option Addr) (c : Nat) (C : List (List Int)) (w : World) (hg : RdL w A c C) (hok : okG C = true) (hN : C.length ≤ 65536) (hE : edges C ≤ 1000000) :
    Calls Try.prog 23 #[.agg #[.slice A C.length c]] w fun en w' => (∃ F lst pl, en = .returned (.slice (some ⟨F, 0, none⟩) C.length C.length) ∧ Grd C lst ∧ (∀ k, ¬ Rdy C lst k) ∧ (∀ i k, lst[i]? = some k → pl k = i) ∧ Own w' w.heap.size 3 .i64 (.slice (some ⟨F, 0, none⟩) C.length C.length) (fl C.length pl)) ∧ Below w.heap.size w w' := by
  have hc := hg.cap
  have hc9 : c ≤ 9223372036854775807 := by unfold maxLen at hc; omega
  have HCO := hide (codeG_zero hok hN)
  have HOK := hide hok
  have HEE := hide hE
  have HPOS : Hid (∀ k, ∀ m ∈ C.getD k [], 0 ≤ m) := hide (by
    intro k m hm
    by_cases hk : k < C.length
    · obtain ⟨l, hl⟩ : ∃ l, C[k]? = some l := ⟨_, List.getElem?_eq_getElem hk⟩
      rw [getD_of hl] at hm
      obtain ⟨j, hj⟩ := List.getElem?_of_mem hm
      obtain ⟨b, rfl, -⟩ := ok_node hok hl hj
      omega
    · rw [List.getD_eq_getElem?_getD, List.getElem?_eq_none (by omega)] at hm; cases hm)
  have hmk := fun W : World => run_made W 29 3 (.int .i64 0) 8 Try.underlying29 infoInt rfl (by omega) C.length (by omega)
  obtain ⟨w1, hw1⟩ : ∃ x, w.alloc (.cells #[.slice A C.length c] 24) = x := ⟨_, rfl⟩
  have hs1 : w1.heap.size = w.heap.size + 1 := by rw [← hw1, World.size_alloc]
  have hx1 : w1.cell? ⟨w.heap.size, 0, none⟩ = some (.slice A C.length c) := by rw [← hw1]; simp [go_sem]
  have hB1 : Below w.heap.size w w1 := by rw [← hw1]; exact (Below.refl _ _).alloc (Nat.le_refl _) _
  have HG1 := hide (hg.below' hB1)
  obtain ⟨w2, hw2⟩ : ∃ x, w1.alloc (.cells (madeCells #[.int .i64 0] C.length) 3) = x := ⟨_, rfl⟩
  obtain ⟨w3, hw3⟩ : ∃ x, w2.alloc (.cells #[.slice none 0 0] 48) = x := ⟨_, rfl⟩
  have hs2 : w2.heap.size = w.heap.size + 2 := by rw [← hw2, World.size_alloc, hs1]
  have hs3 : w3.heap.size = w.heap.size + 3 := by rw [← hw3, World.size_alloc, hs2]
  have hB3 : Below w1.heap.size w1 w3 := by rw [← hw3, ← hw2]; exact ((Below.refl _ _).alloc (Nat.le_refl _) _).alloc (by simp) _
  have hx3 : w3.cell? ⟨w.heap.size, 0, none⟩ = some (.slice A C.length c) := (hB3.cell (p := ⟨w.heap.size, 0, none⟩) (by show w.heap.size < _; omega)).trans hx1
  have HM3 : Hid (Own w3 w1.heap.size 3 .i64 (.slice (some ⟨w.heap.size + 1, 0, none⟩) C.length C.length) (fl C.length (lens C 0))) := hide (by
    rw [← hw3]
    refine Own.alloc ?_ _
    rw [← hw2, ← hs1]
    refine OwnV.toI ?_
    have := own_madeV w1 3 (.int .i64 0) C.length w1.heap.size (by unfold maxLen; omega) (Nat.le_refl _)
    have e : (fl C.length (lens C 0)).map (Value.int .i64) = List.replicate C.length (.int .i64 0) := by
      unfold fl; apply List.ext_getElem <;> simp [lens]
    rw [e]; exact this)
  have HQ3 : Hid (QAt w3 (w.heap.size + 2) w3.heap.size (.slice none 0 0) 0 (fun _ => 0)) := hide ⟨by rw [← hw3, ← hs2]; exact Whole.new _ _ _, by exact Own.nil, by simp [Value.ownBlock]⟩
  have HB1 := hide hB1
  have HB3 := hide hB3
  clear hg hok hE hc hB1 hB3
  go_enter Try.func23, Try.ntmps23
  go_wp2_with fail

  have HX1 := hide hx1
  clear hw1 hw2 hw3 hx1 hx3
  go_loopw [22] (fun z wr => ∃ (a n cq : Nat) (Aq : Option Addr) (h : Nat → Nat), a ≤ C.length ∧ z = .int .i64 a ∧ Hid (HeapOk h n) ∧ Hid (Bag h n (leafs C a)) ∧ Hid (QAt wr (w.heap.size + 2) w3.heap.size (.slice Aq n cq) n h) ∧ Hid (Own wr w1.heap.size 3 .i64 (.slice (some ⟨w.heap.size + 1, 0, none⟩) C.length C.length) (fl C.length (lens C a))) ∧ Hid (Below w1.heap.size w1 wr)) (fun z _ => C.length - (intOf z).toNat)
  case atStart => exact ⟨0, 0, 0, none, _, Nat.zero_le _, rfl, hide (HeapOk.zero _), hide ((Bag.zero _).congr fun k => by unfold leafs; constructor; exact fun h => h.elim; intro h; omega), HQ3, HM3, HB3⟩
  case round =>
    clear HQ3 HM3 HB3
    obtain ⟨wq, rfl⟩ : ∃ x, x = wr := ⟨_, rfl⟩
    obtain ⟨a, n, cq, Aq, h, ha, rfl, HH, HBG, HQ, HM, HB⟩ := hrel
    have hx4 : wq.cell? ⟨w.heap.size, 0, none⟩ = some (.slice A C.length c) := (HB.out.cell (p := ⟨w.heap.size, 0, none⟩) (by show w.heap.size < w1.heap.size; omega)).trans HX1.out
    by_cases hlt : a < C.length
    · obtain ⟨l, hl⟩ : ∃ l, C[a]? = some l := ⟨_, List.getElem?_eq_getElem hlt⟩
      have hlt' : (a : Int) < C.length := by omega
      obtain ⟨b, off, B, d, rfl, hbl2, hcell2, hrow⟩ := HG1.out.at hl
      have hcell := (HB.out.cell (p := ⟨b, off + a, none⟩) hbl2).trans hcell2
      obtain ⟨_, _, e3, hd, hm, -⟩ := hrow
      injection e3 with e3 e4 e5
      subst e3 e5
      have hd9 : d ≤ 9223372036854775807 := by unfold maxLen at hm; omega
      have hgl : (C.getD a []).length = l.length := by rw [getD_of hl]
      have fm := HM.out.freeAt a
      have cm := HM.out.cellAt (fl_get (lens C a) hlt)
      obtain ⟨w5, h5⟩ : ∃ x, wq.setCell ⟨w.heap.size + 1, a, none⟩ (.int .i64 (l.length : Nat)) = x := ⟨_, rfl⟩
      have hf5 : Frm wq w5 [w.heap.size + 1] := by rw [← h5]; exact (Frm.refl _ _).setCell _ _ (.inl (by simp))
      have HM5 : Hid (Own w5 w1.heap.size 3 .i64 (.slice (some ⟨w.heap.size + 1, 0, none⟩) C.length C.length) (fl C.length (lens C (a + 1)))) := hide (by
        have := HM.out.set a (l.length : Int)
        rw [fl_set (h := lens C (a + 1)) (by rw [lens_at, hgl]) (fun z hz => lens_ne C hz), h5] at this
        exact this)
      have HQ5 : Hid (QAt w5 (w.heap.size + 2) w3.heap.size (.slice Aq n cq) n h) := hide (HQ.out.frm hf5 (by simp) (fun y hy hm => by
        have h1 := (HQ.out.row.size y hy).1
        rw [List.mem_singleton.1 hm] at h1
        omega))
      have HB5 : Hid (Below w1.heap.size w1 w5) := hide (HB.out.trans (hf5.toBelow (by simp; omega) HB.out.size))
      clear hbl2 hcell2 hm e4 hl HQ HM HB hf5
      by_cases h0 : l.length = 0
      · have h0b : ((l.length : Int) == 0) = true := by simp [h0]
        have h0c : (l.length : Int) = 0 := by omega
        have HHP : Hid (¬ leafs C a a) := hide (by unfold leafs; omega)
        have HLF : Hid (∀ k, (leafs C a k ∨ k = a) ↔ leafs C (a + 1) k) := hide (fun k => by
          unfold leafs
          constructor
          · rintro (⟨h1, h2⟩ | rfl)
            · exact ⟨by omega, h2⟩
            · exact ⟨by omega, by omega⟩
          · rintro ⟨h1, h2⟩
            by_cases e : k = a
            · exact .inr e
            · exact .inl ⟨by omega, h2⟩)
        have hnN : n ≤ a := HBG.out.few (fun x hx => hx.1)
        have hsz : w3.heap.size ≤ w5.heap.size := by have := HQ5.out.box.lt; omega
        have HK := hide (hpush_any (w.heap.size + 2) w3.heap.size n cq a Aq h (leafs C a) w5 HQ5.out HH.out HBG.out HHP.out (by omega) hsz)
        have h5' : wq.setCell ⟨w.heap.size + 1, a, none⟩ (.int .i64 0) = w5 := by rw [← h5, h0]; rfl
        clear hgl h5
        go_wp2_with fail
        refine HK.out.mono ?_
        rintro en w6 ⟨rfl, r', c', h', hq6, ho6, hb6, hf6, hd6⟩
        have HZ := hide (And.intro hq6 (And.intro ho6 (And.intro (hb6.congr HLF.out) hf6)))
        clear hq6 ho6 hb6 hf6 hd6 HK
        go_wp2_with fail
        go_roundw
        case rel => exact ⟨a + 1, n + 1, c', _, h', by omega, by go_num, hide HZ.out.2.1, hide HZ.out.2.2.1, hide HZ.out.1, hide (HM5.out.frmS HZ.out.2.2.2 (fun y hy hm => by
          have e : w.heap.size + 1 = y := by simpa [Value.ownBlock] using hy
          subst e
          rcases List.mem_cons.1 hm with e | hm
          · omega
          · have h1 := (HQ5.out.row.size _ (by simpa using hm)).1
            omega)), hide (HB5.out.trans (HZ.out.2.2.2.toBelow (fun y hy => by
          rcases List.mem_cons.1 hy with e | hm
          · omega
          · have h1 := (HQ5.out.row.size _ (by simpa using hm)).1
            omega) HB5.out.size))⟩
        case measure => simp [intOf]; omega
      · have h0b : ((l.length : Int) == 0) = false := by rw [beq_eq_false_iff_ne]; omega
        have h0c : ¬ (l.length : Int) = 0 := by omega
        have HBG2 : Hid (Bag h n (leafs C (a + 1))) := hide (HBG.out.congr fun k => by
          unfold leafs
          constructor
          · rintro ⟨h1, h2⟩; exact ⟨by omega, h2⟩
          · rintro ⟨h1, h2⟩
            by_cases e : k = a
            · rw [e] at h2; omega
            · exact ⟨by omega, h2⟩)
        clear hgl
        go_wp2_with fail
        go_roundw
        case rel => exact ⟨a + 1, n, cq, Aq, h, by omega, by go_num, HH, HBG2, HQ5, HM5, HB5⟩
        case measure => simp [intOf]; omega
    · obtain rfl : a = C.length := by omega
      obtain ⟨w7, h7⟩ : ∃ x, wq.alloc (.cells (madeCells #[.int .i64 0] C.length) 3) = x := ⟨_, rfl⟩
      have hb7 : Below wq.heap.size wq w7 := by rw [← h7]; exact (Below.refl _ _).alloc (Nat.le_refl _) _
      have hs7 : w7.heap.size = wq.heap.size + 1 := by rw [← h7, World.size_alloc]
      have hx7 : w7.cell? ⟨w.heap.size, 0, none⟩ = some (.slice A C.length c) := (hb7.cell (p := ⟨w.heap.size, 0, none⟩) (lt_of_cell hx4)).trans hx4
      obtain ⟨P, hP⟩ : ∃ x, wq.heap.size = x := ⟨_, rfl⟩
      have HP7 : Hid (Own w7 w1.heap.size 3 .i64 (.slice (some ⟨P, 0, none⟩) C.length C.length) (fl C.length (fun _ => 0))) := hide (by
        rw [← h7, ← hP]
        refine OwnV.toI ?_
        have := own_madeV wq 3 (.int .i64 0) C.length w1.heap.size (by unfold maxLen; omega) HB.out.size
        have e : (fl C.length (fun _ => 0)).map (Value.int .i64) = List.replicate C.length (.int .i64 0) := by
          unfold fl; apply List.ext_getElem <;> simp
        rw [e]; exact this)
      have HQ7 := hide (HQ.out.still (Frm.below hb7))
      have HM7 := hide (HM.out.below' hb7)
      have HB7 := hide (HB.out.trans (hb7.mono HB.out.size))
      have HG7 := hide (HG1.out.below' HB7.out)
      have HQL : Hid (∀ y, (Value.slice Aq n cq).ownBlock = some y → w3.heap.size ≤ y ∧ y < P) := hide fun y hy => by have := HQ.out.row.size y hy; omega
      have hP3 : w3.heap.size ≤ P := by have := HQ.out.box.lt; omega
      have HK := hide (reverse_any A c C w7 HG7.out HCO.out HEE.out)
      obtain ⟨svb, hsvb⟩ : ∃ x, (Value.slice Aq n cq).ownBlock.toList = x := ⟨_, rfl⟩
      have hmk7 := hmk wq
      rw [hP] at hmk7 hs7
      clear HQ HM HB hb7 hmk
      go_wp2_with fail
      refine HK.out.mono ?_
      rintro en w8 ⟨D, rfl, ⟨R, hL⟩, hb8⟩
      have hfi := fun W => run_field (some ⟨D, 0, none⟩) C.length C.length W
      have HB8 := hide hb8
      have HL8 := hide hL
      have HR8 : Hid (R.length = C.length) := hide (by have := hL.len; rwa [rev_len] at this)
      have hne : w.heap.size + 1 ≠ w.heap.size + 2 ∧ w.heap.size + 1 ≠ P ∧ P ≠ w.heap.size + 2 := by omega
      have HJ8 : Hid (ArrJ w8 w8 C.length (w.heap.size + 1) (w.heap.size + 2) P w3.heap.size w1.heap.size svb (leafs C C.length) (lens C C.length) (fun _ => 0) h n (.slice Aq n cq)) := hide ⟨HQ7.out.still (Frm.below hb8), HH.out, HBG.out, HM7.out.below' hb8, HP7.out.below' hb8, Frm.refl _ _, fun y hy => ⟨.inl (by rw [← hsvb, hy]; simp), by have := HQL.out y hy; omega, by have := HQL.out y hy; omega⟩, hne⟩
      have HS8 : Hid (∀ g ∈ (w.heap.size + 1) :: (w.heap.size + 2) :: P :: svb, w1.heap.size ≤ g ∧ g < w7.heap.size) := hide (by
        intro y hy
        rcases List.mem_cons.1 hy with e | hy
        · omega
        rcases List.mem_cons.1 hy with e | hy
        · omega
        rcases List.mem_cons.1 hy with e | hy
        · omega
        · have := HQL.out y (by rw [← hsvb] at hy; simpa using hy); omega)
      have HB18 : Hid (Below w1.heap.size w1 w8) := hide (HB7.out.trans (hb8.mono HB7.out.size))
      clear hL hb8 HH HBG HQ7 HM7 HP7 HK h7 hx7 hmk7 HG7 hx4
      go_wp2_with fail
      clear hfi
      go_loopw [9] (fun z wr => ∃ (lst : List Nat) (ms pl h : Nat → Nat) (n : Nat) (sv : Value) (Q : Nat → Prop), z = .int .i64 (lst.length : Nat) ∧ Hid (Grd C lst) ∧ Hid (∀ i k, lst[i]? = some k → pl k = i) ∧ Hid (∀ k, k < C.length → ms k = miss C lst k) ∧ Hid (∀ k, Q k ↔ Rdy C lst k) ∧ Hid (ArrJ w8 wr C.length (w.heap.size + 1) (w.heap.size + 2) P w3.heap.size w1.heap.size svb Q ms pl h n sv)) (fun z _ => C.length - (intOf z).toNat)
      case atStart => exact ⟨[], lens C C.length, fun _ => 0, h, n, _, leafs C C.length, rfl, hide .nil, hide (fun i k hk => by simp at hk), hide (fun k hk => by rw [miss_nil]; unfold lens; rw [if_pos hk]), hide (leafs_end C), HJ8⟩
      case round =>
        clear HJ8
        obtain ⟨wk, rfl⟩ : ∃ x, x = wr := ⟨_, rfl⟩
        obtain ⟨lst, ms, pl, h2, n2, sv, Q, rfl, HGR, HPL, HMS, HQQ, HJ⟩ := hrel
        obtain ⟨A2, c2, rfl, hn2, hc2, -⟩ := HJ.out.q.row.rd
        rw [fl_len] at hn2 HJ
        have hc29 : c2 ≤ 9223372036854775807 := by unfold maxLen at hc2; omega
        have k1 := HJ.out.q.box.cell 0
        have hnN : n2 ≤ C.length := HJ.out.bag.few (fun x hx => ((HQQ.out x).1 hx).1)
        cases n2 with
        | zero =>
          have HZ : Hid (∀ k, ¬ Rdy C lst k) := hide fun k hk => by
            obtain ⟨i, hi, -⟩ := HJ.out.bag.all k ((HQQ.out k).2 hk)
            omega
          have HBZ : Hid (Below w.heap.size w wk) := hide ((HB1.out.trans (HB18.out.mono HB1.out.size)).trans (HJ.out.frm.toBelow (fun g hg => by have := (HS8.out g hg).1; omega) (by have := HB18.out.size; omega)))
          have HPZ := hide (HJ.out.p.low (b := w.heap.size) (by omega))
          clear hc2
          go_wp2_with fail
          refine (qlen_any A2 0 c2 wk).mono ?_
          rintro en w9 ⟨rfl, rfl⟩
          go_wp2_with fail
          go_ret
          exact ⟨⟨P, lst, pl, rfl, HGR.out, HZ.out, HPL.out, HPZ.out⟩, HBZ.out⟩
        | succ m =>
          obtain ⟨r, c3, e3, -, -, -, -⟩ := HJ.out.q.row.form (by rw [fl_len]; omega)
          rw [fl_len] at e3
          injection e3 with e3 e4 e5
          subst e3 e5
          clear hc2 e4
          have hgt : decide ((0 : Int) < ((m + 1 : Nat) : Int)) = true := decide_eq_true (by omega)
          have hgt2 : (0 : Int) < ((m + 1 : Nat) : Int) := by omega
          go_wp2_with fail
          refine (qlen_any (some ⟨r, 0, none⟩) (m + 1) c2 wk).mono ?_
          rintro en w9 ⟨rfl, rfl⟩
          go_wp2_with fail
          refine (hpop_any (w.heap.size + 2) w3.heap.size m r c2 h2 Q w9 HJ.out.q HJ.out.heap HJ.out.bag (by omega)).mono ?_
          rintro en w10 ⟨x, h3, rfl, hSx, hleast, hq10, ho10, hb10, hf10⟩
          have hta := fun W => assert_int (x : Int) W
          have HRX : Hid (Rdy C lst x) := hide ((HQQ.out x).1 hSx)
          have HLE : Hid (∀ k, Rdy C lst k → x ≤ k) := hide fun k hk => hleast k ((HQQ.out k).2 hk)
          have HJ10 := hide (HJ.out.queue (hf10.mono (by simp [Value.ownBlock])) hq10 ho10 hb10 (.inl rfl))
          have hxN := HRX.out.1
          have hxN' : (x : Int) < C.length := by omega
          have hll := ready_mem HGR.out HRX.out
          have fp := HJ10.out.p.freeAt x
          have cp := HJ10.out.p.cellAt (fl_get pl hxN)
          obtain ⟨w11, h11⟩ : ∃ y, w10.setCell ⟨P, x, none⟩ (.int .i64 (lst.length : Nat)) = y := ⟨_, rfl⟩
          have HJ11 := hide (h11 ▸ HJ10.out.setP x lst.length)
          obtain ⟨v, hv⟩ : ∃ v, R[x]? = some v := ⟨_, List.getElem?_eq_getElem (by rw [HR8.out]; exact hxN)⟩
          obtain ⟨l, hl⟩ : ∃ l, revTo C C.length x = l := ⟨_, rfl⟩
          have hget : (rev C)[x]? = some l := by rw [← hl]; simp [rev, hxN]
          have HL11 : Hid (OwnL w11 w7.heap.size D R (rev C)) := hide (HL8.out.far HJ11.out.frm (fun g hg => (HS8.out g hg).2))
          have cv := HL11.out.own.cellAt hv
          have HROW0 := hide (HL8.out.row x v l hv hget)
          have HROWS : Hid (∀ g, v.ownBlock = some g → g ∉ (w.heap.size + 1) :: (w.heap.size + 2) :: P :: svb) := hide fun g hg hm => by
            have h1 := (HROW0.out.size g hg).1
            have h2 := (HS8.out g hm).2
            omega
          have HROW : Hid (∀ W, Frm w8 W ((w.heap.size + 1) :: (w.heap.size + 2) :: P :: svb) → Rd W .i64 v l) := hide fun W hW => (HROW0.out.frmS hW HROWS.out).rd
          obtain ⟨Bv, dv, rfl, hdv1, hdv2, -⟩ := HROW0.out.rd
          have hdv9 : dv ≤ 9223372036854775807 := by unfold maxLen at hdv2; omega
          have HMID : Hid (Mid C lst x l 0 ms (fun y => Q y ∧ y ≠ x)) := hide (Mid.start HGR.out HRX.out (fun y hy => by rw [← hl, count_revTo, if_pos hy]) HMS.out HQQ.out)
          have HLM : Hid (∀ z ∈ l, ∃ y : Nat, z = y ∧ y < C.length) := hide fun z hz => revTo_mem C x C.length (hl ▸ hz)
          clear hSx hleast hq10 ho10 hb10 hf10 hl hget hv hdv2
          go_wp2_with fail
          clear hta fp cp cv h11 k1
          go_loopw [69] (fun z wr => ∃ (j : Nat) (ms h : Nat → Nat) (n : Nat) (sv : Value) (Q : Nat → Prop), j ≤ l.length ∧ z = .int .i64 (j : Nat) ∧ Hid (Mid C lst x l j ms Q) ∧ Hid (ArrJ w8 wr C.length (w.heap.size + 1) (w.heap.size + 2) P w3.heap.size w1.heap.size svb Q ms (set1 pl x lst.length) h n sv)) (fun z _ => l.length - (intOf z).toNat)
          case atStart => exact ⟨0, ms, h3, m, _, _, Nat.zero_le _, rfl, HMID, HJ11⟩
          case round =>
            clear HMID HJ HJ10 HJ11 HL11
            obtain ⟨wp, rfl⟩ : ∃ x, x = wr := ⟨_, rfl⟩
            obtain ⟨j, ms, h4, n4, sv, Q4, hj, rfl, HMID, HJ⟩ := hrel
            by_cases hlt2 : j < l.length
            · have hlt2' : (j : Int) < l.length := by omega
              obtain ⟨z, hz⟩ : ∃ z, l[j]? = some z := ⟨_, List.getElem?_eq_getElem hlt2⟩
              obtain ⟨y, rfl, hyN⟩ := HLM.out z (List.mem_of_getElem? hz)
              have hyN' : (y : Int) < C.length := by omega
              obtain ⟨b2, off2, rfl, hbl2, cx⟩ := rd_at (HROW.out wp HJ.out.frm) hz
              obtain ⟨hpos, hyl⟩ := HMID.out.pos HPOS.out hyN hz
              have HST := hide (HMID.out.step HPOS.out hyN hz)
              have cm := HJ.out.m.cellAt (fl_get ms hyN)
              have fm := HJ.out.m.freeAt y
              have hmle : ms y ≤ 1000000 := by
                have h1 := HMID.out.rest y hyN
                have h2 := miss_le C lst y
                have h3 := row_edges HEE.out y
                omega
              have hw1 : IntKind.i64.wrap ((ms y : Int) - 1) = ((ms y - 1 : Nat) : Int) := by rw [show ((ms y : Int) - 1) = ((ms y - 1 : Nat) : Int) by omega]; exact IntWalk.i64_in _ (by omega)
              obtain ⟨w12, h12⟩ : ∃ q, wp.setCell ⟨w.heap.size + 1, y, none⟩ (.int .i64 ((ms y - 1 : Nat) : Int)) = q := ⟨_, rfl⟩
              have HJ12 := hide (h12 ▸ HJ.out.setM y (ms y - 1))
              have cm2 : w12.cell? ⟨w.heap.size + 1, y, none⟩ = some (.int .i64 ((ms y - 1 : Nat) : Int)) := by
                have := HJ12.out.m.cellAt (fl_get (set1 ms y (ms y - 1)) hyN)
                rwa [set1_at] at this
              obtain ⟨A4, c4, rfl, hn4, hc4, -⟩ := HJ.out.q.row.rd
              rw [fl_len] at hn4 HJ12
              have hnN4 : n4 ≤ C.length := HJ.out.bag.few (fun k hk => ((HMID.out.q k).1 hk).1)
              clear hz hbl2 hyl hc4
              by_cases h0 : ms y - 1 = 0
              · obtain ⟨hnq, hmid⟩ := HST.out.2 h0
                rw [h0] at cm2 hw1 h12
                have h12' : wp.setCell ⟨w.heap.size + 1, y, none⟩ (.int .i64 0) = w12 := h12
                have cm2' : w12.cell? ⟨w.heap.size + 1, y, none⟩ = some (.int .i64 0) := cm2
                have hw1' : IntKind.i64.wrap ((ms y : Int) - 1) = 0 := hw1
                have HK := hide (hpush_any (w.heap.size + 2) w3.heap.size n4 c4 y A4 h4 Q4 w12 HJ12.out.q HJ12.out.heap HJ12.out.bag hnq (by have := (HJ12.out.bag.push hnq).few (N := C.length) (fun k hk => hk.elim (fun hk => ((HMID.out.q k).1 hk).1) (fun hk => hk ▸ hyN)); omega) (by have := HJ12.out.q.box.lt; omega))
                have HMID2 := hide hmid
                clear hmid hnq h12 cm2 hw1
                go_wp2_with fail
                refine HK.out.mono ?_
                rintro en w13 ⟨rfl, r', c', h', hq6, ho6, hb6, hf6, hd6⟩
                have HJ13 := hide (HJ12.out.queue hf6 hq6 ho6 hb6 (hd6.imp id (fun h b hb => by
                  have e : r' = b := by simpa [Value.ownBlock] using hb
                  omega)))
                clear hq6 ho6 hb6 hf6 hd6 HK
                go_wp2_with fail
                go_roundw
                case rel => exact ⟨j + 1, _, h', n4 + 1, _, _, by omega, by go_num, HMID2, HJ13⟩
                case measure => simp [intOf]; omega
              · have HMID2 := hide (HST.out.1 h0)
                have h0b : (((ms y - 1 : Nat) : Int) == 0) = false := by rw [beq_eq_false_iff_ne]; omega
                have h0c : ¬ ((ms y - 1 : Nat) : Int) = 0 := by omega
                go_wp2_with fail
                go_roundw
                case rel => exact ⟨j + 1, _, h4, n4, _, Q4, by omega, by go_num, HMID2, HJ12⟩
                case measure => simp [intOf]; omega
            · obtain rfl : j = l.length := by omega
              obtain ⟨hgr, hms, hqq⟩ := HMID.out.done HPOS.out HLE.out
              have HZ := hide (And.intro hgr (And.intro hms hqq))
              have hw1 : IntKind.i64.wrap ((lst.length : Int) + 1) = (lst.length : Int) + 1 := IntWalk.i64_in _ (by omega)
              clear hgr hms hqq HMID
              go_wp2_with fail
              go_roundw
              case rel => exact ⟨lst ++ [x], ms, _, h4, n4, sv, Q4, by simp, hide HZ.out.1, hide (place_snoc HPL.out HRX.out.2.1), hide HZ.out.2.1, hide HZ.out.2.2, HJ⟩
              case measure => simp [intOf]; omega
end Go.Proofs.Ytakojoedifhcnaa

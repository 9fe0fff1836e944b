/-
  Layer 7 (scc): package heap over minHeap, in memory: Pop.
-/
import Derived.Test.YtakojoedifhcnaaTDown
namespace Go.Proofs.Ytakojoedifhcnaa
open Go.RowKit

theorem fl_take (n : Nat) (h : Nat → Nat) : (fl (n + 1) h).take n = fl n h := by
  unfold fl
  rw [List.range_succ, List.map_append, List.take_append_of_le_length (by simp), List.take_of_length_le (by simp)]
set_option maxRecDepth 100000 in
set_option maxHeartbeats 2000000 in
theorem qpop_any (hb base n r c : Nat) (h : Nat → Nat) (w : World) (hq : QAt w hb base (.slice (some ⟨r, 0, none⟩) (n + 1) c) (n + 1) h) (hn : n < 65536) :
    Calls Try.prog 58 #[.pointer (some ⟨hb, 0, none⟩)] w fun en w' => en = .returned (.iface 3 (.int .i64 (h n : Nat))) ∧ QAt w' hb base (.slice (some ⟨r, 0, none⟩) n c) n h ∧ Frm w w' [hb] := by
  have k1 := hq.box.cell 0
  have f1 := hq.box.free 0
  have c1 := hq.row.cellAt (fl_get h (Nat.lt_succ_self n))
  obtain ⟨_, _, e3, hd, hm, -⟩ := hq.row.rd
  rw [fl_len] at e3 hd
  injection e3 with e3 e4 e5
  subst e5
  have hd9 : c ≤ 9223372036854775807 := by unfold maxLen at hm; omega
  have hset : Frm w (w.setCell ⟨hb, 0, none⟩ (.slice (some ⟨r, 0, none⟩) n c)) [hb] := (Frm.refl _ [hb]).setCell _ _ (.inl (by simp))
  have hcut := Own.cut hq.row (q := n) (by rw [fl_len]; omega)
  rw [fl_take] at hcut
  have hrb : r ≠ hb := fun e => hq.off (by rw [e]; rfl)
  have HZ : Hid (QAt (w.setCell ⟨hb, 0, none⟩ (.slice (some ⟨r, 0, none⟩) n c)) hb base (.slice (some ⟨r, 0, none⟩) n c) n h ∧ Frm w (w.setCell ⟨hb, 0, none⟩ (.slice (some ⟨r, 0, none⟩) n c)) [hb]) := hide ⟨⟨hq.box.set 0 _, hcut.frmS hset (fun y hy hm => hrb (by rw [List.mem_singleton.1 hm] at hy; simpa [Value.ownBlock] using hy)), hq.off⟩, hset⟩
  have hw1 : IntKind.i64.wrap (((n + 1 : Nat) : Int) - 1) = (n : Int) := by rw [show (((n + 1 : Nat) : Int) - 1) = (n : Int) by omega]; exact IntWalk.i64_in _ (by omega)
  have hlt : (n : Int) < ((n + 1 : Nat) : Int) := by omega
  have hlt2 : (n : Int) < (n : Int) + 1 := by omega
  clear hq hm hset hcut e3 e4 hrb
  go_enter Try.func58, Try.ntmps58
  go_wp2_with fail
  refine (qlen_any (some ⟨r, 0, none⟩) (n + 1) c w).mono ?_
  rintro en w2 ⟨rfl, rfl⟩
  go_wp2_with fail
  go_ret
  exact ⟨rfl, HZ.out⟩
set_option maxRecDepth 100000 in
set_option maxHeartbeats 2000000 in
/-- heap.Pop: the least. -/
theorem hpop_any (hb base n r c : Nat) (h : Nat → Nat) (S : Nat → Prop) (w : World) (hq : QAt w hb base (.slice (some ⟨r, 0, none⟩) (n + 1) c) (n + 1) h) (ho : HeapOk h (n + 1)) (hbag : Bag h (n + 1) S) (hn : n < 65536) :
    Calls Try.prog 31 #[.iface 45 (.pointer (some ⟨hb, 0, none⟩))] w fun en w' => ∃ x h', en = .returned (.iface 3 (.int .i64 (x : Nat))) ∧ S x ∧ (∀ y, S y → x ≤ y) ∧ QAt w' hb base (.slice (some ⟨r, 0, none⟩) n c) n h' ∧ HeapOk h' n ∧ Bag h' n (fun y => S y ∧ y ≠ x) ∧ Frm w w' [hb, r] := by
  have HS : Hid (S (h 0) ∧ ∀ y, S y → h 0 ≤ y) := hide ⟨hbag.mem 0 (by omega), fun y hy => by
    obtain ⟨i, hi, rfl⟩ := hbag.all y hy
    exact ho.least i hi⟩
  have HQ := hide hq
  have HB1 := hide (hbag.swp (i := 0) (j := n) (by omega) (by omega))
  have HD1 := hide ho.pop
  have hrb : r ≠ hb := fun e => hq.off (by rw [e]; rfl)
  have k1 := hq.box.cell 0
  have m1 := fun W hc => method_len hb (.slice (some ⟨r, 0, none⟩) (n + 1) c) W hc
  have m2 := fun W hc => method_swap hb (.slice (some ⟨r, 0, none⟩) (n + 1) c) W hc
  have hw1 : IntKind.i64.wrap (((n + 1 : Nat) : Int) - 1) = (n : Int) := by rw [show (((n + 1 : Nat) : Int) - 1) = (n : Int) by omega]; exact IntWalk.i64_in _ (by omega)
  clear hq ho hbag
  go_enter Try.func31, Try.ntmps31
  go_wp2_with fail
  refine (qlen_any (some ⟨r, 0, none⟩) (n + 1) c w).mono ?_
  rintro en w2 ⟨rfl, rfl⟩
  go_wp2_with fail
  refine (swap_any r (n + 1) c 0 n base h w2 HQ.out.row (by omega) (by omega)).mono ?_
  rintro en w3 ⟨rfl, ho3, hf3⟩
  have HQ3 : Hid (QAt w3 hb base (.slice (some ⟨r, 0, none⟩) (n + 1) c) (n + 1) (swp h 0 n)) := hide ⟨HQ.out.box.frm hf3 (by simpa using fun e : hb = r => hrb e.symm), ho3, HQ.out.off⟩
  have HF3 := hide hf3
  clear ho3 hf3 k1 m1 m2
  go_wp2_with fail
  refine (down_any hb base n r c (swp h 0 n) S w3 HQ3.out HD1.out HB1.out hn).mono ?_
  rintro en w4 ⟨⟨b, rfl⟩, h4, hq4, ho4, hb4, hl4, hf4⟩
  have HZ4 := hide (And.intro hq4 (And.intro ho4 (And.intro hb4 hf4)))
  have HE : Hid (h4 n = h 0) := hide (by rw [hl4, swp_r])
  clear hq4 ho4 hb4 hl4 hf4
  go_wp2_with fail
  refine (qpop_any hb base n r c h4 w4 HZ4.out.1 hn).mono ?_
  rintro en w5 ⟨rfl, hq5, hf5⟩
  have HZ5 : Hid (QAt w5 hb base (.slice (some ⟨r, 0, none⟩) n c) n h4 ∧ Frm w2 w5 [hb, r]) := hide ⟨hq5, ((HF3.out.mono (by simp)).trans' (HZ4.out.2.2.2.mono (by simp)) (fun y hy => .inl hy)).trans' (hf5.mono (by simp)) (fun y hy => .inl hy)⟩
  have HB5 := hide HZ4.out.2.2.1.pop
  clear hq5 hf5
  go_wp2_with fail
  go_ret
  exact ⟨h4 n, h4, rfl, by rw [HE.out]; exact HS.out.1, fun y hy => by rw [HE.out]; exact HS.out.2 y hy, HZ5.out.1, HZ4.out.2.1, HB5.out, HZ5.out.2⟩
end Go.Proofs.Ytakojoedifhcnaa

/-
  Layer 8 (domtree): span.
-/
import Derived.Test.YtmopnceglnoncaaSpanAt
namespace Go.Proofs.Ytmopnceglnoncaa
open Go.RowKit

set_option maxRecDepth 100000 in
set_option maxHeartbeats 8000000 in
theorem span_any (A : Option Addr) (c : Nat) (g : List (List Int)) (e : Nat) (w : World) (hg : RdL w A c g) (hok : okG g = true) (hN : g.length ≤ 65536) (he : e < g.length) :
    Calls Try.prog 32 #[.agg #[.slice A g.length c], .int .i64 (e : Nat)] w fun en w' => ∃ nv pv L P q, en = .returned (.agg #[nv, .slice (some ⟨q, 0, none⟩) g.length g.length, pv]) ∧ Spans g e 0 [] [] L P ∧ w.heap.size ≤ q ∧ Own w' q 3 .i64 nv (ints L) ∧ Own w' q 3 .i64 (.slice (some ⟨q, 0, none⟩) g.length g.length) (fz g.length (place L)) ∧ Own w' q 3 .i64 pv (ints P) ∧ Below w.heap.size w w' := by
  have hc := hg.cap
  have hc9 : c ≤ 9223372036854775807 := by unfold maxLen at hc; omega
  obtain ⟨w1, hw1⟩ : ∃ x, w.alloc (.cells #[.slice A g.length c] 24) = x := ⟨_, rfl⟩
  obtain ⟨w2, hw2⟩ : ∃ x, w1.alloc (.cells #[.slice none 0 0, .slice none 0 0, .slice none 0 0] 46) = x := ⟨_, rfl⟩
  have hmk := run_made w2 28 3 (.int .i64 0) 8 Try.underlying28 infoInt rfl (by omega) g.length (by omega)
  obtain ⟨w3, hw3⟩ : ∃ x, w2.alloc (.cells (madeCells #[.int .i64 0] g.length) 3) = x := ⟨_, rfl⟩
  obtain ⟨w4, hw4⟩ : ∃ x, w3.alloc (.cells #[.slice none 0 0, .slice none 0 0, .slice none 0 0] 46) = x := ⟨_, rfl⟩
  have hs1 : w1.heap.size = w.heap.size + 1 := by rw [← hw1, World.size_alloc]
  have hs2 : w2.heap.size = w.heap.size + 1 + 1 := by rw [← hw2, World.size_alloc, hs1]
  have hs3 : w3.heap.size = w.heap.size + 1 + 1 + 1 := by rw [← hw3, World.size_alloc, hs2]
  have hs4 : w4.heap.size = w.heap.size + 1 + 1 + 1 + 1 := by rw [← hw4, World.size_alloc, hs3]
  have hx1 : w1.cell? ⟨w.heap.size, 0, none⟩ = some (.slice A g.length c) := by rw [← hw1]; simp [go_sem]
  have hb2 : Below w1.heap.size w1 w2 := by rw [← hw2]; exact (Below.refl _ _).alloc (Nat.le_refl _) _
  have hb3 : Below w2.heap.size w2 w3 := by rw [← hw3]; exact (Below.refl _ _).alloc (Nat.le_refl _) _
  have hb4 : Below w3.heap.size w3 w4 := by rw [← hw4]; exact (Below.refl _ _).alloc (Nat.le_refl _) _
  have hx2 : w2.cell? ⟨w.heap.size, 0, none⟩ = some (.slice A g.length c) := (hb2.cell (p := ⟨w.heap.size, 0, none⟩) (lt_of_cell hx1)).trans hx1
  have hR2 : Whole w2 (w.heap.size + 1) 46 #[.slice none 0 0, .slice none 0 0, .slice none 0 0] := by rw [← hs1, ← hw2]; exact Whole.new _ _ _
  have hO3 : Own w3 (w.heap.size + 1 + 1) 3 .i64 (.slice (some ⟨w.heap.size + 1 + 1, 0, none⟩) g.length g.length) (fz g.length (fun _ => 0)) := by
    rw [← hs2, ← hw3, fz_const]
    have := own_madeV w2 3 (.int .i64 0) g.length w2.heap.size (by unfold maxLen; omega) (Nat.le_refl _)
    refine OwnV.toI ?_
    rw [List.map_replicate]
    exact this
  have hT4 : Whole w4 (w.heap.size + 1 + 1 + 1) 46 #[.slice none 0 0, .slice none 0 0, .slice none 0 0] := by rw [← hs3, ← hw4]; exact Whole.new _ _ _
  obtain ⟨w5, hw5⟩ : ∃ x, w4.setCell ⟨w.heap.size + 1 + 1 + 1, 0, none⟩ (.slice none 0 0) = x := ⟨_, rfl⟩
  have hT5 : Whole w5 (w.heap.size + 1 + 1 + 1) 46 #[.slice none 0 0, .slice none 0 0, .slice none 0 0] := by rw [← hw5]; exact hT4.set 0 _
  obtain ⟨w6, hw6⟩ : ∃ x, w5.setCell ⟨w.heap.size + 1 + 1 + 1, 1, none⟩ (.slice (some ⟨w.heap.size + 1 + 1, 0, none⟩) g.length g.length) = x := ⟨_, rfl⟩
  have hT6 : Whole w6 (w.heap.size + 1 + 1 + 1) 46 #[.slice none 0 0, .slice (some ⟨w.heap.size + 1 + 1, 0, none⟩) g.length g.length, .slice none 0 0] := by rw [← hw6]; exact hT5.set 1 _
  obtain ⟨w7, hw7⟩ : ∃ x, w6.setCell ⟨w.heap.size + 1 + 1 + 1, 2, none⟩ (.slice none 0 0) = x := ⟨_, rfl⟩
  have hT7 : Whole w7 (w.heap.size + 1 + 1 + 1) 46 #[.slice none 0 0, .slice (some ⟨w.heap.size + 1 + 1, 0, none⟩) g.length g.length, .slice none 0 0] := by rw [← hw7]; exact hT6.set 2 _
  have hf7 : Frm w4 w7 [w.heap.size + 1 + 1 + 1] := by rw [← hw7, ← hw6, ← hw5]; exact (((Frm.refl w4 _).setCell _ _ (.inl (by simp))).setCell _ _ (.inl (by simp))).setCell _ _ (.inl (by simp))
  have a0 : w4.cell? ⟨w.heap.size + 1 + 1 + 1, 0, none⟩ = some (.slice none 0 0) := hT4.cell 0
  have a0f := hT4.free 0
  have a1 : w5.cell? ⟨w.heap.size + 1 + 1 + 1, 1, none⟩ = some (.slice none 0 0) := hT5.cell 1
  have a1f := hT5.free 1
  have a2 : w6.cell? ⟨w.heap.size + 1 + 1 + 1, 2, none⟩ = some (.slice none 0 0) := hT6.cell 2
  have a2f := hT6.free 2
  have a3 : w7.cell? ⟨w.heap.size + 1 + 1 + 1, 1, none⟩ = some (.slice (some ⟨w.heap.size + 1 + 1, 0, none⟩) g.length g.length) := hT7.cell 1
  have hs7 : w7.heap.size = w.heap.size + 1 + 1 + 1 + 1 := by rw [← hw7, ← hw6, ← hw5]; simpa [World.setCell] using hs4
  have hO7 : Own w7 (w.heap.size + 1 + 1) 3 .i64 (.slice (some ⟨w.heap.size + 1 + 1, 0, none⟩) g.length g.length) (fz g.length (fun x => if x < 0 then -1 else 0)) := by
    rw [fz_ext (h := fun _ => 0) (fun i _ => by simp)]
    exact (hO3.below' hb4).frmS hf7 (fun x hx hm => by
      have e : x = w.heap.size + 1 + 1 := by simpa [Value.ownBlock] using hx.symm
      rw [List.mem_singleton] at hm; omega)
  have hB27 : Below (w.heap.size + 1 + 1) w2 w7 := by
    rw [← hs2]
    exact (hb3.trans (hb4.mono (by omega))).trans (hf7.toBelow (fun x hx => by rw [List.mem_singleton.1 hx]; omega) (by omega))
  have HO7 := hide hO7
  have HT7 := hide hT7
  have HB27 := hide hB27
  have HB2 : Hid (Below w.heap.size w w2) := hide (by
    have h1 : Below w.heap.size w w1 := by rw [← hw1]; exact (Below.refl _ _).alloc (Nat.le_refl _) _
    exact h1.trans (hb2.mono (by omega)))
  have HR2 := hide hR2
  have HX2 := hide hx2
  have HS2 := hide hs2
  have HG := hide hg
  clear hg hb2 hb3 hb4 hR2 hO3 hT4 hT5 hT6 hT7 hf7 hO7 hB27 hx1
  go_enter Try.func32, Try.ntmps32
  go_wp2_with fail
  clear hw1 hw2 hw3 hw4 hw5 hw6 hw7 a0 a0f a1 a1f a2 a2f a3 hmk hx2 hs1 hs2 hs3 hs4
  go_loopw [16] (fun z wr => ∃ i : Nat, i ≤ g.length ∧ z = .int .i64 (i : Nat) ∧ wr.heap.size = w.heap.size + 1 + 1 + 1 + 1 ∧ Hid (Own wr (w.heap.size + 1 + 1) 3 .i64 (.slice (some ⟨w.heap.size + 1 + 1, 0, none⟩) g.length g.length) (fz g.length (fun x => if x < i then -1 else 0))) ∧ Hid (Whole wr (w.heap.size + 1 + 1 + 1) 46 #[.slice none 0 0, .slice (some ⟨w.heap.size + 1 + 1, 0, none⟩) g.length g.length, .slice none 0 0]) ∧ Hid (Below (w.heap.size + 1 + 1) w2 wr)) (fun z _ => g.length - (intOf z).toNat)
  case atStart => exact ⟨0, Nat.zero_le _, rfl, hs7, HO7, HT7, HB27⟩
  case round =>
    clear HO7 HT7 HB27 hs7
    obtain ⟨wr, rfl⟩ : ∃ x, x = wr := ⟨_, rfl⟩
    obtain ⟨i, hi, rfl, hsr, HO, HT, HB⟩ := hrel
    have c1 : wr.cell? ⟨w.heap.size + 1 + 1 + 1, 1, none⟩ = some (.slice (some ⟨w.heap.size + 1 + 1, 0, none⟩) g.length g.length) := HT.out.cell 1
    by_cases hlt : i < g.length
    · have hlt' : (i : Int) < g.length := by omega
      have c2 := HO.out.cellAt (fz_get (fun x => if x < i then -1 else 0) hlt)
      have c2f := HO.out.freeAt i
      have hset := HO.out.set i (-1)
      rw [fz_set (h := fun x => if x < i + 1 then -1 else 0) (by simp) (fun j hj => by
        by_cases e : j < i
        · simp [e]; omega
        · simp [e]; omega)] at hset
      have hf : Frm wr (wr.setCell ⟨w.heap.size + 1 + 1, i, none⟩ (.int .i64 (-1))) [w.heap.size + 1 + 1] := (Frm.refl wr _).setCell _ _ (.inl (by simp))
      have HN := hide (And.intro hset (And.intro ((hf.block _ HT.out.lt (by simp)).trans HT.out) (HB.out.trans (hf.toBelow (fun x hx => by rw [List.mem_singleton.1 hx]; omega) (by omega)))))
      have hsn : (wr.setCell ⟨w.heap.size + 1 + 1, i, none⟩ (.int .i64 (-1))).heap.size = w.heap.size + 1 + 1 + 1 + 1 := by simpa [World.setCell] using hsr
      clear hset hf
      go_wp2_with fail
      go_roundw
      case rel => exact ⟨i + 1, by omega, by go_num, hsn, hide HN.out.1, hide HN.out.2.1, hide HN.out.2.2⟩
      case measure => simp [intOf]; omega
    · obtain rfl : i = g.length := by omega
      have hO := HO.out
      rw [fz_ext (h := place []) (fun x hx => by rw [if_pos hx]; rfl)] at hO
      obtain ⟨w8, hw8⟩ : ∃ x, wr.alloc (.cells #[.nilFunc] 61) = x := ⟨_, rfl⟩
      have hT8 : Whole w8 (w.heap.size + 1 + 1 + 1 + 1) 61 #[.nilFunc] := by rw [← hsr, ← hw8]; exact Whole.new _ _ _
      have c3 : w8.cell? ⟨w.heap.size + 1 + 1 + 1 + 1, 0, none⟩ = some .nilFunc := hT8.cell 0
      have c3f := hT8.free 0
      obtain ⟨w9, hw9⟩ : ∃ x, w8.setCell ⟨w.heap.size + 1 + 1 + 1 + 1, 0, none⟩ (.func (.func 48) #[] #[.pointer (some ⟨w.heap.size + 1 + 1 + 1, 0, none⟩), .pointer (some ⟨w.heap.size, 0, none⟩), .pointer (some ⟨w.heap.size + 1 + 1 + 1 + 1, 0, none⟩)]) = x := ⟨_, rfl⟩
      have hT9 := hT8.set 0 (.func (.func 48) #[] #[.pointer (some ⟨w.heap.size + 1 + 1 + 1, 0, none⟩), .pointer (some ⟨w.heap.size, 0, none⟩), .pointer (some ⟨w.heap.size + 1 + 1 + 1 + 1, 0, none⟩)])
      rw [hw9] at hT9
      have c4 : w9.cell? ⟨w.heap.size + 1 + 1 + 1 + 1, 0, none⟩ = some (.func (.func 48) #[] #[.pointer (some ⟨w.heap.size + 1 + 1 + 1, 0, none⟩), .pointer (some ⟨w.heap.size, 0, none⟩), .pointer (some ⟨w.heap.size + 1 + 1 + 1 + 1, 0, none⟩)]) := hT9.cell 0
      have hf9 : Frm wr w9 [] := by
        rw [← hw9, ← hw8]
        exact ((Frm.refl wr []).alloc _).setCell _ _ (.inr (by show wr.heap.size ≤ w.heap.size + 1 + 1 + 1 + 1; omega))
      have hS9 : SpAt w9 (w.heap.size + 1 + 1) w.heap.size g.length (.slice none 0 0) (.slice none 0 0) (place []) [] [] := ⟨hO.frmS hf9 (fun _ _ => by simp), (hf9.block _ HT.out.lt (by simp)).trans HT.out, c4, Own.nil, Own.nil, fun x hx => by simp [Value.ownBlock] at hx⟩
      have hst : Sem.run Try.prog (store ⟨w.heap.size + 1 + 1 + 1 + 1, 0, none⟩ (.func (.func 48) #[] #[.pointer (some ⟨w.heap.size + 1 + 1 + 1, 0, none⟩), .pointer (some ⟨w.heap.size, 0, none⟩), .pointer (some ⟨w.heap.size + 1 + 1 + 1 + 1, 0, none⟩)])) w8 = .ok () w9 := by
        rw [run_store _ _ _ _ _ rfl]
        simp [stored, c3, c3f, hw9]
      have hb9 : Below (w.heap.size + 1 + 1) w2 w9 := HB.out.trans (hf9.toBelow (by simp) (by omega))
      have HB9 := hide hb9
      have HV := hide (visit_any A c g hok hN (w.heap.size + 1 + 1) w.heap.size w HG.out (Nat.le_refl _) (by omega) g.length e 0 [] [] w9 _ _ (by simp) he (by simp) List.nodup_nil (fun x hx => (by cases hx)) rfl (HB2.out.trans (hb9.mono (by omega))) ((hb9.cell (p := ⟨w.heap.size, 0, none⟩) (by show w.heap.size < _; omega)).trans HX2.out) hS9)
      clear hO hT8 hT9 hf9 hS9 hb9 HO HT HB
      go_wp2_with fail
      refine HV.out.mono ?_
      rintro en w10 ⟨rfl, nv, pv, L, P, hsp, hS10, hb10⟩
      have hB10 := HB9.out.trans hb10
      have hR10 : Whole w10 (w.heap.size + 1) 46 #[.slice none 0 0, .slice none 0 0, .slice none 0 0] := HR2.out.below hB10 (by omega)
      have HS10 := hide hS10
      have HSP := hide hsp
      have HB10 := hide hB10
      have k0 : w10.cell? ⟨w.heap.size + 1 + 1 + 1, 0, none⟩ = some nv := hS10.box.cell 0
      have k1 : w10.cell? ⟨w.heap.size + 1 + 1 + 1, 1, none⟩ = some (.slice (some ⟨w.heap.size + 1 + 1, 0, none⟩) g.length g.length) := hS10.box.cell 1
      have k2 : w10.cell? ⟨w.heap.size + 1 + 1 + 1, 2, none⟩ = some pv := hS10.box.cell 2
      obtain ⟨An, cn, rfl, -, -, -⟩ := hS10.nodes.rd
      obtain ⟨Ap, cp, rfl, -, -, -⟩ := hS10.par.rd
      clear hsp hS10 hb10 hB10 hw8 hw9 c3 c3f c4 HV HB9 hsr c1
      obtain ⟨wa, hwa⟩ : ∃ x, w10.setCell ⟨w.heap.size + 1, 0, none⟩ (.slice An (ints L).length cn) = x := ⟨_, rfl⟩
      have hRa := hR10.set 0 (.slice An (ints L).length cn)
      rw [hwa] at hRa
      obtain ⟨wb, hwb⟩ : ∃ x, wa.setCell ⟨w.heap.size + 1, 1, none⟩ (.slice (some ⟨w.heap.size + 1 + 1, 0, none⟩) g.length g.length) = x := ⟨_, rfl⟩
      have hRb := hRa.set 1 (.slice (some ⟨w.heap.size + 1 + 1, 0, none⟩) g.length g.length)
      rw [hwb] at hRb
      obtain ⟨wc, hwc⟩ : ∃ x, wb.setCell ⟨w.heap.size + 1, 2, none⟩ (.slice Ap (ints P).length cp) = x := ⟨_, rfl⟩
      have hRc := hRb.set 2 (.slice Ap (ints P).length cp)
      rw [hwc] at hRc
      have a0 : w10.cell? ⟨w.heap.size + 1, 0, none⟩ = some (.slice none 0 0) := hR10.cell 0
      have a0f := hR10.free 0
      have a1 : wa.cell? ⟨w.heap.size + 1, 1, none⟩ = some (.slice none 0 0) := hRa.cell 1
      have a1f := hRa.free 1
      have a2 : wb.cell? ⟨w.heap.size + 1, 2, none⟩ = some (.slice none 0 0) := hRb.cell 2
      have a2f := hRb.free 2
      have hfc : Frm w10 wc [w.heap.size + 1] := by rw [← hwc, ← hwb, ← hwa]; exact (((Frm.refl w10 _).setCell _ _ (.inl (by simp))).setCell _ _ (.inl (by simp))).setCell _ _ (.inl (by simp))
      have hbwc : Below w.heap.size w wc := (HB2.out.trans (HB10.out.mono (by omega))).trans (hfc.toBelow (fun x hx => by rw [List.mem_singleton.1 hx]; omega) (by have := HS10.out.size; omega))
      have z0 : wc.cell? ⟨w.heap.size + 1, 0, none⟩ = some (.slice An (ints L).length cn) := hRc.cell 0
      have z1 : wc.cell? ⟨w.heap.size + 1, 1, none⟩ = some (.slice (some ⟨w.heap.size + 1 + 1, 0, none⟩) g.length g.length) := hRc.cell 1
      have z2 : wc.cell? ⟨w.heap.size + 1, 2, none⟩ = some (.slice Ap (ints P).length cp) := hRc.cell 2
      have HZ := hide (And.intro ((HS10.out.nodes.frmS hfc (own_not HS10.out.nodes (by omega))).low (b := w.heap.size + 1 + 1) (by omega)) (And.intro (HS10.out.pl.frmS hfc (own_not HS10.out.pl (by omega))) (And.intro ((HS10.out.par.frmS hfc (own_not HS10.out.par (by omega))).low (b := w.heap.size + 1 + 1) (by omega)) hbwc)))
      clear hRa hRb hRc hR10 hfc hbwc
      go_wp2_with fail
      refine bodyPost_ret (v := .agg #[.slice An (ints L).length cn, .slice (some ⟨w.heap.size + 1 + 1, 0, none⟩) g.length g.length, .slice Ap (ints P).length cp]) ?_ rfl ⟨_, _, L, P, _, rfl, HSP.out, by omega, HZ.out.1, HZ.out.2.1, HZ.out.2.2.1, HZ.out.2.2.2⟩
      simp [results, Try.f32, go_sem, z0, z1, z2]
end Go.Proofs.Ytmopnceglnoncaa

/-
  Layer 7 (scc), the reference: Index.
-/
import Derived.Test.YtakojoedifhcnaaTRefComps
namespace Go.Proofs.Ytakojoedifhcnaa
open Go.RowKit

section
variable {g : List (List Int)} {cnt : Nat} {num : Nat → Nat} {lst lst' : List Nat}
theorem Lists.same' (h : Lists (stray g) cnt num lst) (h' : Lists (stray g) cnt num lst') : lst' = lst := h.grd.unique lst' h'.grd (by rw [h.len, h'.len])
theorem Lists.maps (h : Lists (stray g) cnt num lst) : lst.map (part g.length num) = partsTo (idx lst num) g.length cnt := by
  apply List.ext_getElem?
  intro i
  by_cases hi : i < cnt
  · obtain ⟨k, hk⟩ : ∃ k, lst[i]? = some k := ⟨_, List.getElem?_eq_getElem (by rw [h.len]; exact hi)⟩
    rw [partsTo_get _ _ hi, List.getElem?_map, hk, Option.map_some]
    have := h.partOf hk
    rw [stray_len] at this
    rw [this]
  · rw [List.getElem?_eq_none (by rw [List.length_map, h.len]; omega), List.getElem?_eq_none (by rw [partsTo_len]; omega)]
end
def upto (f : Nat → Nat) (i : Nat) (l : List Int) (x : Nat) : Nat := if f x < i ∨ (f x = i ∧ (x : Int) ∈ l) then f x else 0

set_option maxRecDepth 100000 in
set_option maxHeartbeats 4000000 in
theorem rindex_any (A : Option Addr) (c : Nat) (g : List (List Int)) (cnt : Nat) (num : Nat → Nat) (lst : List Nat) (w : World) (hg : RdL w A c g) (hN : g.length ≤ 50) (hls : Lists (stray g) cnt num lst) :
    Calls Try.prog 13 #[.agg #[.slice A g.length c]] w fun en w' => (∃ F, en = .returned (.slice (some ⟨F, 0, none⟩) g.length g.length) ∧ Own w' w.heap.size 3 .i64 (.slice (some ⟨F, 0, none⟩) g.length g.length) (fl g.length (idx lst num))) ∧ Below w.heap.size w w' := by
  have hc := hg.cap
  have hc9 : c ≤ 9223372036854775807 := by unfold maxLen at hc; omega
  obtain ⟨w1, hw1⟩ : ∃ x, w.alloc (.cells #[.slice A g.length c] 24) = x := ⟨_, rfl⟩
  have hs1 : w1.heap.size = w.heap.size + 1 := by rw [← hw1, World.size_alloc]
  have hx1 : w1.cell? ⟨w.heap.size, 0, none⟩ = some (.slice A g.length c) := by rw [← hw1]; simp [go_sem]
  have hB1 : Below w.heap.size w w1 := by rw [← hw1]; exact (Below.refl _ _).alloc (Nat.le_refl _) _
  have h0 : ¬ (65536 : Int) < g.length := by omega
  have h0b : decide ((65536 : Int) < g.length) = false := decide_eq_false h0
  obtain ⟨f, hf⟩ : ∃ f, idx lst num = f := ⟨_, rfl⟩
  have hmk := run_made w1 29 3 (.int .i64 0) 8 Try.underlying29 infoInt rfl (by omega) g.length (by omega)
  obtain ⟨w2, h2⟩ : ∃ x, w1.alloc (.cells (madeCells #[.int .i64 0] g.length) 3) = x := ⟨_, rfl⟩
  have hb2 : Below w1.heap.size w1 w2 := by rw [← h2]; exact (Below.refl _ _).alloc (Nat.le_refl _) _
  have hs2 : w2.heap.size = w1.heap.size + 1 := by rw [← h2, World.size_alloc]
  have hx2 : w2.cell? ⟨w.heap.size, 0, none⟩ = some (.slice A g.length c) := (hb2.cell (p := ⟨w.heap.size, 0, none⟩) (lt_of_cell hx1)).trans hx1
  have HO2 : Hid (Own w2 w1.heap.size 3 .i64 (.slice (some ⟨w1.heap.size, 0, none⟩) g.length g.length) (fl g.length (upto f 0 []))) := hide (by
    rw [← h2]
    refine OwnV.toI ?_
    have := own_madeV w1 3 (.int .i64 0) g.length w1.heap.size (by unfold maxLen; omega) (Nat.le_refl _)
    have e : (fl g.length (upto f 0 [])).map (Value.int .i64) = List.replicate g.length (.int .i64 0) := by
      unfold fl; apply List.ext_getElem <;> simp [upto]
    rw [e]; exact this)
  have HB2 : Hid (Below w.heap.size w w2) := hide (hB1.trans (hb2.mono hB1.size))
  have HK := hide (rcomps_any A c g cnt num w2 ((hg.below' hB1).below' hb2) hN hls.parts)
  have HLS := hide hls
  have HFC : Hid (∀ x, x < g.length → f x < cnt) := hide fun x hx => hf ▸ hls.lt (by rw [stray_len]; exact hx)
  have hcnt : cnt ≤ 50 := by have := hls.parts.le; rw [stray_len] at this; omega
  have HS1 := hide (And.intro hs1 hs2)
  clear hg hB1 hc hb2 hls hs1 hs2
  go_enter Try.func13, Try.ntmps13
  go_wp2_with fail
  refine HK.out.mono ?_
  rintro en w3 ⟨⟨sv, R, lst', rfl, hls', hG⟩, hb3⟩
  have e := HLS.out.same' hls'
  subst e
  rw [HLS.out.maps, hf] at hG
  obtain ⟨Ap, cp, e0, hcp, hcm⟩ := hG.form
  rw [partsTo_len] at e0 hcp
  subst e0
  have hcp9 : cp ≤ 9223372036854775807 := by unfold maxLen at hcm; omega
  have HO3 := hide (HO2.out.below' hb3)
  have HG3 := hide hG
  have HB3 := hide (HB2.out.trans (hb3.mono HB2.out.size))
  clear hw1 h2 hmk hx1 hx2 hcm hb3 HK hls' hG HO2 HB2
  go_wp2_with fail
  go_loopw [19] (fun z wr => ∃ i : Nat, i ≤ cnt ∧ z = .int .i64 (i : Nat) ∧ Hid (Own wr w1.heap.size 3 .i64 (.slice (some ⟨w1.heap.size, 0, none⟩) g.length g.length) (fl g.length (upto f i []))) ∧ Hid (Frm w3 wr [w1.heap.size])) (fun z _ => cnt - (intOf z).toNat)
  case atStart => exact ⟨0, Nat.zero_le _, rfl, HO3, hide (Frm.refl _ _)⟩
  case round =>
    clear HO3
    obtain ⟨wq, rfl⟩ : ∃ x, x = wr := ⟨_, rfl⟩
    obtain ⟨i, hi, rfl, HO, HF⟩ := hrel
    by_cases hlt : i < cnt
    · have hlt' : (i : Int) < cnt := by omega
      obtain ⟨v, hv⟩ : ∃ v, R[i]? = some v := ⟨_, List.getElem?_eq_getElem (by rw [HG3.out.len, partsTo_len]; exact hlt)⟩
      obtain ⟨D, d3, e3, -, -, -, -⟩ := HG3.out.own.form (by rw [HG3.out.len, partsTo_len]; omega)
      injection e3 with e3 e4 e5
      subst e3
      have hGq := HG3.out.far HF.out (fun b hb => by rw [List.mem_singleton.1 hb]; have := HS1.out.2; omega)
      have c1 := hGq.own.cellAt hv
      have hown := HG3.out.row i v _ hv (partsTo_get f g.length hlt)
      obtain ⟨l, hl⟩ : ∃ l, part g.length f i = l := ⟨_, rfl⟩
      rw [hl] at hown
      have HOWN := hide hown
      have hoff : ∀ b, v.ownBlock = some b → b ∉ [w1.heap.size] := fun b hb hm => by have h1 := (hown.size b hb).1; have h2 := List.mem_singleton.1 hm; have := HS1.out.2; omega
      have HOFF := hide hoff
      obtain ⟨B, dv, rfl, hd1, hd2, -⟩ := hown.rd
      have hd9 : dv ≤ 9223372036854775807 := by unfold maxLen at hd2; omega
      have HL := hide hl
      have HO0 : Hid (Own wq w1.heap.size 3 .i64 (.slice (some ⟨w1.heap.size, 0, none⟩) g.length g.length) (fl g.length (upto f i (l.take 0)))) := hide (by rw [List.take_zero]; exact HO.out)
      clear hown hv hd2 e4 e5 hl hoff HO
      go_wp2_with fail
      clear c1
      go_loopw [26] (fun z wr => ∃ j : Nat, j ≤ l.length ∧ z = .int .i64 (j : Nat) ∧ Hid (Own wr w1.heap.size 3 .i64 (.slice (some ⟨w1.heap.size, 0, none⟩) g.length g.length) (fl g.length (upto f i (l.take j)))) ∧ Hid (Frm w3 wr [w1.heap.size])) (fun z _ => l.length - (intOf z).toNat)
      case atStart => exact ⟨0, Nat.zero_le _, rfl, HO0, HF⟩
      case round =>
        clear HO0 HF
        obtain ⟨wp, rfl⟩ : ∃ x, x = wr := ⟨_, rfl⟩
        obtain ⟨j, hj, rfl, HO, HF⟩ := hrel
        by_cases hlt2 : j < l.length
        · have hlt2' : (j : Int) < l.length := by omega
          obtain ⟨z, hz⟩ : ∃ z, l[j]? = some z := ⟨_, List.getElem?_eq_getElem hlt2⟩
          obtain ⟨x, rfl, hx, hfx⟩ := part_mem (f := f) (n := g.length) (k := i) (j := j) (by rw [HL.out]; exact hz)
          obtain ⟨b2, off2, rfl, -, cx⟩ := rd_at (HOWN.out.frmS HF.out HOFF.out).rd hz
          have hx' : (x : Int) < g.length := by omega
          have fm := HO.out.freeAt x
          have cm := HO.out.cellAt (fl_get (upto f i (l.take j)) hx)
          have hset := HO.out.set x (i : Int)
          have HMT := hide (fun y : Int => mem_take hz y)
          rw [fl_set (h := upto f i (l.take (j + 1))) (by
            unfold upto
            rw [if_pos (.inr ⟨hfx, of_decide_eq_true (by rw [HMT.out]; simp)⟩), hfx]) (fun y hy => by
            unfold upto
            have e : ((y : Int) ∈ l.take (j + 1)) ↔ (y : Int) ∈ l.take j := by
              have := HMT.out (y : Int)
              rw [decide_eq_false (show ¬ ((y : Int) = (x : Int)) by omega), Bool.or_false, decide_eq_decide] at this
              exact this
            simp only [e])] at hset
          have HS := hide hset
          clear hset hz
          go_wp2_with fail
          go_roundw
          case rel => exact ⟨j + 1, by omega, by go_num, HS, hide (HF.out.setCell (p := ⟨w1.heap.size, x, none⟩) _ (.inl (by simp)))⟩
          case measure => simp [intOf]; omega
        · obtain rfl : j = l.length := by omega
          have hO := HO.out
          rw [fl_ext (h := upto f (i + 1) []) (fun x hx => by
            unfold upto
            rw [List.take_length, ← HL.out]
            simp only [mem_part, List.not_mem_nil, and_false, or_false]
            by_cases e : f x < i
            · rw [if_pos (.inl e), if_pos (by omega)]
            · by_cases e2 : f x = i
              · rw [if_pos (.inr ⟨e2, hx, e2⟩), if_pos (by omega)]
              · rw [if_neg (by rintro (h | h); exact e h; exact e2 h.1), if_neg (by omega)])] at hO
          have HO2 := hide hO
          clear hO
          go_wp2_with fail
          go_roundw
          case rel => exact ⟨i + 1, by omega, by go_num, HO2, HF⟩
          case measure => simp [intOf]; omega
    · obtain rfl : i = cnt := by omega
      have hO := HO.out
      rw [fl_ext (h := f) (fun x hx => by
        unfold upto
        rw [if_pos (.inl (HFC.out x hx))])] at hO
      have HZ := hide (And.intro (hO.low (b := w.heap.size) (by have := HS1.out.1; omega)) (HB3.out.trans (HF.out.toBelow (fun b hb => by rw [List.mem_singleton.1 hb]; have := HS1.out.1; omega) HB3.out.size)))
      clear hO HO HF
      go_wp2_with fail
      go_ret
      exact ⟨⟨w1.heap.size, rfl, hf ▸ HZ.out.1⟩, HZ.out.2⟩
end Go.Proofs.Ytakojoedifhcnaa

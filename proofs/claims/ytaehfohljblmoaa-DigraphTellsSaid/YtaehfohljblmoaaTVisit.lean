/-
  Layer 6 (digraph), the reference: visit.
-/
import Derived.Test.YtaehfohljblmoaaTRev
import Derived.Test.YtaehfohljblmoaaTReach
import Derived.Test.YtaehfohljblmoaaTVisitMath
namespace Go.Proofs.Ytaehfohljblmoaa
open Go.RowKit

theorem OwnV.whole {w : World} {base M n c : Nat} {e : TypeId} {vs : List Value} (h : OwnV w base e (.slice (some ⟨M, 0, none⟩) n c) vs) : base ≤ M ∧ M < w.heap.size ∧ ∃ cur, Whole w M e cur := by
  obtain ⟨_, h2⟩ := h
  rcases h2 with ⟨h3, _⟩ | ⟨g, cap, cur, e1, hb, hh, _⟩
  · cases h3
  · injection e1 with e1
    injection e1 with e1
    injection e1 with e1
    subst e1
    exact ⟨hb, (Array.getElem?_eq_some_iff.1 hh).1, cur, hh⟩

/-- Between two places of a visit: what is as it was, and where the list of those left may lie. -/
structure Vst (w wr : World) (S : List Nat) (v : Value) (B : Nat) : Prop where
  frm : Frm w wr S
  blk : ∀ x, v.ownBlock = some x → x ∈ S ∨ B ≤ x

theorem Vst.next {w wr w' : World} {S : List Nat} {v v' : Value} {B M : Nat} (h : Vst w wr S v B) (k : Vst wr w' (M :: v.ownBlock.toList) v' wr.heap.size) (hM : M ∈ S) (hB : B ≤ wr.heap.size) (hB2 : w.heap.size ≤ B) : Vst w w' S v' B := by
  have key : ∀ x, x ∈ M :: v.ownBlock.toList → x ∈ S ∨ B ≤ x := fun x hx => by
    rcases List.mem_cons.1 hx with rfl | hx
    · exact .inl hM
    · exact h.blk x (by simpa using hx)
  refine ⟨h.frm.trans' k.frm fun x hx => (key x hx).imp id (fun h => Nat.le_trans hB2 h), fun x hx => ?_⟩
  rcases k.blk x hx with hx | hx
  · exact key x hx
  · exact .inr (Nat.le_trans hB hx)
theorem ints_snoc (l : List Nat) (x : Nat) : ints (l ++ [x]) = ints l ++ [(x : Int)] := by simp [ints]

set_option maxRecDepth 100000 in
set_option maxHeartbeats 8000000 in
theorem visit_any (A : Option Addr) (c : Nat) (g : List (List Int)) (hok : okG g = true) (hN : g.length ≤ 65536) : ∀ (k : Nat) (vis : Nat → Bool) (out : List Nat) (n : Nat) (w w0 : World) (M base : Nat) (dv : Value), cnt vis g.length ≤ k → n < g.length → vis n = false → out.length + cnt vis g.length ≤ g.length → RdL w0 A c g → Below w0.heap.size w0 w → w0.heap.size ≤ base →
    OwnV w base 4 (.slice (some ⟨M, 0, none⟩) g.length g.length) (bl g.length vis) → Own w base 3 .i64 dv (ints out) →
    Calls Try.prog 34 #[.agg #[.slice A g.length c], .int .i64 (n : Nat), .slice (some ⟨M, 0, none⟩) g.length g.length, dv] w fun en w' => ∃ (vis' : Nat → Bool) (out' : List Nat) (v' : Value), en = .returned v' ∧ Visits g n vis out vis' out' ∧ OwnV w' base 4 (.slice (some ⟨M, 0, none⟩) g.length g.length) (bl g.length vis') ∧ Own w' base 3 .i64 v' (ints out') ∧ Vst w w' (M :: dv.ownBlock.toList) v' w.heap.size
  | 0, vis, out, n, w, w0, M, base, dv, hk, hn, hv, _, _, _, _, _, _ => by
    have := cnt_set hv g.length hn
    omega
  | k + 1, vis, out, n, w, w0, M, base, dv, hk, hn, hv, hl, hg, hb0, hbase, hmet, hdone => by
    have ih := visit_any A c g hok hN k
    have IH := hide ih
    obtain ⟨hMb, hMs, curM, hMw⟩ := hmet.whole
    have hMd : M ∉ dv.ownBlock.toList := fun h => hdone.ne_whole hMw (by decide) (by simpa using h)
    obtain ⟨l, hlg⟩ : ∃ l, g[n]? = some l := ⟨_, List.getElem?_eq_getElem hn⟩
    obtain ⟨Ab, Ao, B, d, rfl, hAb, hcell0, hrow⟩ := hg.at hlg
    have HG := hide hg
    have HL := hide hlg
    have HR := hide hrow
    obtain ⟨_, _, e3, hd, hdm, -⟩ := hrow
    injection e3 with e3 e4 e5
    subst e3 e5
    have hd9 : d ≤ 9223372036854775807 := by unfold maxLen at hdm; omega
    have hn' : (n : Int) < g.length := by omega
    obtain ⟨w1, hw1⟩ : ∃ x, w.alloc (.cells #[.slice (some ⟨Ab, Ao, none⟩) g.length c] 24) = x := ⟨_, rfl⟩
    have hf1 : Frm w w1 [] := by rw [← hw1]; exact (Frm.refl _ _).alloc _
    have hs1 : w1.heap.size = w.heap.size + 1 := by rw [← hw1, World.size_alloc]
    have hbox : w1.cell? ⟨w.heap.size, 0, none⟩ = some (.slice (some ⟨Ab, Ao, none⟩) g.length c) := by rw [← hw1]; simp [go_sem]
    have hmet1 := hmet.frm hf1 (fun _ _ => by simp)
    have dn := hmet1.cellAt (bl_get vis hn)
    have fn := hmet1.freeAt n
    have hcell1 : w1.cell? ⟨Ab, Ao + n, none⟩ = some (.slice B l.length d) := (hf1.cell (p := ⟨Ab, Ao + n, none⟩) (Nat.lt_of_lt_of_le hAb hb0.size) (by simp)).trans ((hb0.cell (p := ⟨Ab, Ao + n, none⟩) hAb).trans hcell0)
    have hbs := hdone.size
    have HD := hide (And.intro (hmet1.set n (.bool true)) (And.intro (hdone.frmS hf1 (fun _ _ => by simp)) (And.intro hdone.size hb0)))
    have HF1 := hide hf1
    have HW0 := hide (Within.begin (out := out) hn hv)
    have hkk : cnt (fun i => vis i || i == n) g.length + 1 = cnt vis g.length := cnt_set hv g.length hn
    clear ih hg hb0 hmet hdone hlg hdm e4 hf1 hmet1 hcell0 hMw hbs
    go_enter Try.func34, Try.ntmps34
    go_wp2_with fail
    have HS : Hid (∀ x ∈ M :: dv.ownBlock.toList, w0.heap.size ≤ x ∧ x < w.heap.size) := hide fun x hx => by
      rcases List.mem_cons.1 hx with rfl | hx
      · exact ⟨Nat.le_trans hbase hMb, hMs⟩
      · have := HD.out.2.2.1 x (by simpa using hx)
        exact ⟨Nat.le_trans hbase this.1, this.2⟩
    have hfM : Frm w1 (w1.setCell ⟨M, n, none⟩ (.bool true)) [M] := (Frm.refl w1 [M]).setCell _ _ (.inl (by simp))
    have HM2 : Hid (OwnV (w1.setCell ⟨M, n, none⟩ (.bool true)) base 4 (.slice (some ⟨M, 0, none⟩) g.length g.length) (bl g.length (fun i => vis i || i == n))) := hide (by
      have := HD.out.1
      rw [bl_set (g := fun i => vis i || i == n) (by simp) (fun j hj => by simp [hj])] at this
      exact this)
    have HO2 : Hid (Own (w1.setCell ⟨M, n, none⟩ (.bool true)) base 3 .i64 dv (ints out)) := hide (HD.out.2.1.frmS hfM (fun x hx h => hMd (by rw [List.mem_singleton.1 h] at hx; simpa using hx)))
    have HV2 : Hid (Vst w (w1.setCell ⟨M, n, none⟩ (.bool true)) (M :: dv.ownBlock.toList) dv (w.heap.size + 1)) := hide ⟨(HF1.out.mono (by simp)).trans (hfM.mono (by simp)), fun x hx => .inl (by simp [hx])⟩
    have hbox2 : (w1.setCell ⟨M, n, none⟩ (.bool true)).cell? ⟨w.heap.size, 0, none⟩ = some (.slice (some ⟨Ab, Ao, none⟩) g.length c) := (hfM.cell (p := ⟨w.heap.size, 0, none⟩) (by show w.heap.size < _; omega) (by show w.heap.size ∉ [M]; simp; omega)).trans hbox
    clear hbox dn fn hcell1 hfM hw1
    go_loopw [20, 3] (fun z v wr => ∃ (j : Nat) (vj : Nat → Bool) (oj : List Nat), j ≤ l.length ∧ z = .int .i64 j ∧ Hid (Within g n vis out vj oj j) ∧ Hid (OwnV wr base 4 (.slice (some ⟨M, 0, none⟩) g.length g.length) (bl g.length vj)) ∧ Hid (Own wr base 3 .i64 v (ints oj)) ∧ Hid (Vst w wr (M :: dv.ownBlock.toList) v (w.heap.size + 1)) ∧ wr.cell? ⟨w.heap.size, 0, none⟩ = some (.slice (some ⟨Ab, Ao, none⟩) g.length c)) (fun z _ _ => l.length - (intOf z).toNat)
    case atStart => exact ⟨0, _, out, Nat.zero_le _, rfl, HW0, HM2, HO2, HV2, hbox2⟩
    case round =>
      clear HM2 HO2 HV2 hbox2 HW0
      obtain ⟨wr, rfl⟩ : ∃ x, x = wr := ⟨_, rfl⟩
      obtain ⟨v, rfl⟩ : ∃ x, x = u3 := ⟨_, rfl⟩
      obtain ⟨j, vj, oj, hj, rfl, HW, HM, HO, HV, hbox⟩ := hrel
      have hbw : Below w0.heap.size w0 wr := HD.out.2.2.2.trans (HV.out.frm.toBelow (fun x hx => (HS.out x hx).1) HD.out.2.2.2.size)
      have hws : w.heap.size < wr.heap.size := lt_of_cell hbox
      have HBW := hide hbw
      by_cases hjt : j < l.length
      · have hjt' : (j : Int) < l.length := by omega
        obtain ⟨m, hm⟩ : ∃ x, l[j]? = some x := ⟨_, List.getElem?_eq_getElem hjt⟩
        obtain ⟨y, rfl, hyn⟩ := ok_node hok HL.out hm
        obtain ⟨b2, off2, rfl, hbl, cx⟩ := rd_at (HR.out.below' hbw) hm
        have hyn' : (y : Int) < g.length := by omega
        have HSG := hide (succs_get HL.out hm)
        have dy := HM.out.cellAt (bl_get vj hyn)
        clear hm hbw
        cases hvy : vj y with
        | true =>
          rw [hvy] at dy
          have HW2 := hide (HW.out.skip HSG.out hvy)
          clear hvy
          go_wp2_with fail
          go_roundw
          case rel => exact ⟨j + 1, vj, oj, by omega, by go_num, HW2, HM, HO, HV, hbox⟩
          case measure => simp [intOf]; omega
        | false =>
          rw [hvy] at dy
          have hless := HW.out.less
          have hlen := HW.out.len
          have HC := hide (IH.out vj oj y wr w0 M base v (by omega) hyn hvy (by omega) HG.out HBW.out hbase HM.out HO.out)
          have HVY := hide hvy
          clear hvy hless hlen
          go_wp2_with fail
          refine HC.out.mono ?_
          rintro en w' ⟨vis', out', v', rfl, hvis, hm', ho', hst⟩
          have HW2 := hide (HW.out.go HSG.out HVY.out hvis)
          have HV2 := hide (HV.out.next hst (by simp) hws (Nat.le_succ _))
          have hbox2 : w'.cell? ⟨w.heap.size, 0, none⟩ = some (.slice (some ⟨Ab, Ao, none⟩) g.length c) := (hst.frm.cell (p := ⟨w.heap.size, 0, none⟩) hws (fun h => by
            rcases List.mem_cons.1 h with h | h
            · have h : w.heap.size = M := h
              omega
            · rcases HV.out.blk w.heap.size (by simpa using h) with h2 | h2
              · exact Nat.lt_irrefl _ (HS.out _ h2).2
              · omega)).trans hbox
          have HM2 := hide hm'
          have HO2 := hide ho'
          clear hvis hm' ho' hst HC cx dy hbox
          go_wp2_with fail
          go_roundw
          case rel => exact ⟨j + 1, vis', out', by omega, by go_num, HW2, HM2, HO2, HV2, hbox2⟩
          case measure => simp [intOf]; omega
      · obtain rfl : j = l.length := by omega
        have hlen := HW.out.len
        have HWF := hide (HW.out.finish (by rw [succs_len HL.out]; exact Nat.le_refl _))
        have hbsz : base ≤ wr.heap.size := by omega
        clear hbw hbox
        go_wp2_with (first | (refine wpList_append_rd _ rfl _ _ 36 rfl base 3 .i64 8 intE _ (ints oj) rfl (HO.out.alloc _) _ [(n : Int)] rfl (rd_one wr 3 (n : Int)) ?b1 ?b2 ?b3 ?_))
        case b1 => rw [ints_len, List.length_singleton]; omega
        case b2 => unfold maxLen; rw [ints_len, List.length_singleton]; omega
        case b3 => rw [World.size_alloc]; omega
        intro v' w5 ho5 hg5 hb5 hblk
        obtain ⟨_, _, curM, hMw⟩ := HM.out.whole
        have hMv : M ∉ v.ownBlock.toList := fun h => HO.out.ne_whole hMw (by decide) (by simpa using h)
        have hf5 : Frm wr w5 v.ownBlock.toList := ((Frm.refl wr _).alloc _).trans (Frm.grown hg5)
        have HM5 := hide (HM.out.frm hf5 (fun x hx h => hMv (by
          have e : x = M := by simpa [Value.ownBlock] using hx.symm
          exact e ▸ h)))
        have HV5 : Hid (Vst w w5 (M :: dv.ownBlock.toList) v' w.heap.size) := hide (by
          have h1 := HV.out.next (M := M) (v' := v') (w' := w5) ⟨hf5.mono (fun x hx => .inl (List.mem_cons_of_mem _ hx)), fun x hx => by
            rcases hblk with h | h
            · rw [h] at hx; exact .inl (List.mem_cons_of_mem _ (by simpa using hx))
            · rw [h] at hx; injection hx with hx; exact .inr (by omega)⟩ (by simp) hws (Nat.le_succ _)
          exact ⟨h1.frm, fun x hx => (h1.blk x hx).imp id (fun h => by omega)⟩)
        have HO5 : Hid (Own w5 base 3 .i64 v' (ints (oj ++ [n]))) := hide (by rw [ints_snoc]; exact ho5)
        clear ho5 hg5 hb5 hblk hMw hMv hf5
        go_wp2_with fail
        go_ret
        exact ⟨vj, oj ++ [n], v', rfl, HWF.out, HM5.out, HO5.out, HV5.out⟩
end Go.Proofs.Ytaehfohljblmoaa

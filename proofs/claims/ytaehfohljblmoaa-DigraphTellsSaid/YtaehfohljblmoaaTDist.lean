/-
  Layer 6 (digraph), the reference: Distances.
-/
import Derived.Test.YtaehfohljblmoaaTCheck
import Derived.Test.YtaehfohljblmoaaTDistMath
import Derived.Test.YtaehfohljblmoaaDist
namespace Go.Proofs.Ytaehfohljblmoaa
open Go.RowKit

set_option maxRecDepth 100000 in
set_option maxHeartbeats 4000000 in
theorem rdist_any (A : Option Addr) (c : Nat) (g : List (List Int)) (t : Nat) (w : World) (hg : RdL w A c g) (hok : okG g = true) (hN : g.length ≤ 65536) (ht : t < g.length) :
    Calls Try.prog 39 #[.agg #[.slice A g.length c], .int .i64 (t : Nat)] w fun en w' => ∃ D, en = .returned (.slice (some ⟨D, 0, none⟩) g.length g.length) ∧ Own w' w.heap.size 3 .i64 (.slice (some ⟨D, 0, none⟩) g.length g.length) (dist (rev g) t) ∧ Below w.heap.size w w' := by
  obtain ⟨w1, hw1⟩ : ∃ x, w.alloc (.cells #[.slice A g.length c] 24) = x := ⟨_, rfl⟩
  have hs1 : w1.heap.size = w.heap.size + 1 := by rw [← hw1, World.size_alloc]
  have hbox : w1.cell? ⟨w.heap.size, 0, none⟩ = some (.slice A g.length c) := by rw [← hw1]; simp [go_sem]
  have hf1 : Below w.heap.size w w1 := by rw [← hw1]; exact (Below.refl _ _).alloc (Nat.le_refl _) _
  have HG : Hid (RdL w1 A c g) := hide (hg.below' hf1)
  have HF1 := hide hf1
  have HO := hide hok
  have hmk := run_made w1 36 3 (.int .i64 0) 8 Try.underlying36 infoInt rfl (by omega) g.length (by omega)
  have ht' : (t : Int) < g.length := by omega
  have HD : Hid (Own (w1.alloc (.cells (madeCells #[.int .i64 0] g.length) 3)) w1.heap.size 3 .i64 (.slice (some ⟨w1.heap.size, 0, none⟩) g.length g.length) (fillTo g.length 0) ∧ Below w1.heap.size w1 (w1.alloc (.cells (madeCells #[.int .i64 0] g.length) 3))) := hide ⟨by
    rw [fillTo_zero]
    have := own_madeV w1 3 (.int .i64 0) g.length w1.heap.size (by unfold maxLen; omega) (Nat.le_refl _)
    exact OwnV.toI (by simpa using this), (Below.refl _ _).alloc (Nat.le_refl _) _⟩
  have HX := hide hbox
  clear hg hf1 hs1 hok
  go_enter Try.func39, Try.ntmps39
  go_wp2_with fail
  go_loopw [18] (fun z wr => ∃ i : Nat, i ≤ g.length ∧ z = .int .i64 i ∧ Own wr w1.heap.size 3 .i64 (.slice (some ⟨w1.heap.size, 0, none⟩) g.length g.length) (fillTo g.length i) ∧ Below w1.heap.size w1 wr) (fun z _ => g.length - (intOf z).toNat)
  case atStart => exact ⟨0, Nat.zero_le _, rfl, HD.out.1, HD.out.2⟩
  case round =>
    clear HD hmk hbox hw1
    obtain ⟨wq, rfl⟩ : ∃ x, x = wr := ⟨_, rfl⟩
    obtain ⟨i, hi, rfl, hO, hb⟩ := hrel
    by_cases hlt : i < g.length
    · have hlt' : (i : Int) < g.length := by omega
      have c1 : wq.cell? ⟨w1.heap.size, i, none⟩ = some (.int .i64 0) := hO.cellAt (by rw [fillTo_get _ _ hlt, if_neg (Nat.lt_irrefl _)])
      have f1 : wq.frozen? ⟨w1.heap.size, i, none⟩ = false := hO.freeAt i
      have HS := hide (And.intro hO hb)
      clear hO hb
      go_wp2_with fail
      go_roundw
      case rel => exact ⟨i + 1, by omega, by go_num, by
        have := HS.out.1.set i (-1)
        rw [fillTo_step _ _ hlt] at this
        exact this, HS.out.2.setCell (p := ⟨w1.heap.size, i, none⟩) (Nat.le_refl _) _⟩
      case measure => simp [intOf]; omega
    · obtain rfl : i = g.length := by omega
      rw [fillTo_end] at hO
      have c1 : wq.cell? ⟨w1.heap.size, t, none⟩ = some (.int .i64 (-1)) := hO.cellAt (by rw [List.getElem?_replicate, if_pos ht])
      have f1 : wq.frozen? ⟨w1.heap.size, t, none⟩ = false := hO.freeAt t
      have HD := hide (And.intro (show Own (wq.setCell ⟨w1.heap.size, t, none⟩ (.int .i64 0)) w1.heap.size 3 .i64 (.slice (some ⟨w1.heap.size, 0, none⟩) g.length g.length) (dist0 g.length t) from hO.set t 0) (hb.setCell (p := ⟨w1.heap.size, t, none⟩) (Nat.le_refl _) (.int .i64 0)))
      clear hO hb hlt hi
      go_wp2_with fail
      clear c1 f1
      go_loopw [7] (fun z wr => ∃ (d : Nat) (o : List Int), d ≤ g.length ∧ z = .int .i64 d ∧ Hid (Rnd g t d o 0 0) ∧ Hid (Own wr w1.heap.size 3 .i64 (.slice (some ⟨w1.heap.size, 0, none⟩) g.length g.length) o) ∧ Hid (Below w1.heap.size w1 wr)) (fun z _ => g.length - (intOf z).toNat)
      case atStart => exact ⟨0, _, Nat.zero_le _, rfl, hide (Rnd.init ht), hide HD.out.1, hide HD.out.2⟩
      case round =>
        clear HD
        obtain ⟨wp, rfl⟩ : ∃ x, x = wr := ⟨_, rfl⟩
        obtain ⟨d, o, hd, rfl, HR, HOw, HB⟩ := hrel
        by_cases hdt : d < g.length
        · have hdt' : (d : Int) < g.length := by omega
          have hx4 : wp.cell? ⟨w.heap.size, 0, none⟩ = some (.slice A g.length c) := (HB.out.cell (p := ⟨w.heap.size, 0, none⟩) (lt_of_cell HX.out)).trans HX.out
          go_wp2_with fail
          clear hx4
          go_loopw [37] (fun z wr => ∃ (a : Nat) (o : List Int), a ≤ g.length ∧ z = .int .i64 a ∧ Hid (Rnd g t d o a 0) ∧ Hid (Own wr w1.heap.size 3 .i64 (.slice (some ⟨w1.heap.size, 0, none⟩) g.length g.length) o) ∧ Hid (Below w1.heap.size w1 wr)) (fun z _ => g.length - (intOf z).toNat)
          case atStart => exact ⟨0, o, Nat.zero_le _, rfl, HR, HOw, HB⟩
          case round =>
            clear HR HOw HB
            obtain ⟨wm, rfl⟩ : ∃ x, x = wr := ⟨_, rfl⟩
            obtain ⟨a, o, ha, rfl, HR, HOw, HB⟩ := hrel
            by_cases hat : a < g.length
            · have hat' : (a : Int) < g.length := by omega
              obtain ⟨l, hl⟩ : ∃ l, g[a]? = some l := ⟨_, List.getElem?_eq_getElem hat⟩
              obtain ⟨Ab, Ao, B, dd, rfl, hAb, hcell0, hrow⟩ := HG.out.at hl
              have hcell := (HB.out.cell (p := ⟨Ab, Ao + a, none⟩) hAb).trans hcell0
              have HL := hide hl
              have HRo := hide hrow
              obtain ⟨_, _, e3, hdl, hdm, -⟩ := hrow
              injection e3 with e3 e4 e5
              subst e3 e5
              have hd9 : dd ≤ 9223372036854775807 := by unfold maxLen at hdm; omega
              clear hl hdm e4 hcell0
              go_wp2_with fail
              clear hcell
              go_loopw [44] (fun z wr => ∃ (j : Nat) (o : List Int), j ≤ l.length ∧ z = .int .i64 j ∧ Hid (Rnd g t d o a j) ∧ Hid (Own wr w1.heap.size 3 .i64 (.slice (some ⟨w1.heap.size, 0, none⟩) g.length g.length) o) ∧ Hid (Below w1.heap.size w1 wr)) (fun z _ => l.length - (intOf z).toNat)
              case atStart => exact ⟨0, o, Nat.zero_le _, rfl, HR, HOw, HB⟩
              case round =>
                clear HR HOw HB
                obtain ⟨wk, rfl⟩ : ∃ x, x = wr := ⟨_, rfl⟩
                obtain ⟨j, o, hj, rfl, HR, HOw, HB⟩ := hrel
                by_cases hjt : j < l.length
                · have hjt' : (j : Int) < l.length := by omega
                  obtain ⟨m, hm⟩ : ∃ x, l[j]? = some x := ⟨_, List.getElem?_eq_getElem hjt⟩
                  obtain ⟨y, rfl, hyn⟩ := ok_node HO.out HL.out hm
                  obtain ⟨b2, off2, rfl, hbl, cx⟩ := rd_at (HRo.out.below' HB.out) hm
                  have hyn' : (y : Int) < g.length := by omega
                  have HSG := hide (succs_get HL.out hm)
                  have hol := HR.out.len
                  have da := HOw.out.cellAt (getD_get (d := o) (x := a) (by omega))
                  have dy := HOw.out.cellAt (getD_get (d := o) (x := y) (by omega))
                  have fa := HOw.out.freeAt a
                  have hva := HR.out.val a hat
                  have hga := revGood ht |>.rng a hat
                  obtain ⟨oa, hoa⟩ : ∃ z, o.getD a 0 = z := ⟨_, rfl⟩
                  obtain ⟨oy, hoy⟩ : ∃ z, o.getD y 0 = z := ⟨_, rfl⟩
                  rw [hoa] at da hva
                  rw [hoy] at dy
                  have hoa1 : -1 ≤ oa := by omega
                  have HE := hide (And.intro hoa hoy)
                  clear hm hol hva hga hoa hoy
                  by_cases h1 : oa < 0
                  · have h1d : decide (oa < 0) = true := decide_eq_true h1
                    have h1e : oa = -1 := by omega
                    by_cases h2 : oy = (d : Int)
                    · have h2d : (oy == (d : Int)) = true := by simpa using h2
                      have HR2 := hide (HR.out.hit HO.out ht HSG.out hat hyn (HE.out.1.trans h1e) (HE.out.2.trans h2))
                      have hwd : IntKind.i64.wrap ((d : Int) + 1) = (d : Int) + 1 := IntWalk.i64_in _ (by omega)
                      clear h1e h2 h1
                      go_wp2_with fail
                      go_roundw
                      case rel => exact ⟨j + 1, o.set a ((d : Int) + 1), by omega, by go_num, HR2, hide (HOw.out.set a _), hide (HB.out.setCell (p := ⟨w1.heap.size, a, none⟩) (Nat.le_refl _) _)⟩
                      case measure => simp [intOf]; omega
                    · have h2d : (oy == (d : Int)) = false := by simpa using h2
                      have HR2 := hide (HR.out.skip HSG.out hyn (.inr (by rw [HE.out.2]; exact h2)))
                      clear h1e h2
                      go_wp2_with fail
                      go_roundw
                      case rel => exact ⟨j + 1, o, by omega, by go_num, HR2, HOw, HB⟩
                      case measure => simp [intOf]; omega
                  · have h1d : decide (oa < 0) = false := decide_eq_false h1
                    have HR2 := hide (HR.out.skip HSG.out hyn (.inl (by rw [HE.out.1]; omega)))
                    clear h1
                    go_wp2_with fail
                    go_roundw
                    case rel => exact ⟨j + 1, o, by omega, by go_num, HR2, HOw, HB⟩
                    case measure => simp [intOf]; omega
                · obtain rfl : j = l.length := by omega
                  have HR2 := hide (HR.out.rowEnd HO.out ht hat (by rw [succs_len HL.out]; exact Nat.le_refl _))
                  go_wp2_with fail
                  go_roundw
                  case rel => exact ⟨a + 1, o, by omega, by go_num, HR2, HOw, HB⟩
                  case measure => simp [intOf]; omega
            · obtain rfl : a = g.length := by omega
              have HR2 := hide HR.out.begin
              go_wp2_with fail
              go_roundw
              case rel => exact ⟨d + 1, o, by omega, by go_num, HR2, HOw, HB⟩
              case measure => simp [intOf]; omega
        · obtain rfl : d = g.length := by omega
          have e := HR.out.all ht
          have h9 := HOw.out
          rw [e] at h9
          have HZ := hide (And.intro (h9.low HF1.out.size) (HF1.out.trans (HB.out.mono HF1.out.size)))
          clear h9 e
          go_wp2_with fail
          go_ret
          exact ⟨w1.heap.size, rfl, HZ.out.1, HZ.out.2⟩
end Go.Proofs.Ytaehfohljblmoaa

/-
  Layer 6 (digraph), the reference: Reachable.
-/
import Derived.Test.YtlgnmlhgghabkaaTCheck
import Derived.Test.YtlgnmlhgghabkaaTReachMath
import Derived.Test.YtlgnmlhgghabkaaDBase
namespace Go.Proofs.Ytlgnmlhgghabkaa
open Go.RowKit

set_option maxRecDepth 100000 in
set_option maxHeartbeats 2000000 in
theorem rreach_bad (A : Option Addr) (c : Nat) (g : List (List Int)) (v : Int) (w : World) (hg : RdL w A c g) (hbad : ¬ (codeG g = 0 ∧ 0 ≤ v ∧ v < g.length)) :
    Calls Try.prog 28 #[.agg #[.slice A g.length c], .int .i64 v] w fun en w' => en = .returned (.slice none 0 0) ∧ Below w.heap.size w w' := by
  have HA : Hid (Below w.heap.size w (w.alloc (.cells #[.slice A g.length c] 24))) := hide ((Below.refl _ _).alloc (Nat.le_refl _) _)
  have HK := rok_any A c g v _ (hg.below' HA.out)
  rw [decide_eq_false hbad] at HK
  have HKh := hide HK
  clear hg hbad HK
  go_enter Try.func28, Try.ntmps28
  go_wp2_with fail
  refine HKh.out.mono ?_
  rintro en w2 ⟨rfl, hb⟩
  have HZ := hide (HA.out.trans (hb.mono HA.out.size))
  clear hb HA
  go_wp2_with fail
  go_ret
  exact ⟨rfl, HZ.out⟩

set_option maxRecDepth 100000 in
set_option maxHeartbeats 4000000 in
theorem rreach_any (A : Option Addr) (c : Nat) (g : List (List Int)) (v : Nat) (w : World) (hg : RdL w A c g) (hok : codeG g = 0) (hv : v < g.length) :
    Calls Try.prog 28 #[.agg #[.slice A g.length c], .int .i64 (v : Nat)] w fun en w' => (∃ D, en = .returned (.slice (some ⟨D, 0, none⟩) g.length g.length) ∧ OwnV w' w.heap.size 4 (.slice (some ⟨D, 0, none⟩) g.length g.length) (bl g.length (fun i => decide (i ∈ post g v)))) ∧ Below w.heap.size w w' := by
  have HA : Hid (Below w.heap.size w (w.alloc (.cells #[.slice A g.length c] 24))) := hide ((Below.refl _ _).alloc (Nat.le_refl _) _)
  have HG : Hid (RdL (w.alloc (.cells #[.slice A g.length c] 24)) A c g) := hide (hg.below' HA.out)
  have hx : (w.alloc (.cells #[.slice A g.length c] 24)).cell? ⟨w.heap.size, 0, none⟩ = some (.slice A g.length c) := by simp [go_sem]
  have hN := (code_ok hok).2
  have HO := hide (code_ok hok).1
  have HK := rok_any A c g v _ HG.out
  rw [decide_eq_true (⟨hok, by omega, by omega⟩ : codeG g = 0 ∧ 0 ≤ (v : Int) ∧ (v : Int) < g.length)] at HK
  have HKh := hide HK
  have hv' : (v : Int) < g.length := by omega
  clear hg HK hok
  go_enter Try.func28, Try.ntmps28
  go_wp2_with fail
  refine HKh.out.mono ?_
  rintro en w3 ⟨rfl, hb⟩
  have HB3 := hide (HA.out.trans (hb.mono HA.out.size))
  have HG3 := hide (HG.out.below' hb)
  have hx3 : w3.cell? ⟨w.heap.size, 0, none⟩ = some (.slice A g.length c) := (hb.cell (p := ⟨w.heap.size, 0, none⟩) (lt_of_cell hx)).trans hx
  clear hb hx HA HG HKh
  have hmk := run_made w3 39 4 (.bool false) 1 Try.underlying39 infoBool rfl (by omega) g.length (by omega)
  obtain ⟨w4, hw4⟩ : ∃ x, w3.alloc (.cells (madeCells #[.bool false] g.length) 4) = x := ⟨_, rfl⟩
  have hb4 : Below w3.heap.size w3 w4 := by rw [← hw4]; exact (Below.refl _ _).alloc (Nat.le_refl _) _
  have hD : OwnV w4 w3.heap.size 4 (.slice (some ⟨w3.heap.size, 0, none⟩) g.length g.length) (bl g.length (fun _ => false)) := by
    rw [bl_false, ← hw4]
    exact own_madeV w3 4 (.bool false) g.length w3.heap.size (by unfold maxLen; omega) (Nat.le_refl _)
  have d1 := hD.cellAt (bl_get (fun _ => false) hv)
  have f1 := hD.freeAt v
  have hx4 : w4.cell? ⟨w.heap.size, 0, none⟩ = some (.slice A g.length c) := (hb4.cell (p := ⟨w.heap.size, 0, none⟩) (lt_of_cell hx3)).trans hx3
  have HD := hide (And.intro (hD.set v (.bool true)) (hb4.setCell (p := ⟨w3.heap.size, v, none⟩) (Nat.le_refl _) (.bool true)))
  have HX := hide hx3
  clear hD hb4
  go_wp2_with fail
  clear hw4 d1 f1 hx4 hmk
  go_loopg [6] (g.length + 2) (fun k ch wr => ∃ (f : Nat → Bool) (b : Bool), ch = .bool b ∧ Hid (b = true → cnt f g.length + 1 ≤ k) ∧ Hid (b = false → ∀ x, f x = decide (x ∈ post g v)) ∧ Hid (∀ x, f x = true → Way g v x) ∧ Hid (f v = true) ∧ Hid (OwnV wr w3.heap.size 4 (.slice (some ⟨w3.heap.size, 0, none⟩) g.length g.length) (bl g.length f)) ∧ Hid (Below w3.heap.size w3 wr))
  case atStart =>
    refine ⟨fun i => i == v, true, rfl, hide fun _ => by have := cnt_le (fun i => i == v) g.length; omega, hide fun h => (by cases h), hide fun x hx => ?_, hide (by simp), hide ?_, hide HD.out.2⟩
    · obtain rfl : x = v := by simpa using hx
      exact .here
    · have := HD.out.1
      rw [bl_set (g := fun i => i == v) (by simp) (fun j hj => by simpa using hj)] at this
      exact this
  case round =>
    clear HD hx3
    obtain ⟨wq, rfl⟩ : ∃ x, x = wr := ⟨_, rfl⟩
    obtain ⟨n0, rfl⟩ : ∃ x, x = gk := ⟨_, rfl⟩
    obtain ⟨f, b, rfl, hk, hcl, hway, hst, hO, hb⟩ := hrel
    cases b with
    | false =>
      have HZ := hide (And.intro hO.out hb.out)
      have e : bl g.length f = bl g.length (fun i => decide (i ∈ post g v)) := by unfold bl; exact List.map_congr_left fun i _ => by rw [hcl.out rfl i]
      rw [e] at HZ
      clear hk hcl hway hst hO hb e
      go_wp2_with fail
      go_ret
      exact ⟨⟨w3.heap.size, rfl, HZ.out.1.low HB3.out.size⟩, HB3.out.trans (HZ.out.2.mono HB3.out.size)⟩
    | true =>
      have hx4 : wq.cell? ⟨w.heap.size, 0, none⟩ = some (.slice A g.length c) := (hb.out.cell (p := ⟨w.heap.size, 0, none⟩) (lt_of_cell HX.out)).trans HX.out
      have HP : Hid (Pass g v f f false 0 0) := hide (Pass.begin hway.out hst.out)
      go_wp2_with fail
      go_loopw [26, 6] (fun z ch wr => ∃ (a : Nat) (f2 : Nat → Bool) (b2 : Bool), a ≤ g.length ∧ z = .int .i64 a ∧ ch = .bool b2 ∧ Hid (Pass g v f f2 b2 a 0) ∧ OwnV wr w3.heap.size 4 (.slice (some ⟨w3.heap.size, 0, none⟩) g.length g.length) (bl g.length f2) ∧ Below w3.heap.size w3 wr) (fun z _ _ => g.length - (intOf z).toNat)
      case atStart => exact ⟨0, f, false, Nat.zero_le _, rfl, rfl, HP, hO.out, hb.out⟩
      case round =>
        clear HP hx4 hO hb
        obtain ⟨wp, rfl⟩ : ∃ x, x = wr := ⟨_, rfl⟩
        obtain ⟨a, f2, b2, ha, rfl, rfl, hP, hO, hb⟩ := hrel
        by_cases hlt : a < g.length
        · have hlt' : (a : Int) < g.length := by omega
          obtain ⟨l, hl⟩ : ∃ l, g[a]? = some l := ⟨_, List.getElem?_eq_getElem hlt⟩
          obtain ⟨Ab, Ao, B, d, rfl, hAb, hcell0, hrow⟩ := HG3.out.at hl
          have hcell := (hb.cell (p := ⟨Ab, Ao + a, none⟩) hAb).trans hcell0
          have HL := hide hl
          have HR := hide hrow
          obtain ⟨_, _, e3, hd, hdm, -⟩ := hrow
          injection e3 with e3 e4 e5
          subst e3 e5
          have hd9 : d ≤ 9223372036854775807 := by unfold maxLen at hdm; omega
          have HOO := hide (And.intro hO hb)
          clear hl hdm e4 hO hb hcell0
          go_wp2_with fail
          clear hcell
          go_loopw [33, 6] (fun z ch wr => ∃ (j : Nat) (f3 : Nat → Bool) (b3 : Bool), j ≤ l.length ∧ z = .int .i64 j ∧ ch = .bool b3 ∧ Hid (Pass g v f f3 b3 a j) ∧ OwnV wr w3.heap.size 4 (.slice (some ⟨w3.heap.size, 0, none⟩) g.length g.length) (bl g.length f3) ∧ Below w3.heap.size w3 wr) (fun z _ _ => l.length - (intOf z).toNat)
          case atStart => exact ⟨0, f2, b2, Nat.zero_le _, rfl, rfl, hP, HOO.out.1, HOO.out.2⟩
          case round =>
            clear HOO
            obtain ⟨wk, rfl⟩ : ∃ x, x = wr := ⟨_, rfl⟩
            obtain ⟨j, f3, b3, hj, rfl, rfl, hP, hO, hb⟩ := hrel
            by_cases hjt : j < l.length
            · have hjt' : (j : Int) < l.length := by omega
              obtain ⟨m, hm⟩ : ∃ x, l[j]? = some x := ⟨_, List.getElem?_eq_getElem hjt⟩
              obtain ⟨y, rfl, hyn⟩ := ok_node HO.out HL.out hm
              obtain ⟨b2, off2, rfl, hbl, cx⟩ := rd_at (HR.out.below' hb) hm
              have hyn' : (y : Int) < g.length := by omega
              have HSG := hide (succs_get HL.out hm)
              have da := hO.cellAt (bl_get f3 hlt)
              have dy := hO.cellAt (bl_get f3 hyn)
              have fy := hO.freeAt y
              have HO3 := hide (And.intro hO hb)
              clear hm hO hb
              cases hfa : f3 a with
              | false =>
                rw [hfa] at da
                have HP2 := hide (hP.out.skip HSG.out (.inl hfa))
                clear hfa dy fy
                go_wp2_with fail
                go_roundw
                case rel => exact ⟨j + 1, f3, b3, by omega, by go_num, rfl, HP2, HO3.out.1, HO3.out.2⟩
                case measure => simp [intOf]; omega
              | true =>
                cases hfy : f3 y with
                | true =>
                  rw [hfa] at da
                  rw [hfy] at dy
                  have HP2 := hide (hP.out.skip HSG.out (.inr hfy))
                  clear hfa hfy fy
                  go_wp2_with fail
                  go_roundw
                  case rel => exact ⟨j + 1, f3, b3, by omega, by go_num, rfl, HP2, HO3.out.1, HO3.out.2⟩
                  case measure => simp [intOf]; omega
                | false =>
                  rw [hfa] at da
                  rw [hfy] at dy
                  have HP2 := hide (hP.out.hit HSG.out hyn hfa hfy)
                  clear hfa hfy
                  go_wp2_with fail
                  go_roundw
                  case rel => exact ⟨j + 1, fun i => f3 i || i == y, true, by omega, by go_num, rfl, HP2, by
                    have := HO3.out.1.set y (.bool true)
                    rw [bl_set (g := fun i => f3 i || i == y) (by simp) (fun j hj => by simp [hj])] at this
                    exact this, HO3.out.2.setCell (p := ⟨w3.heap.size, y, none⟩) (Nat.le_refl _) _⟩
                  case measure => simp [intOf]; omega
            · obtain rfl : j = l.length := by omega
              have HP2 := hide (hP.out.rowEnd (by rw [succs_len HL.out]; exact Nat.le_refl _))
              go_wp2_with fail
              go_roundw
              case rel => exact ⟨a + 1, f3, b3, by omega, by go_num, rfl, HP2, hO, hb⟩
              case measure => simp [intOf]; omega
        · obtain rfl : a = g.length := by omega
          have HZ := hide (And.intro hO hb)
          clear hO hb
          go_wp2_with fail
          go_roundg (if b2 = true then cnt f2 g.length + 1 else 0)
          case measure =>
            have := hk.out (by trivial)
            cases b2 with
            | false => simp; omega
            | true => have := hP.out.less rfl; simp; omega
          case rel => exact ⟨f2, b2, rfl, hide fun h => by rw [h]; simp, hide fun h x => by subst h; exact hP.out.reached HO.out hv x, hide hP.out.way, hide hP.out.start, hide HZ.out.1, hide HZ.out.2⟩
end Go.Proofs.Ytlgnmlhgghabkaa

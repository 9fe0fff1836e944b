/-
  Layer 7 (scc), the reference: Paths.
-/
import Derived.Test.YtakojoedifhcnaaTMat
namespace Go.Proofs.Ytakojoedifhcnaa
open Go.RowKit

theorem boolV : ElemV Try.prog 32 4 (.bool false) 1 := ⟨Try.underlying32, rfl, info_parts infoBool⟩
theorem infoBools : (Try.prog.info? 32).map (fun i => (i.zero, i.size, i.bytes)) = some (some (.slice none 0 0), 1, 24) := by kernel_rfl
theorem boolsV : ElemV Try.prog 35 32 (.slice none 0 0) 24 := ⟨Try.underlying35, rfl, info_parts infoBools⟩
theorem edgeB_stray {g : List (List Int)} {a b : Nat} {l : List Int} (hl : g[a]? = some l) (hb : b < g.length) : decide ((b : Int) ∈ l) = edgeB (stray g) a b := by
  unfold edgeB
  rw [decide_eq_decide, succs_stray, getD_of hl]
  exact ⟨fun h => ⟨hb, h⟩, fun h => h.2⟩
theorem mem_take {l : List Int} {j : Nat} {m : Int} (hm : l[j]? = some m) (x : Int) : decide (x ∈ l.take (j + 1)) = (decide (x ∈ l.take j) || decide (x = m)) := by
  rw [List.take_add_one, hm, Bool.eq_iff_iff]
  simp

set_option maxRecDepth 100000 in
set_option maxHeartbeats 4000000 in
theorem paths_any (A : Option Addr) (c : Nat) (g : List (List Int)) (w : World) (hg : RdL w A c g) (hN : g.length ≤ 65536) :
    Calls Try.prog 18 #[.agg #[.slice A g.length c]] w fun en w' => (∃ sv rs, en = .returned sv ∧ rs.length = g.length ∧ BMat w' w.heap.size sv g.length rs (path1B (stray g))) ∧ Below w.heap.size w w' := by
  have hc := hg.cap
  have hc9 : c ≤ 9223372036854775807 := by unfold maxLen at hc; omega
  obtain ⟨w1, hw1⟩ : ∃ x, w.alloc (.cells #[.slice A g.length c] 24) = x := ⟨_, rfl⟩
  have hx1 : w1.cell? ⟨w.heap.size, 0, none⟩ = some (.slice A g.length c) := by rw [← hw1]; simp [go_sem]
  have hB1 : Below w.heap.size w w1 := by rw [← hw1]; exact (Below.refl _ _).alloc (Nat.le_refl _) _
  have HB1 := hide hB1
  have HX1 := hide hx1
  have HG1 := hide (hg.below' hB1)
  obtain ⟨E, hE⟩ : ∃ E, edgeB (stray g) = E := ⟨_, rfl⟩
  have HE : Hid (∀ a l b, g[a]? = some l → b < g.length → decide ((b : Int) ∈ l) = E a b) := hide (fun a l b hl hb => hE ▸ edgeB_stray hl hb)
  have HPE : Hid (path1B (stray g) = wz E g.length) := hide (by funext i j; unfold path1B; rw [hE, stray_len])
  clear hg hB1 hc hE
  go_enter Try.func18, Try.ntmps18
  go_wp2_with fail
  clear hw1 hx1
  go_loopw [4, 5] (fun sv z wr => ∃ (a : Nat) (rs : List Nat), a ≤ g.length ∧ z = .int .i64 (a : Nat) ∧ Hid (rs.length = a) ∧ Hid (BMat wr w1.heap.size sv g.length rs E) ∧ Hid (Below w1.heap.size w1 wr)) (fun _ z _ => g.length - (intOf z).toNat)
  case atStart => exact ⟨0, [], Nat.zero_le _, rfl, hide rfl, hide BMat.nil, hide (Below.refl _ _)⟩
  case round =>
    obtain ⟨wq, rfl⟩ : ∃ x, x = wr := ⟨_, rfl⟩
    obtain ⟨a, rs, ha, rfl, HRS, HM, HB⟩ := hrel
    by_cases hlt : a < g.length
    · have hlt' : (a : Int) < g.length := by omega
      obtain ⟨l, hl⟩ : ∃ l, g[a]? = some l := ⟨_, List.getElem?_eq_getElem hlt⟩
      have hmk := run_made wq 32 4 (.bool false) 1 Try.underlying32 infoBool rfl (by omega) g.length (by omega)
      obtain ⟨w3, h3⟩ : ∃ x, wq.alloc (.cells (madeCells #[.bool false] g.length) 4) = x := ⟨_, rfl⟩
      have HR3 : Hid (OwnV w3 wq.heap.size 4 (.slice (some ⟨wq.heap.size, 0, none⟩) g.length g.length) (bl g.length (fun x => decide ((x : Int) ∈ l.take 0)))) := hide (by
        rw [bl_congr (h := fun _ => false) (fun i _ => by simp), bl_false, ← h3]
        exact own_madeV wq 4 (.bool false) g.length wq.heap.size (by unfold maxLen; omega) (Nat.le_refl _))
      have HB3 : Hid (Below wq.heap.size wq w3) := hide (by rw [← h3]; exact (Below.refl _ _).alloc (Nat.le_refl _) _)
      have HB13 := HB.out.trans (HB3.out.mono HB.out.size)
      obtain ⟨b, off, B, d, rfl, hbl2, hcell2, hrow⟩ := HG1.out.at hl
      have hcell := (HB13.cell (p := ⟨b, off + a, none⟩) hbl2).trans hcell2
      have cx := (HB13.cell (p := ⟨w.heap.size, 0, none⟩) (lt_of_cell HX1.out)).trans HX1.out
      have HRW := hide hrow
      obtain ⟨_, _, e3, hd, hm, -⟩ := hrow
      injection e3 with e3 e4 e5
      subst e3 e5
      have hd9 : d ≤ 9223372036854775807 := by unfold maxLen at hm; omega
      have HL := hide hl
      clear hbl2 hcell2 hm e4 hl HB13
      go_wp2_with fail
      clear h3 hmk cx hcell
      go_loopw [28] (fun z wr => ∃ j : Nat, j ≤ l.length ∧ z = .int .i64 (j : Nat) ∧ Hid (OwnV wr wq.heap.size 4 (.slice (some ⟨wq.heap.size, 0, none⟩) g.length g.length) (bl g.length (fun x => decide ((x : Int) ∈ l.take j)))) ∧ Hid (Below wq.heap.size wq wr)) (fun z _ => l.length - (intOf z).toNat)
      case atStart => exact ⟨0, Nat.zero_le _, rfl, HR3, HB3⟩
      case round =>
        clear HR3 HB3
        obtain ⟨wp, rfl⟩ : ∃ x, x = wr := ⟨_, rfl⟩
        obtain ⟨j, hj, rfl, HR, HBP⟩ := hrel
        by_cases hlt2 : j < l.length
        · have hlt2' : (j : Int) < l.length := by omega
          obtain ⟨m, hm⟩ : ∃ m, l[j]? = some m := ⟨_, List.getElem?_eq_getElem hlt2⟩
          obtain ⟨b2, off2, rfl, hbl2, cx⟩ := rd_at (HRW.out.below' (HB.out.trans (HBP.out.mono HB.out.size))) hm
          have HMT := hide (fun x : Int => mem_take hm x)
          by_cases h0 : 0 ≤ m
          · obtain ⟨y, rfl⟩ := Int.eq_ofNat_of_zero_le h0
            have hd0 : decide ((y : Int) ≥ 0) = true := decide_eq_true h0
            by_cases h1 : y < g.length
            · have h1' : (y : Int) < g.length := by omega
              have hd1 : decide ((y : Int) < (g.length : Int)) = true := decide_eq_true h1'
              have fd := HR.out.freeAt y
              have cd := HR.out.cellAt (bl_get (fun x => decide ((x : Int) ∈ l.take j)) h1)
              have hset := HR.out.set y (.bool true)
              rw [bl_set (g := fun x => decide ((x : Int) ∈ l.take (j + 1))) (by rw [HMT.out]; simp) (fun i hi => by
                rw [HMT.out, decide_eq_false (show ¬ ((i : Int) = (y : Int)) by omega), Bool.or_false])] at hset
              have HS := hide hset
              clear hset hm
              go_wp2_with fail
              go_roundw
              case rel => exact ⟨j + 1, by omega, by go_num, HS, hide (HBP.out.setCell (p := ⟨wq.heap.size, y, none⟩) (Nat.le_refl _) _)⟩
              case measure => simp [intOf]; omega
            · have h1' : ¬ (y : Int) < g.length := by omega
              have hd1 : decide ((y : Int) < (g.length : Int)) = false := decide_eq_false h1'
              have HS := HR.out
              rw [bl_congr (h := fun x => decide ((x : Int) ∈ l.take (j + 1))) (fun i hi => by rw [HMT.out, decide_eq_false (show ¬ ((i : Int) = (y : Int)) by omega), Bool.or_false])] at HS
              have HS := hide HS
              clear hm
              go_wp2_with fail
              go_roundw
              case rel => exact ⟨j + 1, by omega, by go_num, HS, HBP⟩
              case measure => simp [intOf]; omega
          · have hd0 : decide (m ≥ 0) = false := decide_eq_false h0
            have HS := HR.out
            rw [bl_congr (h := fun x => decide ((x : Int) ∈ l.take (j + 1))) (fun i hi => by rw [HMT.out, decide_eq_false (show ¬ ((i : Int) = m) by omega), Bool.or_false])] at HS
            have HS := hide HS
            clear hm
            go_wp2_with fail
            go_roundw
            case rel => exact ⟨j + 1, by omega, by go_num, HS, HBP⟩
            case measure => simp [intOf]; omega
        · obtain rfl : j = l.length := by omega
          have HS := HR.out
          rw [bl_congr (h := E a) (fun i hi => by rw [List.take_length]; exact HE.out a l i HL.out hi)] at HS
          have HR5 := hide HS
          have hMp := HM.out.frm (S := []) (Frm.below HBP.out) (fun _ _ => by simp) (fun _ _ => by simp)
          have HMP := hide hMp
          obtain ⟨As, cs, e0, hcs, hcm, -⟩ := hMp.own.rd
          rw [rowsV_len, HRS.out] at hcs e0
          subst e0
          have hcs9 : cs ≤ 9223372036854775807 := by unfold maxLen at hcm; omega
          clear HS hMp hcm
          go_wp2_with (first | (refine wpList_append_v _ rfl _ _ 35 rfl w1.heap.size 32 (.slice none 0 0) 24 boolsV _ (rowsV g.length rs) rfl (HMP.out.own.alloc _) _ [.slice (some ⟨wq.heap.size, 0, none⟩) g.length g.length] rfl (rdv_one wp 32 _) ?b0 ?b1 ?b2 ?b3 ?_))
          case b0 => intro y hy; rw [List.mem_singleton.1 hy]; rfl
          case b1 => rw [rowsV_len, HRS.out, List.length_singleton]; omega
          case b2 => rw [rowsV_len, HRS.out, List.length_singleton]; unfold maxLen; omega
          case b3 => have := HB.out.size; have := HBP.out.size; rw [World.size_alloc]; omega
          intro v' w5 ho5 hf5 hb5
          have hlow : ∀ r ∈ rs, r < wq.heap.size := fun r hr => by
            obtain ⟨i, hi⟩ := List.getElem?_of_mem hr
            exact ((HM.out.row i r hi).size r rfl).2
          have hBM := (HMP.out.still ((Below.refl _ _).alloc (Nat.le_refl _) (.cells #[.slice (some ⟨wq.heap.size, 0, none⟩) g.length g.length] 32))).push (f := E a) hf5 ho5 ((HR5.out.low HB.out.size).alloc _) (hb5.imp id (fun h x hx => by rw [h] at hx; injection hx with hx; first | exact Nat.le_of_eq hx | (rw [World.size_alloc]; omega))) (fun hm => Nat.lt_irrefl _ (hlow _ hm)) (fun e => Nat.lt_irrefl _ (HM.out.own.size _ e).2) (fun c => by rw [HRS.out])
          have hB5 : Below w1.heap.size w1 w5 := ((HB.out.trans (HBP.out.mono HB.out.size)).alloc (by have := HB.out.size; have := HBP.out.size; omega) _).trans (hf5.toBelow (fun g' hg' => (HMP.out.own.size g' (by simpa using hg')).1) (by have := HB.out.size; have := HBP.out.size; rw [World.size_alloc]; omega))
          have HZ := hide (And.intro hBM hB5)
          have HRL : Hid ((rs ++ [wq.heap.size]).length = a + 1) := hide (by simp [HRS.out])
          clear hBM hB5 ho5 hf5 hb5
          go_wp2_with fail
          go_roundw
          case rel => exact ⟨a + 1, rs ++ [wq.heap.size], by omega, by go_num, HRL, hide HZ.out.1, hide HZ.out.2⟩
          case measure => simp [intOf]; omega
    · obtain rfl : a = g.length := by omega
      have hMp := HM.out
      obtain ⟨As, cs, e0, hcs, hcm, -⟩ := hMp.own.rd
      rw [rowsV_len, HRS.out] at hcs e0
      subst e0
      have hcs9 : cs ≤ 9223372036854775807 := by unfold maxLen at hcm; omega
      have HRR : Hid (∀ i, i < g.length → ∃ r, rs[i]? = some r) := hide fun i hi => ⟨_, List.getElem?_eq_getElem (by rw [HRS.out]; exact hi)⟩
      clear hcm hMp
      go_wp2_with fail
      go_loopw [9] (fun z wr => ∃ k : Nat, k ≤ g.length ∧ z = .int .i64 (k : Nat) ∧ Hid (BMat wr w1.heap.size (.slice As g.length cs) g.length rs (wz E k)) ∧ Hid (Below w1.heap.size w1 wr)) (fun z _ => g.length - (intOf z).toNat)
      case atStart => exact ⟨0, Nat.zero_le _, rfl, HM, HB⟩
      case round =>
        clear HM HB
        obtain ⟨wp, rfl⟩ : ∃ x, x = wr := ⟨_, rfl⟩
        obtain ⟨k, hk, rfl, HM, HB⟩ := hrel
        by_cases hkn : k < g.length
        · have hkn' : (k : Int) < g.length := by omega
          obtain ⟨rk, hrk⟩ := HRR.out k hkn
          have HRK := hide hrk
          have HM0 : Hid (BMat wp w1.heap.size (.slice As g.length cs) g.length rs (wk E k 0 0)) := hide (HM.out.congr (fun i _ j _ => (wk_zero i j).symm))
          clear hrk
          go_wp2_with fail
          go_loopw [10] (fun z wr => ∃ i : Nat, i ≤ g.length ∧ z = .int .i64 (i : Nat) ∧ Hid (BMat wr w1.heap.size (.slice As g.length cs) g.length rs (wk E k i 0)) ∧ Hid (Below w1.heap.size w1 wr)) (fun z _ => g.length - (intOf z).toNat)
          case atStart => exact ⟨0, Nat.zero_le _, rfl, HM0, HB⟩
          case round =>
            clear HM HM0 HB
            obtain ⟨wo, rfl⟩ : ∃ x, x = wr := ⟨_, rfl⟩
            obtain ⟨i, hi, rfl, HM, HB⟩ := hrel
            by_cases hin : i < g.length
            · have hin' : (i : Int) < g.length := by omega
              obtain ⟨ri, hri⟩ := HRR.out i hin
              have HRI := hide hri
              obtain ⟨Db, rfl, ci⟩ := HM.out.head hri
              have ck := HM.out.bit hri hkn
              rw [wk_at] at ck
              clear hri
              cases hq : wz E k i k with
              | false =>
                rw [hq] at ck
                have HM2 := hide (HM.out.congr (fun a _ b _ => wk_skip hq a b))
                clear hq
                go_wp2_with fail
                go_roundw
                case rel => exact ⟨i + 1, by omega, by go_num, HM2, HB⟩
                case measure => simp [intOf]; omega
              | true =>
                rw [hq] at ck
                have HQ := hide hq
                clear hq
                go_wp2_with fail
                clear ci ck
                go_loopw [11] (fun z wr => ∃ j : Nat, j ≤ g.length ∧ z = .int .i64 (j : Nat) ∧ Hid (BMat wr w1.heap.size (.slice (some ⟨Db, 0, none⟩) g.length cs) g.length rs (wk E k i j)) ∧ Hid (Below w1.heap.size w1 wr)) (fun z _ => g.length - (intOf z).toNat)
                case atStart => exact ⟨0, Nat.zero_le _, rfl, HM, HB⟩
                case round =>
                  clear HM HB
                  obtain ⟨wn, rfl⟩ : ∃ x, x = wr := ⟨_, rfl⟩
                  obtain ⟨j, hj, rfl, HM, HB⟩ := hrel
                  by_cases hjn : j < g.length
                  · have hjn' : (j : Int) < g.length := by omega
                    obtain ⟨_, e1, ck⟩ := HM.out.head HRK.out
                    injection e1 with e1
                    injection e1 with e1
                    subst e1
                    obtain ⟨_, e1, ci⟩ := HM.out.head HRI.out
                    injection e1 with e1
                    injection e1 with e1
                    subst e1
                    have cj := HM.out.bit HRK.out hjn
                    rw [wk_own] at cj
                    have cij := HM.out.bit HRI.out hjn
                    have fij := HM.out.free HRI.out j
                    cases hq : wz E k k j with
                    | false =>
                      rw [hq] at cj
                      have HM2 := hide (HM.out.congr (fun a _ b _ => wk_miss hq a b))
                      clear hq cij
                      go_wp2_with fail
                      go_roundw
                      case rel => exact ⟨j + 1, by omega, by go_num, HM2, HB⟩
                      case measure => simp [intOf]; omega
                    | true =>
                      rw [hq] at cj
                      have HM2 := hide (HM.out.set HRI.out j true (wk_hit HQ.out hq) (fun a b h => wk_other a b h))
                      have hri1 := ((HM.out.row i ri HRI.out).size ri rfl).1
                      have HB2 := hide (HB.out.setCell (p := ⟨ri, j, none⟩) hri1 (.bool true))
                      clear hq
                      go_wp2_with fail
                      go_roundw
                      case rel => exact ⟨j + 1, by omega, by go_num, HM2, HB2⟩
                      case measure => simp [intOf]; omega
                  · obtain rfl : j = g.length := by omega
                    have HM2 := hide (HM.out.congr (fun a _ b hb => wk_row a b hb))
                    go_wp2_with fail
                    go_roundw
                    case rel => exact ⟨i + 1, by omega, by go_num, HM2, HB⟩
                    case measure => simp [intOf]; omega
            · obtain rfl : i = g.length := by omega
              have HM2 := hide (HM.out.congr (fun a ha b _ => wk_end a b (by rw [HRS.out] at ha; exact ha)))
              go_wp2_with fail
              go_roundw
              case rel => exact ⟨k + 1, by omega, by go_num, HM2, HB⟩
              case measure => simp [intOf]; omega
        · obtain rfl : k = g.length := by omega
          have hM := HM.out
          rw [← HPE.out] at hM
          have HZ := hide (And.intro (hM.low HB1.out.size) (HB1.out.trans (HB.out.mono HB1.out.size)))
          clear hM HM HB
          go_wp2_with fail
          go_ret
          exact ⟨⟨_, rs, rfl, HRS.out, HZ.out.1⟩, HZ.out.2⟩
end Go.Proofs.Ytakojoedifhcnaa

/-
  Layer 6 (digraph), the reference: Postorder, ReversePostorder.
-/
import Derived.Deep.RegionHeld3
import Derived.Test.YtaehfohljblmoaaTVisit
namespace Go.Proofs.Ytaehfohljblmoaa
open Go.RowKit

set_option maxRecDepth 100000 in
set_option maxHeartbeats 2000000 in
theorem rpost_bad (A : Option Addr) (c : Nat) (g : List (List Int)) (v : Int) (w : World) (hg : RdL w A c g) (hbad : ¬ (codeG g = 0 ∧ 0 ≤ v ∧ v < g.length)) :
    Calls Try.prog 21 #[.agg #[.slice A g.length c], .int .i64 v] w fun en w' => en = .returned (.slice none 0 0) ∧ Below w.heap.size w w' := by
  have HA : Hid (Below w.heap.size w (w.alloc (.cells #[.slice A g.length c] 24))) := hide ((Below.refl _ _).alloc (Nat.le_refl _) _)
  have HK := rok_any A c g v _ (hg.below' HA.out)
  rw [decide_eq_false hbad] at HK
  have HKh := hide HK
  clear hg hbad HK
  go_enter Try.func21, Try.ntmps21
  go_wp2_with fail
  refine HKh.out.mono ?_
  rintro en w2 ⟨rfl, hb⟩
  have HZ := hide (HA.out.trans (hb.mono HA.out.size))
  clear hb HA
  go_wp2_with fail
  go_ret
  exact ⟨rfl, HZ.out⟩

set_option maxRecDepth 100000 in
set_option maxHeartbeats 4000000 in
theorem rpost_any (A : Option Addr) (c : Nat) (g : List (List Int)) (v : Nat) (w : World) (hg : RdL w A c g) (hok : codeG g = 0) (hv : v < g.length) :
    Calls Try.prog 21 #[.agg #[.slice A g.length c], .int .i64 (v : Nat)] w fun en w' => (∃ ov, en = .returned ov ∧ Own w' w.heap.size 3 .i64 ov (ints (post g v))) ∧ Below w.heap.size w w' := by
  have HA : Hid (Below w.heap.size w (w.alloc (.cells #[.slice A g.length c] 24))) := hide ((Below.refl _ _).alloc (Nat.le_refl _) _)
  have HG : Hid (RdL (w.alloc (.cells #[.slice A g.length c] 24)) A c g) := hide (hg.below' HA.out)
  have hx : (w.alloc (.cells #[.slice A g.length c] 24)).cell? ⟨w.heap.size, 0, none⟩ = some (.slice A g.length c) := by simp [go_sem]
  have hN := (code_ok hok).2
  have HO := hide (code_ok hok).1
  have HK := rok_any A c g v _ HG.out
  rw [decide_eq_true (⟨hok, by omega, by omega⟩ : codeG g = 0 ∧ 0 ≤ (v : Int) ∧ (v : Int) < g.length)] at HK
  have HKh := hide HK
  have hv' : (v : Int) < g.length := by omega
  clear hg HK hok
  go_enter Try.func21, Try.ntmps21
  go_wp2_with fail
  refine HKh.out.mono ?_
  rintro en w3 ⟨rfl, hb⟩
  have HB3 := hide (HA.out.trans (hb.mono HA.out.size))
  have HG3 := hide (HG.out.below' hb)
  have hx3 : w3.cell? ⟨w.heap.size, 0, none⟩ = some (.slice A g.length c) := (hb.cell (p := ⟨w.heap.size, 0, none⟩) (lt_of_cell hx)).trans hx
  clear hb hx HA HG HKh
  go_upto_region 3 with fail
  have c1 : w3.drew.cell? ⟨w.heap.size, 0, none⟩ = some (.slice A g.length c) := hx3
  have hwl : w.heap.size < w3.heap.size := lt_of_cell hx3
  have hmk : (Instr.makeSlice 33 (.int .i64 g.length) (.int .i64 g.length)).run Try.prog w3.drew = .ok (.slice (some ⟨w3.heap.size, 0, none⟩) g.length g.length) (w3.alloc (.cells (madeCells #[.bool false] g.length) 4)).drew := run_made w3.drew 33 4 (.bool false) 1 Try.underlying33 infoBool rfl (by omega) g.length (by omega)
  have hb4 : Below w3.heap.size w3 (w3.alloc (.cells (madeCells #[.bool false] g.length) 4)).drew := ((Below.refl _ _).alloc (Nat.le_refl _) _).drew
  have c2 : (w3.alloc (.cells (madeCells #[.bool false] g.length) 4)).drew.cell? ⟨w.heap.size, 0, none⟩ = some (.slice A g.length c) := (hb4.cell (p := ⟨w.heap.size, 0, none⟩) hwl).trans hx3
  have hD : OwnV (w3.alloc (.cells (madeCells #[.bool false] g.length) 4)).drew w3.heap.size 4 (.slice (some ⟨w3.heap.size, 0, none⟩) g.length g.length) (bl g.length (fun _ => false)) := by
    rw [bl_false]
    exact own_madeV w3 4 (.bool false) g.length w3.heap.size (by unfold maxLen; omega) (Nat.le_refl _)
  have hcn : cnt (fun _ => false) g.length ≤ g.length := cnt_le _ _
  have HC := hide (visit_any A c g HO.out hN g.length (fun _ => false) [] v _ w3 w3.heap.size w3.heap.size (.slice none 0 0) hcn hv rfl (by simpa using hcn) HG3.out hb4 (Nat.le_refl _) hD Own.nil)
  have HB4 := hide hb4
  clear hx3 hD hcn HG3 hb4
  go_region_held3 (fun w' => w'.cell? ⟨w.heap.size, 0, none⟩ = some (.slice A g.length c)) (first | exact c1 | exact c2 | exact c3) (first | (go_at_call 34; refine HC.out.mono ?_; rintro en w' ⟨vis', out', v', rfl, hvis, hm', ho', hst⟩; have c3 := (hst.frm.cell (p := ⟨w.heap.size, 0, none⟩) (lt_of_cell c2) (by intro h; have h : w.heap.size ∈ [w3.heap.size] := h; rw [List.mem_singleton] at h; omega)).trans c2))
  all_goals
    have e := hvis.post HO.out hv
    subst e
    have HZ : Hid (Own w' w.heap.size 3 .i64 v' (ints (post g v)) ∧ Below w.heap.size w w') := hide ⟨ho'.low HB3.out.size, HB3.out.trans ((HB4.out.mono HB3.out.size).trans (hst.frm.toBelow (fun x hx => by
      have hx : x ∈ [w3.heap.size] := hx
      rw [List.mem_singleton.1 hx]; exact HB3.out.size) (Nat.le_trans HB3.out.size HB4.out.size)))⟩
    clear hvis hm' ho' hst c1 c2 c3 HC hmk
    go_wp2_with fail
    go_ret
    exact ⟨⟨v', rfl, HZ.out.1⟩, HZ.out.2⟩

set_option maxRecDepth 100000 in
set_option maxHeartbeats 2000000 in
theorem rrpost_any (A : Option Addr) (c : Nat) (g : List (List Int)) (v : Int) (w : World) (hg : RdL w A c g) (P : List Nat) (hP : P.length ≤ 65536)
    (hc : ∀ W : World, RdL W A c g → Calls Try.prog 21 #[.agg #[.slice A g.length c], .int .i64 v] W fun en w' => (∃ ov, en = .returned ov ∧ Own w' W.heap.size 3 .i64 ov (ints P)) ∧ Below W.heap.size W w') :
    Calls Try.prog 23 #[.agg #[.slice A g.length c], .int .i64 v] w fun en w' => (∃ ov, en = .returned ov ∧ Own w' w.heap.size 3 .i64 ov (ints P.reverse)) ∧ Below w.heap.size w w' := by
  have HA : Hid (Below w.heap.size w (w.alloc (.cells #[.slice A g.length c] 24))) := hide ((Below.refl _ _).alloc (Nat.le_refl _) _)
  have HC := hide (hc _ (hg.below' HA.out))
  have hx : (w.alloc (.cells #[.slice A g.length c] 24)).cell? ⟨w.heap.size, 0, none⟩ = some (.slice A g.length c) := by simp [go_sem]
  clear hg hc
  go_enter Try.func23, Try.ntmps23
  go_wp2_with fail
  refine HC.out.mono ?_
  rintro en w3 ⟨⟨ov, rfl, ho⟩, hb⟩
  have HB3 := hide (HA.out.trans (hb.mono HA.out.size))
  have HO := hide ho.rd
  obtain ⟨Ao, co, rfl, hco, hmo, -⟩ := ho.rd
  have hco9 : co ≤ 9223372036854775807 := by unfold maxLen at hmo; omega
  rw [ints_len] at hco ⊢
  clear ho hb hx HA HC hmo
  go_wp2_with fail
  go_loopw [13, 5] (fun z v wr => ∃ i : Nat, i ≤ P.length ∧ z = .int .i64 i ∧ Own wr w3.heap.size 3 .i64 v (ints (P.reverse.take i)) ∧ Below w3.heap.size w3 wr) (fun z _ _ => P.length - (intOf z).toNat)
  case atStart => exact ⟨0, Nat.zero_le _, rfl, Own.nil, Below.refl _ _⟩
  case round =>
    obtain ⟨wq, rfl⟩ : ∃ x, x = wr := ⟨_, rfl⟩
    obtain ⟨v, rfl⟩ : ∃ x, x = u5 := ⟨_, rfl⟩
    obtain ⟨i, hi, rfl, hw, hb⟩ := hrel
    by_cases hlt : i < P.length
    · have hlt' : (i : Int) < P.length := by omega
      obtain ⟨y, hy⟩ : ∃ y, P[P.length - 1 - i]? = some y := ⟨_, List.getElem?_eq_getElem (by omega)⟩
      have hyr : P.reverse[i]? = some y := by rw [List.getElem?_reverse hlt]; exact hy
      obtain ⟨b2, off2, rfl, hbl, cx⟩ := rd_at (k := P.length - 1 - i) (x := (y : Int)) (HO.out.below' hb) (by rw [ints_get, hy]; rfl)
      have hw1 : IntKind.i64.wrap ((P.length : Int) - 1) = (P.length : Int) - 1 := IntWalk.i64_in _ (by omega)
      have hw2 : IntKind.i64.wrap ((P.length : Int) - 1 - (i : Int)) = (P.length : Int) - 1 - (i : Int) := IntWalk.i64_in _ (by omega)
      have hk1 : 0 ≤ (P.length : Int) - 1 - (i : Int) := by omega
      have hk2 : (P.length : Int) - 1 - (i : Int) < P.length := by omega
      have ht1 : ((P.length : Int) - 1 - (i : Int)).toNat = P.length - 1 - i := by omega
      have HS := hide (show ints (P.reverse.take (i + 1)) = ints (P.reverse.take i) ++ [(y : Int)] by rw [List.take_add_one, hyr]; exact ints_snoc _ _)
      have HW := hide (And.intro hw hb)
      have hsz := hb.size
      have hln : (P.reverse.take i).length ≤ 65536 := by rw [List.length_take, List.length_reverse]; omega
      have HLN := hide hln
      clear hw hb hy hyr hln
      go_wp2_with (first | (refine wpList_append_rd _ rfl _ _ 36 rfl w3.heap.size 3 .i64 8 intE _ (ints (P.reverse.take i)) rfl (HW.out.1.alloc _) _ [(y : Int)] rfl (rd_one wq 3 (y : Int)) ?b1 ?b2 ?b3 ?_))
      case b1 => rw [ints_len, List.length_singleton]; have := HLN.out; omega
      case b2 => unfold maxLen; rw [ints_len, List.length_singleton]; have := HLN.out; omega
      case b3 => rw [World.size_alloc]; omega
      intro v' w5 ho5 hg5 hb5 hblk
      have HF := hide (And.intro ho5 (HW.out.2.trans (((Below.refl wq.heap.size wq).alloc (Nat.le_refl _) (.cells #[.int .i64 (y : Int)] 3)).mono hsz |>.trans hb5)))
      clear ho5 hg5 hb5 hblk HW
      go_wp2_with fail
      go_roundw
      case rel => exact ⟨i + 1, by omega, by go_num, by rw [HS.out]; exact HF.out.1, HF.out.2⟩
      case measure => simp [intOf]; omega
    · obtain rfl : i = P.length := by omega
      rw [List.take_of_length_le (by simp)] at hw
      have HZ := hide (And.intro (hw.low HB3.out.size) (HB3.out.trans (hb.mono HB3.out.size)))
      clear hw hb
      go_wp2_with fail
      go_ret
      exact ⟨⟨v, rfl, HZ.out.1⟩, HZ.out.2⟩
end Go.Proofs.Ytaehfohljblmoaa

/-
  Layer 6 (digraph): Preds.
-/
import Derived.Test.YtmopnceglnoncaaCompact
namespace Go.Proofs.Ytmopnceglnoncaa
open Go.RowKit

def predsTo (g : List (List Int)) (a : Nat) : List (List Int) := (List.range g.length).map fun b => if b < a then dd (revTo g g.length b) else revTo g g.length b
/-- The predecessors of each node, each once. -/
def preds (g : List (List Int)) : List (List Int) := (List.range g.length).map fun b => dd (revTo g g.length b)
theorem predsTo_zero (g : List (List Int)) : predsTo g 0 = rev g := by unfold predsTo rev; exact List.map_congr_left fun b _ => by simp
theorem predsTo_end (g : List (List Int)) : predsTo g g.length = preds g := by
  unfold predsTo preds
  exact List.map_congr_left fun b hb => by rw [if_pos (List.mem_range.1 hb)]
theorem predsTo_len (g : List (List Int)) (a : Nat) : (predsTo g a).length = g.length := by simp [predsTo]
theorem predsTo_get (g : List (List Int)) (a : Nat) {b : Nat} (hb : b < g.length) : (predsTo g a)[b]? = some (if b < a then dd (revTo g g.length b) else revTo g g.length b) := by simp [predsTo, hb]
theorem predsTo_step (g : List (List Int)) (a : Nat) (_ha : a < g.length) : (predsTo g a).set a (dd (revTo g g.length a)) = predsTo g (a + 1) := by
  apply List.ext_getElem?
  intro i
  by_cases hi : i < g.length
  · rw [predsTo_get g (a + 1) hi]
    by_cases e : a = i
    · subst e
      rw [List.getElem?_set_self (by rw [predsTo_len]; exact hi), if_pos (by omega)]
    · rw [List.getElem?_set_ne e, predsTo_get g a hi]
      by_cases h : i < a
      · rw [if_pos h, if_pos (by omega)]
      · rw [if_neg h, if_neg (by omega)]
  · rw [List.getElem?_eq_none (by rw [List.length_set, predsTo_len]; omega), List.getElem?_eq_none (by rw [predsTo_len]; omega)]

set_option maxRecDepth 100000 in
set_option maxHeartbeats 2000000 in
theorem preds_bad (A : Option Addr) (c : Nat) (g : List (List Int)) (w : World) (hg : RdL w A c g) (hbad : codeG g ≠ 0) :
    Calls Try.prog 34 #[.agg #[.slice A g.length c]] w fun en w' => en = .returned (.slice none 0 0) ∧ Below w.heap.size w w' := by
  have HA : Hid (Below w.heap.size w (w.alloc (.cells #[.slice A g.length c] 24))) := hide ((Below.refl _ _).alloc (Nat.le_refl _) _)
  have HG : Hid (RdL (w.alloc (.cells #[.slice A g.length c] 24)) A c g) := hide (hg.below' HA.out)
  have HK := hide hbad
  have hfld := run_field
  clear hg hbad
  go_enter Try.func34, Try.ntmps34
  go_wp2_with fail
  refine (reverse_bad A c g _ HG.out HK.out).mono ?_
  rintro en w2 ⟨rfl, hb⟩
  have HB : Hid (Below w.heap.size w w2) := hide (HA.out.trans (hb.mono HA.out.size))
  clear hb HA HG
  go_wp2_with fail
  go_loopw [11] (fun z wr => z = .int .i64 0 ∧ wr = w2) (fun _ _ => 0)
  case atStart => exact ⟨rfl, rfl⟩
  case round =>
    obtain ⟨rfl, rfl⟩ := hrel
    go_wp2_with fail
    go_ret
    exact ⟨rfl, HB.out⟩

set_option maxRecDepth 100000 in
set_option maxHeartbeats 2000000 in
theorem preds_any (A : Option Addr) (c : Nat) (g : List (List Int)) (w : World) (hg : RdL w A c g) (hok : codeG g = 0) (hE : edges g ≤ 1000000) :
    Calls Try.prog 34 #[.agg #[.slice A g.length c]] w fun en w' => ∃ D, en = .returned (.slice (some ⟨D, 0, none⟩) g.length g.length) ∧ (∃ R, OwnL w' w.heap.size D R (preds g)) ∧ Below w.heap.size w w' := by
  have HA : Hid (Below w.heap.size w (w.alloc (.cells #[.slice A g.length c] 24))) := hide ((Below.refl _ _).alloc (Nat.le_refl _) _)
  have HG : Hid (RdL (w.alloc (.cells #[.slice A g.length c] 24)) A c g) := hide (hg.below' HA.out)
  have HK := hide hok
  have hN := (code_ok hok).2
  have HE := hide hE
  have hfld := run_field
  clear hg hok hE
  go_enter Try.func34, Try.ntmps34
  go_wp2_with fail
  refine (reverse_any A c g _ HG.out HK.out HE.out).mono ?_
  rintro en w2 ⟨D, rfl, ⟨R0, hL⟩, hb⟩
  have hs : w.heap.size ≤ (w.alloc (.cells #[.slice A g.length c] 24)).heap.size := HA.out.size
  have HL : Hid (OwnL w2 w.heap.size D R0 (predsTo g 0)) := hide (by rw [predsTo_zero]; exact hL.low hs)
  have HB : Hid (Below w.heap.size w w2) := hide (HA.out.trans (hb.mono HA.out.size))
  have hR0 : R0.length = g.length := by rw [hL.len, rev_len]
  have HR0 := hide hR0
  clear hb hL hs HA HG hR0
  go_wp2_with fail
  go_loopw [11] (fun z wr => ∃ (a : Nat) (R : List Value), a ≤ g.length ∧ z = .int .i64 a ∧ Hid (R.length = g.length) ∧ OwnL wr w.heap.size D R (predsTo g a) ∧ Below w.heap.size w wr) (fun z _ => g.length - (intOf z).toNat)
  case atStart => exact ⟨0, R0, Nat.zero_le _, rfl, HR0, HL.out, HB.out⟩
  case round =>
    clear HL HB HR0
    obtain ⟨wq, rfl⟩ : ∃ x, x = wr := ⟨_, rfl⟩
    obtain ⟨a, R, ha, rfl, hR, hL, hb⟩ := hrel
    by_cases hlt : a < g.length
    · have hlt' : (a : Int) < g.length := by omega
      obtain ⟨v, hv⟩ : ∃ v, R[a]? = some v := ⟨_, List.getElem?_eq_getElem (by rw [hR.out]; exact hlt)⟩
      have hget : (predsTo g a)[a]? = some (revTo g g.length a) := by rw [predsTo_get g a hlt, if_neg (by omega)]
      have hown := hL.row a v _ hv hget
      have hcv : wq.cell? ⟨D, a, none⟩ = some v := hL.own.cellAt hv
      have HO := hide hown
      have HLL := hide (And.intro hL (And.intro hv (And.intro hget hb)))
      obtain ⟨Av, cv, rfl, -, -, -⟩ := hown.rd
      clear hL hb hown hv hget
      go_wp2_with fail
      refine (compact_own wq _ _ _ HO.out).mono ?_
      rintro en w5 ⟨u, rfl, ho, hf, hbk⟩
      have HP := hide (HLL.out.1.push HLL.out.2.1 HLL.out.2.2.1 hf ho (.inl hbk))
      have hDn : D ∉ (Value.slice Av (revTo g g.length a).length cv).ownBlock.toList := fun h => HLL.out.1.apart a _ HLL.out.2.1 (by simpa using h)
      have hcv5 : w5.cell? ⟨D, a, none⟩ = some (.slice Av (revTo g g.length a).length cv) := (hf.cell (p := ⟨D, a, none⟩) HLL.out.1.lt.2 hDn).trans hcv
      have hfr5 : w5.frozen? ⟨D, a, none⟩ = false := (HLL.out.1.own.frm hf (fun x hx => by
        have e : x = D := by simpa [Value.ownBlock] using hx.symm
        rw [e]; exact hDn)).freeAt a
      have HB5 : Hid (Below w.heap.size w w5) := hide (HLL.out.2.2.2.trans (hf.toBelow (fun x hx => (HO.out.size x (by simpa using hx)).1) HLL.out.2.2.2.size))
      obtain ⟨Au, cu, rfl, -, -, -⟩ := ho.rd
      have hDl := HLL.out.1.lt
      clear ho hf hbk hcv hDn
      go_wp2_with fail
      go_roundw
      case rel => exact ⟨a + 1, R.set a (.slice Au (dd (revTo g g.length a)).length cu), by omega, by go_num, hide (by rw [List.length_set]; exact hR.out), by
        have := HP.out
        rw [predsTo_step g a hlt] at this
        exact this, HB5.out.setCell (p := ⟨D, a, none⟩) hDl.1 _⟩
      case measure => simp [intOf]; omega
    · obtain rfl : a = g.length := by omega
      have HZ := hide (And.intro hL hb)
      clear hL hb
      go_wp2_with fail
      go_ret
      have := HZ.out.1
      rw [predsTo_end] at this
      exact ⟨D, rfl, ⟨R, this⟩, HZ.out.2⟩
end Go.Proofs.Ytmopnceglnoncaa

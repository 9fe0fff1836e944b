/-
  Layer 6 (digraph), the reference: SameLists, SameBools.
-/
import Derived.Deep.RegionHeld3
import Derived.Test.YtaehfohljblmoaaTCheck
import Derived.Test.YtaehfohljblmoaaSameL
import Derived.Test.YtaehfohljblmoaaReachable
namespace Go.Proofs.Ytaehfohljblmoaa
open Go.RowKit

set_option maxRecDepth 100000 in
set_option maxHeartbeats 2000000 in
theorem samelists_any (A B : Option Addr) (c d : Nat) (g h : List (List Int)) (w : World) (hg : RdL w A c g) (hh : RdL w B d h) (e : g = h) :
    Calls Try.prog 11 #[.slice A g.length c, .slice B h.length d] w fun en w' => en = .returned (.bool true) ∧ Below w.heap.size w w' := by
  subst e
  have hc := hg.cap
  have hd := hh.cap
  have hc9 : c ≤ 9223372036854775807 := by unfold maxLen at hc; omega
  have hd9 : d ≤ 9223372036854775807 := by unfold maxLen at hd; omega
  have HG := hide hg
  have HH := hide hh
  have hgl : g.length ≤ 9223372036854775807 := by omega
  clear hg hh hc hd
  go_enter Try.func11, Try.ntmps11
  go_wp2_with fail
  go_loopw [13] (fun z wr => ∃ i : Nat, i ≤ g.length ∧ z = .int .i64 i ∧ Below w.heap.size w wr) (fun z _ => g.length - (intOf z).toNat)
  case atStart => exact ⟨0, Nat.zero_le _, rfl, Below.refl _ _⟩
  case round =>
    obtain ⟨wq, rfl⟩ : ∃ x, x = wr := ⟨_, rfl⟩
    obtain ⟨i, hi, rfl, hb⟩ := hrel
    have HB := hide hb
    by_cases hlt : i < g.length
    · have hlt' : (i : Int) < g.length := by omega
      obtain ⟨l, hl⟩ : ∃ l, g[i]? = some l := ⟨_, List.getElem?_eq_getElem hlt⟩
      obtain ⟨b1, o1, B1, d1, rfl, hb1, c1, r1⟩ := (HG.out.below' hb).at hl
      obtain ⟨b2, o2, B2, d2, rfl, hb2, c2, r2⟩ := (HH.out.below' hb).at hl
      have HR1 := hide r1
      have HR2 := hide r2
      clear hb hl r1 r2
      go_upto_region 6 with fail
      replace c1 : wq.drew.cell? ⟨b1, o1 + i, none⟩ = some (.slice B1 l.length d1) := c1
      replace c2 : wq.drew.cell? ⟨b2, o2 + i, none⟩ = some (.slice B2 l.length d2) := c2
      have HR1 : Hid (Rd wq.drew .i64 (.slice B1 l.length d1) l) := HR1
      have HR2 : Hid (Rd wq.drew .i64 (.slice B2 l.length d2) l) := HR2
      go_region_held3 (fun w' => w'.cell? ⟨b1, o1 + i, none⟩ = some (.slice B1 l.length d1) ∧ w'.cell? ⟨b2, o2 + i, none⟩ = some (.slice B2 l.length d2)) (first | exact ⟨c1, c2⟩ | exact ⟨f1, f2⟩) (first | (go_at_call 19; refine (same_any _ _ l l _ HR1.out HR2.out).mono ?_; rintro en w4 ⟨rfl, hb4⟩; have f1 := (hb4.cell (p := ⟨b1, o1 + i, none⟩) (lt_of_cell c1)).trans c1; have f2 := (hb4.cell (p := ⟨b2, o2 + i, none⟩) (lt_of_cell c2)).trans c2))
      all_goals
        have HB4 := hide (HB.out.trans (Below.trans (Below.refl wq.heap.size wq).drew hb4 |>.mono HB.out.size))
        clear hb4 f1 f2 c1 c2 HR1 HR2 HB
        go_wp2_with fail
        go_roundw
        case rel => exact ⟨i + 1, by omega, by go_num, HB4.out⟩
        case measure => simp [intOf]; omega
    · obtain rfl : i = g.length := by omega
      clear hb
      go_wp2_with fail
      go_ret
      exact ⟨rfl, HB.out⟩

set_option maxRecDepth 100000 in
set_option maxHeartbeats 2000000 in
theorem samebools_any (A B : Option Addr) (n c d : Nat) (f : Nat → Bool) (w : World) (hg : RdV w (.slice A n c) (bl n f)) (hh : RdV w (.slice B n d) (bl n f)) :
    Calls Try.prog 16 #[.slice A n c, .slice B n d] w fun en w' => en = .returned (.bool true) ∧ Below w.heap.size w w' := by
  have HG := hide hg
  have HH := hide hh
  obtain ⟨_, _, e1, h1, h2, -⟩ := hg
  injection e1 with e1 e2 e3
  subst e1 e3
  obtain ⟨_, _, e4, h3, h4, -⟩ := hh
  injection e4 with e4 e5 e6
  subst e4 e6
  rw [bl_len] at h1 h3
  have hc9 : c ≤ 9223372036854775807 := by unfold maxLen at h2; omega
  have hd9 : d ≤ 9223372036854775807 := by unfold maxLen at h4; omega
  clear h2 h4 e2 e5
  go_enter Try.func16, Try.ntmps16
  go_wp2_with fail
  go_loopw [13] (fun z wr => ∃ i : Nat, i ≤ n ∧ z = .int .i64 i ∧ Below w.heap.size w wr) (fun z _ => n - (intOf z).toNat)
  case atStart => exact ⟨0, Nat.zero_le _, rfl, Below.refl _ _⟩
  case round =>
    obtain ⟨wq, rfl⟩ : ∃ x, x = wr := ⟨_, rfl⟩
    obtain ⟨i, hi, rfl, hb⟩ := hrel
    have HB := hide hb
    by_cases hlt : i < n
    · have hlt' : (i : Int) < n := by omega
      obtain ⟨b1, o1, e1, hb1, c1⟩ := (HG.out.below' hb).at i _ (bl_get f hlt)
      obtain ⟨b2, o2, e2, hb2, c2⟩ := (HH.out.below' hb).at i _ (bl_get f hlt)
      subst e1 e2
      obtain ⟨P, hP⟩ : ∃ z, f i = z := ⟨_, rfl⟩
      rw [hP] at c1 c2
      clear hb hP
      go_wp2_with fail
      go_quiet (fail)
      go_wp2_with fail
      go_roundw
      case rel => exact ⟨i + 1, by omega, by go_num, by repeat (first | exact HB.out | refine Below.drewN' ?_ _ | refine Below.drew ?_)⟩
      case measure => simp [intOf]; omega
    · obtain rfl : i = n := by omega
      clear hb
      go_wp2_with fail
      go_ret
      exact ⟨rfl, HB.out⟩
end Go.Proofs.Ytaehfohljblmoaa

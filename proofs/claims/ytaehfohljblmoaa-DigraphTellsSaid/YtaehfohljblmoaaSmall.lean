/-
  Layer 6 (digraph): which graphs the laws look at: Edges and small.
-/
import Derived.Test.YtaehfohljblmoaaRev
namespace Go.Proofs.Ytaehfohljblmoaa
open Go.RowKit

theorem rd_at {w : World} {A : Option Addr} {c : Nat} {l : List Int} {n : Nat} (h : Rd w .i64 (.slice A n c) l) {k : Nat} {x : Int} (hx : l[k]? = some x) : ∃ b off, A = some ⟨b, off, none⟩ ∧ b < w.heap.size ∧ w.cell? ⟨b, off + k, none⟩ = some (.int .i64 x) := by
  have := h.toV.at k (.int .i64 x) (by rw [List.getElem?_map, hx]; rfl)
  exact this
def edgesTo (g : List (List Int)) (i : Nat) : Nat := ((g.map List.length).take i).sum
theorem edgesTo_succ {g : List (List Int)} {i : Nat} {l : List Int} (h : g[i]? = some l) : edgesTo g (i + 1) = edgesTo g i + l.length := by
  unfold edgesTo
  rw [List.take_add_one, List.sum_append, List.getElem?_map, h]
  simp
theorem edgesTo_end (g : List (List Int)) : edgesTo g g.length = edges g := by
  unfold edgesTo edges
  rw [List.take_of_length_le (by simp)]
theorem edgesTo_big {g : List (List Int)} (hb : ∀ l ∈ g, l.length ≤ 17592186044416) : ∀ i, i ≤ g.length → edgesTo g i ≤ i * 17592186044416
  | 0, _ => by simp [edgesTo]
  | i + 1, hi => by
    have h1 := edgesTo_big hb i (by omega)
    obtain ⟨l, hl⟩ : ∃ l, g[i]? = some l := ⟨_, List.getElem?_eq_getElem (by omega)⟩
    have h2 := hb l (List.mem_of_getElem? hl)
    rw [edgesTo_succ hl]
    omega

set_option maxRecDepth 100000 in
set_option maxHeartbeats 1000000 in
theorem edges_any (A : Option Addr) (c : Nat) (g : List (List Int)) (w : World) (hg : RdL w A c g) (hn : g.length ≤ 60) (hb : ∀ l ∈ g, l.length ≤ 17592186044416) :
    Calls Try.prog 27 #[.agg #[.slice A g.length c]] w fun en w' => en = .returned (.int .i64 (edges g : Nat)) ∧ Below w.heap.size w w' := by
  have hc := hg.cap
  have hc9 : c ≤ 9223372036854775807 := by unfold maxLen at hc; omega
  have HG := hide hg
  have HBg := hide (edgesTo_big hb)
  have HA : Hid (Below w.heap.size w (w.alloc (.cells #[.slice A g.length c] 24))) := hide ((Below.refl _ _).alloc (Nat.le_refl _) _)
  have hx : (w.alloc (.cells #[.slice A g.length c] 24)).cell? ⟨w.heap.size, 0, none⟩ = some (.slice A g.length c) := by simp [go_sem]
  clear hg hc
  go_enter Try.func27, Try.ntmps27
  go_wp2_with fail
  go_loopw [9, 3] (fun z n wr => ∃ i : Nat, i ≤ g.length ∧ z = .int .i64 i ∧ n = .int .i64 (edgesTo g i : Nat) ∧ Below w.heap.size w wr) (fun z _ _ => g.length - (intOf z).toNat)
  case atStart => exact ⟨0, Nat.zero_le _, rfl, rfl, HA.out⟩
  case round =>
    clear hx HA
    obtain ⟨wq, rfl⟩ : ∃ x, x = wr := ⟨_, rfl⟩
    obtain ⟨i, hi, rfl, rfl, hb⟩ := hrel
    by_cases hlt : i < g.length
    · obtain ⟨l, hl⟩ : ∃ l, g[i]? = some l := ⟨_, List.getElem?_eq_getElem hlt⟩
      have hlt' : (i : Int) < g.length := by omega
      obtain ⟨b, off, B, d, rfl, hbl, hcell, hrow⟩ := (HG.out.below' hb).at hl
      have h1 := HBg.out (i + 1) hlt
      rw [edgesTo_succ hl] at h1
      have h2 : (edgesTo g i : Int) + (l.length : Int) ≤ 9223372036854775807 := by omega
      have h3 : (0 : Int) ≤ (edgesTo g i : Int) + (l.length : Int) := by omega
      have hw1 : IntKind.i64.wrap ((edgesTo g i : Int) + (l.length : Int)) = (edgesTo g i : Int) + (l.length : Int) := IntWalk.i64_in _ (by omega)
      have HB := hide hb
      have HL := hide hl
      clear hb hl h1 hrow
      go_wp2_with fail
      go_roundw
      case rel => exact ⟨i + 1, by omega, by go_num, by rw [edgesTo_succ HL.out]; rfl, HB.out⟩
      case measure => simp [intOf]; omega
    · obtain rfl : i = g.length := by omega
      have HB := hide hb
      clear hb
      rw [edgesTo_end]
      go_wp2_with fail
      go_ret
      exact ⟨rfl, HB.out⟩

set_option maxRecDepth 100000 in
set_option maxHeartbeats 1000000 in
theorem small_any (A : Option Addr) (c : Nat) (g : List (List Int)) (w : World) (hg : RdL w A c g) (hb : ∀ l ∈ g, l.length ≤ 17592186044416) :
    Calls Try.prog 9 #[.agg #[.slice A g.length c]] w fun en w' => en = .returned (.bool (decide (g.length ≤ 60 ∧ edges g ≤ 300))) ∧ Below w.heap.size w w' := by
  have HA : Hid (Below w.heap.size w (w.alloc (.cells #[.slice A g.length c] 24))) := hide ((Below.refl _ _).alloc (Nat.le_refl _) _)
  have HG : Hid (RdL (w.alloc (.cells #[.slice A g.length c] 24)) A c g) := hide (hg.below' HA.out)
  have hx : (w.alloc (.cells #[.slice A g.length c] 24)).cell? ⟨w.heap.size, 0, none⟩ = some (.slice A g.length c) := by simp [go_sem]
  clear hg
  by_cases hn : g.length ≤ 60
  · have hn' : (g.length : Int) ≤ 60 := by omega
    have HE := hide (edges_any A c g _ HG.out hn hb)
    have e : decide (g.length ≤ 60 ∧ edges g ≤ 300) = decide ((edges g : Int) ≤ 300) := by
      refine decide_eq_decide.2 ⟨fun h => by omega, fun h => ⟨hn, by omega⟩⟩
    rw [e]
    clear e
    go_enter Try.func9, Try.ntmps9
    go_wp2_with fail
    refine HE.out.mono ?_
    rintro en w2 ⟨rfl, hb2⟩
    have HB : Hid (Below w.heap.size w w2) := hide (HA.out.trans (hb2.mono HA.out.size))
    clear hb2 HE hx
    go_wp2_with fail
    go_ret
    exact ⟨by simp, HB.out⟩
  · have hn' : ¬ ((g.length : Int) ≤ 60) := by omega
    have e : decide (g.length ≤ 60 ∧ edges g ≤ 300) = false := decide_eq_false (fun h => hn h.1)
    rw [e]
    clear e
    go_enter Try.func9, Try.ntmps9
    go_wp2_with fail
    go_ret
    exact ⟨by simp, HA.out⟩
end Go.Proofs.Ytaehfohljblmoaa

/-
  Layer 6 (digraph), the reference: Reachable.
-/
import Derived.Test.YtmopnceglnoncaaSmall
import Derived.Test.YtmopnceglnoncaaPreds
import Derived.Test.YtmopnceglnoncaaReachMath
import Derived.Test.YtmopnceglnoncaaDBase
namespace Go.Proofs.Ytmopnceglnoncaa
open Go.RowKit

set_option maxRecDepth 100000 in
set_option maxHeartbeats 1000000 in
theorem rcheck_any (A : Option Addr) (c : Nat) (g : List (List Int)) (w : World) (hg : RdL w A c g) :
    Calls Try.prog 27 #[.agg #[.slice A g.length c]] w fun en w' => en = .returned (.int .i64 (codeG g)) ∧ Below w.heap.size w w' := by
  have hc := hg.cap
  have HG := hide hg
  have hc9 : c ≤ 9223372036854775807 := by unfold maxLen at hc; omega
  have HA : Hid (Below w.heap.size w (w.alloc (.cells #[.slice A g.length c] 24))) := hide ((Below.refl _ _).alloc (Nat.le_refl _) _)
  have hx : (w.alloc (.cells #[.slice A g.length c] 24)).cell? ⟨w.heap.size, 0, none⟩ = some (.slice A g.length c) := by simp [go_sem]
  by_cases h1 : (g.length : Int) > 65536
  · have e : codeG g = 11 := by unfold codeG; rw [if_pos (by omega)]
    rw [e]
    have h1' : 65536 < g.length := by omega
    clear hg e
    go_enter Try.func27, Try.ntmps27
    go_wp2_with fail
    go_ret
    exact ⟨rfl, HA.out⟩
  · have h1' : ¬ (65536 < g.length) := by omega
    clear hg
    go_enter Try.func27, Try.ntmps27
    go_wp2_with fail
    go_loopw [14] (fun z wr => ∃ i : Nat, i ≤ g.length ∧ z = .int .i64 i ∧ Hid (∀ j l, j < i → g[j]? = some l → okRow g.length l = true) ∧ Below w.heap.size w wr ∧ wr.cell? ⟨w.heap.size, 0, none⟩ = some (.slice A g.length c)) (fun z _ => g.length - (intOf z).toNat)
    case atStart => exact ⟨0, Nat.zero_le _, rfl, hide (fun j l hj => by omega), HA.out, hx⟩
    case round =>
      clear hx HA
      obtain ⟨wq, rfl⟩ : ∃ x, x = wr := ⟨_, rfl⟩
      obtain ⟨i, hi, rfl, hok, hb, hx⟩ := hrel
      by_cases hlt : i < g.length
      · obtain ⟨l, hl⟩ : ∃ l, g[i]? = some l := ⟨_, List.getElem?_eq_getElem hlt⟩
        have hlt' : (i : Int) < g.length := by omega
        obtain ⟨b, off, B, d, rfl, hbl, hcell, hrow⟩ := (HG.out.below' hb).at hl
        have HR := hide hrow
        obtain ⟨_, _, e3, hd, hm, hcl⟩ := hrow
        injection e3 with e3 e4 e5
        subst e3 e5
        have hd9 : d ≤ 9223372036854775807 := by unfold maxLen at hm; omega
        have HB := hide hb
        have HL := hide hl
        clear hb hl hcl hm
        go_wp2_with fail
        go_loopw [20] (fun z wr => ∃ j : Nat, j ≤ l.length ∧ z = .int .i64 j ∧ Hid (∀ k m, k < j → l[k]? = some m → 0 ≤ m ∧ m < g.length) ∧ Below w.heap.size w wr ∧ Below wq.heap.size wq wr ∧ wr.cell? ⟨w.heap.size, 0, none⟩ = some (.slice (some ⟨b, off, none⟩) g.length c)) (fun z _ => l.length - (intOf z).toNat)
        case atStart => exact ⟨0, Nat.zero_le _, rfl, hide (fun j l hj => by omega), HB.out, Below.refl _ _, hx⟩
        case round =>
          clear hx hcell HB
          obtain ⟨wp, rfl⟩ : ∃ x, x = wr := ⟨_, rfl⟩
          obtain ⟨j, hj, rfl, hok2, hb, hb2, hx⟩ := hrel
          by_cases hlt2 : j < l.length
          · obtain ⟨m, hm⟩ : ∃ m, l[j]? = some m := ⟨_, List.getElem?_eq_getElem hlt2⟩
            have hlt2' : (j : Int) < l.length := by omega
            obtain ⟨_, _, e6, _, _, hcl⟩ := HR.out.below' hb2
            injection e6 with e6 e7 e8
            subst e6 e8
            obtain ⟨b2, off2, rfl, hbl2, hcl⟩ := hcl (by omega)
            have hcell2 := hcl j m hm
            have HB := hide (And.intro hb hb2)
            have HM := hide hm
            clear hb hb2 hcl hm
            by_cases hm : 0 ≤ m ∧ m < g.length
            · have hm1 : ¬ (m < 0) := by omega
              have hm2 : ¬ (m ≥ (g.length : Int)) := by omega
              have hm3 : decide (m < 0) = false := decide_eq_false hm1
              have HMM := hide hm
              clear hm
              go_wp2_with fail
              go_roundw
              case rel =>
                exact ⟨j + 1, by omega, by go_num, hide (fun k m' hk hm' => by
                rcases Nat.lt_succ_iff_lt_or_eq.1 hk with h | rfl
                · exact hok2.out k m' h hm'
                · rw [HM.out] at hm'; injection hm' with e; exact e ▸ HMM.out), HB.out.1, HB.out.2, hx⟩
              case measure => simp [intOf]; omega
            · have HMM := hide hm
              have e : codeG g = 10 := by
                have : okG g = false := by
                  unfold okG
                  rw [List.all_eq_false]
                  refine ⟨l, List.mem_of_getElem? HL.out, fun h => HMM.out ?_⟩
                  unfold okRow at h
                  rw [List.all_eq_true] at h
                  exact of_decide_eq_true (h m (List.mem_of_getElem? HM.out))
                unfold codeG
                rw [if_neg h1', this]
                rfl
              have HE := hide e
              clear e
              by_cases hm1 : m < 0
              · clear hm
                go_wp2_with fail
                go_ret
                exact ⟨by rw [HE.out]; rfl, HB.out.1⟩
              · have hm2 : m ≥ (g.length : Int) := by omega
                clear hm
                go_wp2_with fail
                go_ret
                exact ⟨by rw [HE.out]; rfl, HB.out.1⟩
          · obtain rfl : j = l.length := by omega
            go_wp2_with fail
            go_roundw
            case rel =>
              exact ⟨i + 1, by omega, by go_num, hide (fun k l' hk hl' => by
              rcases Nat.lt_succ_iff_lt_or_eq.1 hk with h | rfl
              · exact hok.out k l' h hl'
              · rw [HL.out] at hl'
                injection hl' with e
                subst e
                unfold okRow
                rw [List.all_eq_true]
                intro m hm
                obtain ⟨k, hk, hmk⟩ := List.getElem_of_mem hm
                have := hok2.out k m (by omega) (by rw [List.getElem?_eq_getElem hk, hmk])
                exact decide_eq_true this), hb, hx⟩
            case measure => simp [intOf]; omega
      · obtain rfl : i = g.length := by omega
        go_wp2_with fail
        go_ret
        have e : codeG g = 0 := by
          have : okG g = true := by
            unfold okG
            rw [List.all_eq_true]
            intro l hl
            obtain ⟨k, hk, hlk⟩ := List.getElem_of_mem hl
            exact hok.out k l (by omega) (by rw [List.getElem?_eq_getElem hk, hlk])
          unfold codeG
          rw [if_neg h1', if_pos this]
        rw [e]
        exact ⟨rfl, hb⟩

theorem rok_any (A : Option Addr) (c : Nat) (g : List (List Int)) (n : Int) (w : World) (hg : RdL w A c g) :
    Calls Try.prog 46 #[.agg #[.slice A g.length c], .int .i64 n] w fun en w' => en = .returned (.bool (decide (codeG g = 0 ∧ 0 ≤ n ∧ n < g.length))) ∧ Below w.heap.size w w' := by
  have HA : Hid (Below w.heap.size w (w.alloc (.cells #[.slice A g.length c] 24))) := hide ((Below.refl _ _).alloc (Nat.le_refl _) _)
  have HG : Hid (RdL (w.alloc (.cells #[.slice A g.length c] 24)) A c g) := hide (hg.below' HA.out)
  have hx : (w.alloc (.cells #[.slice A g.length c] 24)).cell? ⟨w.heap.size, 0, none⟩ = some (.slice A g.length c) := by simp [go_sem]
  clear hg
  by_cases hk : codeG g = 0
  · have HC := rcheck_any A c g _ HG.out
    rw [hk] at HC
    have HCh := hide HC
    clear HC
    by_cases h0 : 0 ≤ n
    · have e : decide (codeG g = 0 ∧ 0 ≤ n ∧ n < g.length) = decide (n < g.length) := by simp [hk, h0]
      rw [e]
      have h0' : n ≥ 0 := h0
      clear e hk
      go_enter Try.func46, Try.ntmps46
      go_wp2_with fail
      refine HCh.out.mono ?_
      rintro en w2 ⟨rfl, hb⟩
      have hx2 : w2.cell? ⟨w.heap.size, 0, none⟩ = some (.slice A g.length c) := (hb.cell (p := ⟨w.heap.size, 0, none⟩) (lt_of_cell hx)).trans hx
      have HZ := hide (HA.out.trans (hb.mono HA.out.size))
      clear hb hx
      go_wp2_with fail
      go_ret
      exact ⟨by simp, HZ.out⟩
    · have e : decide (codeG g = 0 ∧ 0 ≤ n ∧ n < g.length) = false := decide_eq_false (fun h => h0 h.2.1)
      rw [e]
      have h0' : ¬ (n ≥ 0) := h0
      clear e hk
      go_enter Try.func46, Try.ntmps46
      go_wp2_with fail
      refine HCh.out.mono ?_
      rintro en w2 ⟨rfl, hb⟩
      have HZ := hide (HA.out.trans (hb.mono HA.out.size))
      clear hb hx
      go_wp2_with fail
      go_ret
      exact ⟨by simp, HZ.out⟩
  · have HCh := hide (rcheck_any A c g _ HG.out)
    have e : decide (codeG g = 0 ∧ 0 ≤ n ∧ n < g.length) = false := decide_eq_false (fun h => hk h.1)
    rw [e]
    have hk1 : (codeG g == 0) = false := by simpa using hk
    clear e hk
    go_enter Try.func46, Try.ntmps46
    go_wp2_with fail
    refine HCh.out.mono ?_
    rintro en w2 ⟨rfl, hb⟩
    have HZ := hide (HA.out.trans (hb.mono HA.out.size))
    clear hb hx
    go_wp2_with fail
    go_ret
    exact ⟨by simp, HZ.out⟩
end Go.Proofs.Ytmopnceglnoncaa
namespace Go.Proofs.Ytmopnceglnoncaa
open Go.RowKit

/-- Within one pass over all edges: f0 at its start, f now, ch: has something changed; the first a rows are done, and j of row a. -/
structure Pass (g : List (List Int)) (v : Nat) (f0 f : Nat → Bool) (ch : Bool) (a j : Nat) : Prop where
  less : ch = true → cnt f g.length < cnt f0 g.length
  le : cnt f g.length ≤ cnt f0 g.length
  shut : ch = false → ∀ y x, y < a → f y = true → x ∈ succs g y → f x = true
  row : ch = false → f a = true → ∀ x, x ∈ (succs g a).take j → f x = true
  way : ∀ x, f x = true → Way g v x
  start : f v = true
section
variable {g : List (List Int)} {v : Nat} {f0 f : Nat → Bool} {ch : Bool} {a j : Nat}
theorem Pass.begin (hw : ∀ x, f x = true → Way g v x) (hs : f v = true) : Pass g v f f false 0 0 :=
  ⟨fun h => (by cases h), Nat.le_refl _, fun _ y x hy => by omega, fun _ _ x hx => by simp at hx, hw, hs⟩
theorem Pass.skip (h : Pass g v f0 f ch a j) {b : Nat} (hb : (succs g a)[j]? = some b) (hf : f a = false ∨ f b = true) : Pass g v f0 f ch a (j + 1) :=
  ⟨h.less, h.le, h.shut, fun hc ha x hx => by
    rw [List.take_add_one, hb] at hx
    rcases List.mem_append.1 hx with hx | hx
    · exact h.row hc ha x hx
    · obtain rfl : x = b := by simpa using hx
      rcases hf with hf | hf
      · rw [hf] at ha; cases ha
      · exact hf, h.way, h.start⟩
theorem Pass.hit (h : Pass g v f0 f ch a j) {b : Nat} (hb : (succs g a)[j]? = some b) (hbl : b < g.length) (ha : f a = true) (hf : f b = false) : Pass g v f0 (fun i => f i || i == b) true a (j + 1) := by
  have h1 := cnt_set hf g.length hbl
  have h2 := h.le
  refine ⟨fun _ => by omega, by omega, fun h => (by cases h), fun h => (by cases h), fun x hx => ?_, by rw [h.start]; rfl⟩
  rw [Bool.or_eq_true] at hx
  rcases hx with hx | hx
  · exact h.way x hx
  · obtain rfl : x = b := by simpa using hx
    exact .step (h.way a ha) (List.mem_of_getElem? hb)
theorem Pass.rowEnd (h : Pass g v f0 f ch a j) (hj : (succs g a).length ≤ j) : Pass g v f0 f ch (a + 1) 0 :=
  ⟨h.less, h.le, fun hc y x hy hfy hx => by
    rcases Nat.lt_succ_iff_lt_or_eq.1 hy with hy | rfl
    · exact h.shut hc y x hy hfy hx
    · exact h.row hc hfy x (by rw [List.take_of_length_le hj]; exact hx), fun _ _ x hx => by simp at hx, h.way, h.start⟩
/-- Where a pass has changed nothing, who is marked is who can be reached. -/
theorem Pass.reached (h : Pass g v f0 f false g.length 0) (hok : okG g = true) (hv : v < g.length) (x : Nat) : f x = decide (x ∈ post g v) := by
  have key : ∀ x, Way g v x → f x = true := fun x hw => by
    induction hw with
    | here => exact h.start
    | @step u x hw hx ih => exact h.shut rfl u x (hw.lt hok hv) ih hx
  by_cases c : x ∈ post g v
  · rw [decide_eq_true c]; exact key x ((post_way hok hv x).1 c)
  · rw [decide_eq_false c]
    cases hf : f x with
    | false => rfl
    | true => exact absurd ((post_way hok hv x).2 (h.way x hf)) c
end
theorem succs_get {g : List (List Int)} {a j b : Nat} {l : List Int} (hl : g[a]? = some l) (hb : l[j]? = some (b : Int)) : (succs g a)[j]? = some b := by
  unfold succs
  rw [List.getD_eq_getElem?_getD, hl, Option.getD_some, List.getElem?_map, hb]
  simp
theorem succs_len {g : List (List Int)} {a : Nat} {l : List Int} (hl : g[a]? = some l) : (succs g a).length = l.length := by
  unfold succs
  rw [List.getD_eq_getElem?_getD, hl, Option.getD_some, List.length_map]
end Go.Proofs.Ytmopnceglnoncaa
namespace Go.Proofs.Ytmopnceglnoncaa
open Go.RowKit

set_option maxRecDepth 100000 in
set_option maxHeartbeats 2000000 in
theorem rreach_bad (A : Option Addr) (c : Nat) (g : List (List Int)) (v : Int) (w : World) (hg : RdL w A c g) (hbad : ¬ (codeG g = 0 ∧ 0 ≤ v ∧ v < g.length)) :
    Calls Try.prog 28 #[.agg #[.slice A g.length c], .int .i64 v] w fun en w' => en = .returned (.slice none 0 0) ∧ Below w.heap.size w w' := by
  have HA : Hid (Below w.heap.size w (w.alloc (.cells #[.slice A g.length c] 24))) := hide ((Below.refl _ _).alloc (Nat.le_refl _) _)
  have HK := rok_any A c g v _ (hg.below' HA.out)
  rw [decide_eq_false hbad] at HK
  have HKh := hide HK
  clear hg hbad HK
  go_enter Try.func28, Try.ntmps28
  go_wp2_with fail
  refine HKh.out.mono ?_
  rintro en w2 ⟨rfl, hb⟩
  have HZ := hide (HA.out.trans (hb.mono HA.out.size))
  clear hb HA
  go_wp2_with fail
  go_ret
  exact ⟨rfl, HZ.out⟩

set_option maxRecDepth 100000 in
set_option maxHeartbeats 4000000 in
theorem rreach_any (A : Option Addr) (c : Nat) (g : List (List Int)) (v : Nat) (w : World) (hg : RdL w A c g) (hok : codeG g = 0) (hv : v < g.length) :
    Calls Try.prog 28 #[.agg #[.slice A g.length c], .int .i64 (v : Nat)] w fun en w' => (∃ D, en = .returned (.slice (some ⟨D, 0, none⟩) g.length g.length) ∧ OwnV w' w.heap.size 4 (.slice (some ⟨D, 0, none⟩) g.length g.length) (bl g.length (fun i => decide (i ∈ post g v)))) ∧ Below w.heap.size w w' := by
  have HA : Hid (Below w.heap.size w (w.alloc (.cells #[.slice A g.length c] 24))) := hide ((Below.refl _ _).alloc (Nat.le_refl _) _)
  have HG : Hid (RdL (w.alloc (.cells #[.slice A g.length c] 24)) A c g) := hide (hg.below' HA.out)
  have hx : (w.alloc (.cells #[.slice A g.length c] 24)).cell? ⟨w.heap.size, 0, none⟩ = some (.slice A g.length c) := by simp [go_sem]
  have hN := (code_ok hok).2
  have HO := hide (code_ok hok).1
  have HK := rok_any A c g v _ HG.out
  rw [decide_eq_true (⟨hok, by omega, by omega⟩ : codeG g = 0 ∧ 0 ≤ (v : Int) ∧ (v : Int) < g.length)] at HK
  have HKh := hide HK
  have hv' : (v : Int) < g.length := by omega
  clear hg HK hok
  go_enter Try.func28, Try.ntmps28
  go_wp2_with fail
  refine HKh.out.mono ?_
  rintro en w3 ⟨rfl, hb⟩
  have HB3 := hide (HA.out.trans (hb.mono HA.out.size))
  have HG3 := hide (HG.out.below' hb)
  have hx3 : w3.cell? ⟨w.heap.size, 0, none⟩ = some (.slice A g.length c) := (hb.cell (p := ⟨w.heap.size, 0, none⟩) (lt_of_cell hx)).trans hx
  clear hb hx HA HG HKh
  have hmk := run_made w3 39 4 (.bool false) 1 Try.underlying39 infoBool rfl (by omega) g.length (by omega)
  obtain ⟨w4, hw4⟩ : ∃ x, w3.alloc (.cells (madeCells #[.bool false] g.length) 4) = x := ⟨_, rfl⟩
  have hb4 : Below w3.heap.size w3 w4 := by rw [← hw4]; exact (Below.refl _ _).alloc (Nat.le_refl _) _
  have hD : OwnV w4 w3.heap.size 4 (.slice (some ⟨w3.heap.size, 0, none⟩) g.length g.length) (bl g.length (fun _ => false)) := by
    rw [bl_false, ← hw4]
    exact own_madeV w3 4 (.bool false) g.length w3.heap.size (by unfold maxLen; omega) (Nat.le_refl _)
  have d1 := hD.cellAt (bl_get (fun _ => false) hv)
  have f1 := hD.freeAt v
  have hx4 : w4.cell? ⟨w.heap.size, 0, none⟩ = some (.slice A g.length c) := (hb4.cell (p := ⟨w.heap.size, 0, none⟩) (lt_of_cell hx3)).trans hx3
  have HD := hide (And.intro (hD.set v (.bool true)) (hb4.setCell (p := ⟨w3.heap.size, v, none⟩) (Nat.le_refl _) (.bool true)))
  have HX := hide hx3
  clear hD hb4
  go_wp2_with fail
  clear hw4 d1 f1 hx4 hmk
  go_loopg [6] (g.length + 2) (fun k ch wr => ∃ (f : Nat → Bool) (b : Bool), ch = .bool b ∧ Hid (b = true → cnt f g.length + 1 ≤ k) ∧ Hid (b = false → ∀ x, f x = decide (x ∈ post g v)) ∧ Hid (∀ x, f x = true → Way g v x) ∧ Hid (f v = true) ∧ Hid (OwnV wr w3.heap.size 4 (.slice (some ⟨w3.heap.size, 0, none⟩) g.length g.length) (bl g.length f)) ∧ Hid (Below w3.heap.size w3 wr))
  case atStart =>
    refine ⟨fun i => i == v, true, rfl, hide fun _ => by have := cnt_le (fun i => i == v) g.length; omega, hide fun h => (by cases h), hide fun x hx => ?_, hide (by simp), hide ?_, hide HD.out.2⟩
    · obtain rfl : x = v := by simpa using hx
      exact .here
    · have := HD.out.1
      rw [bl_set (g := fun i => i == v) (by simp) (fun j hj => by simpa using hj)] at this
      exact this
  case round =>
    clear HD hx3
    obtain ⟨wq, rfl⟩ : ∃ x, x = wr := ⟨_, rfl⟩
    obtain ⟨n0, rfl⟩ : ∃ x, x = gk := ⟨_, rfl⟩
    obtain ⟨f, b, rfl, hk, hcl, hway, hst, hO, hb⟩ := hrel
    cases b with
    | false =>
      have HZ := hide (And.intro hO.out hb.out)
      have e : bl g.length f = bl g.length (fun i => decide (i ∈ post g v)) := by unfold bl; exact List.map_congr_left fun i _ => by rw [hcl.out rfl i]
      rw [e] at HZ
      clear hk hcl hway hst hO hb e
      go_wp2_with fail
      go_ret
      exact ⟨⟨w3.heap.size, rfl, HZ.out.1.low HB3.out.size⟩, HB3.out.trans (HZ.out.2.mono HB3.out.size)⟩
    | true =>
      have hx4 : wq.cell? ⟨w.heap.size, 0, none⟩ = some (.slice A g.length c) := (hb.out.cell (p := ⟨w.heap.size, 0, none⟩) (lt_of_cell HX.out)).trans HX.out
      have HP : Hid (Pass g v f f false 0 0) := hide (Pass.begin hway.out hst.out)
      go_wp2_with fail
      go_loopw [26, 6] (fun z ch wr => ∃ (a : Nat) (f2 : Nat → Bool) (b2 : Bool), a ≤ g.length ∧ z = .int .i64 a ∧ ch = .bool b2 ∧ Hid (Pass g v f f2 b2 a 0) ∧ OwnV wr w3.heap.size 4 (.slice (some ⟨w3.heap.size, 0, none⟩) g.length g.length) (bl g.length f2) ∧ Below w3.heap.size w3 wr) (fun z _ _ => g.length - (intOf z).toNat)
      case atStart => exact ⟨0, f, false, Nat.zero_le _, rfl, rfl, HP, hO.out, hb.out⟩
      case round =>
        clear HP hx4 hO hb
        obtain ⟨wp, rfl⟩ : ∃ x, x = wr := ⟨_, rfl⟩
        obtain ⟨a, f2, b2, ha, rfl, rfl, hP, hO, hb⟩ := hrel
        by_cases hlt : a < g.length
        · have hlt' : (a : Int) < g.length := by omega
          obtain ⟨l, hl⟩ : ∃ l, g[a]? = some l := ⟨_, List.getElem?_eq_getElem hlt⟩
          obtain ⟨Ab, Ao, B, d, rfl, hAb, hcell0, hrow⟩ := HG3.out.at hl
          have hcell := (hb.cell (p := ⟨Ab, Ao + a, none⟩) hAb).trans hcell0
          have HL := hide hl
          have HR := hide hrow
          obtain ⟨_, _, e3, hd, hdm, -⟩ := hrow
          injection e3 with e3 e4 e5
          subst e3 e5
          have hd9 : d ≤ 9223372036854775807 := by unfold maxLen at hdm; omega
          have HOO := hide (And.intro hO hb)
          clear hl hdm e4 hO hb hcell0
          go_wp2_with fail
          clear hcell
          go_loopw [33, 6] (fun z ch wr => ∃ (j : Nat) (f3 : Nat → Bool) (b3 : Bool), j ≤ l.length ∧ z = .int .i64 j ∧ ch = .bool b3 ∧ Hid (Pass g v f f3 b3 a j) ∧ OwnV wr w3.heap.size 4 (.slice (some ⟨w3.heap.size, 0, none⟩) g.length g.length) (bl g.length f3) ∧ Below w3.heap.size w3 wr) (fun z _ _ => l.length - (intOf z).toNat)
          case atStart => exact ⟨0, f2, b2, Nat.zero_le _, rfl, rfl, hP, HOO.out.1, HOO.out.2⟩
          case round =>
            clear HOO
            obtain ⟨wk, rfl⟩ : ∃ x, x = wr := ⟨_, rfl⟩
            obtain ⟨j, f3, b3, hj, rfl, rfl, hP, hO, hb⟩ := hrel
            by_cases hjt : j < l.length
            · have hjt' : (j : Int) < l.length := by omega
              obtain ⟨m, hm⟩ : ∃ x, l[j]? = some x := ⟨_, List.getElem?_eq_getElem hjt⟩
              obtain ⟨y, rfl, hyn⟩ := ok_node HO.out HL.out hm
              obtain ⟨b2, off2, rfl, hbl, cx⟩ := rd_at (HR.out.below' hb) hm
              have hyn' : (y : Int) < g.length := by omega
              have HSG := hide (succs_get HL.out hm)
              have da := hO.cellAt (bl_get f3 hlt)
              have dy := hO.cellAt (bl_get f3 hyn)
              have fy := hO.freeAt y
              have HO3 := hide (And.intro hO hb)
              clear hm hO hb
              cases hfa : f3 a with
              | false =>
                rw [hfa] at da
                have HP2 := hide (hP.out.skip HSG.out (.inl hfa))
                clear hfa dy fy
                go_wp2_with fail
                go_roundw
                case rel => exact ⟨j + 1, f3, b3, by omega, by go_num, rfl, HP2, HO3.out.1, HO3.out.2⟩
                case measure => simp [intOf]; omega
              | true =>
                cases hfy : f3 y with
                | true =>
                  rw [hfa] at da
                  rw [hfy] at dy
                  have HP2 := hide (hP.out.skip HSG.out (.inr hfy))
                  clear hfa hfy fy
                  go_wp2_with fail
                  go_roundw
                  case rel => exact ⟨j + 1, f3, b3, by omega, by go_num, rfl, HP2, HO3.out.1, HO3.out.2⟩
                  case measure => simp [intOf]; omega
                | false =>
                  rw [hfa] at da
                  rw [hfy] at dy
                  have HP2 := hide (hP.out.hit HSG.out hyn hfa hfy)
                  clear hfa hfy
                  go_wp2_with fail
                  go_roundw
                  case rel => exact ⟨j + 1, fun i => f3 i || i == y, true, by omega, by go_num, rfl, HP2, by
                    have := HO3.out.1.set y (.bool true)
                    rw [bl_set (g := fun i => f3 i || i == y) (by simp) (fun j hj => by simp [hj])] at this
                    exact this, HO3.out.2.setCell (p := ⟨w3.heap.size, y, none⟩) (Nat.le_refl _) _⟩
                  case measure => simp [intOf]; omega
            · obtain rfl : j = l.length := by omega
              have HP2 := hide (hP.out.rowEnd (by rw [succs_len HL.out]; exact Nat.le_refl _))
              go_wp2_with fail
              go_roundw
              case rel => exact ⟨a + 1, f3, b3, by omega, by go_num, rfl, HP2, hO, hb⟩
              case measure => simp [intOf]; omega
        · obtain rfl : a = g.length := by omega
          have HZ := hide (And.intro hO hb)
          clear hO hb
          go_wp2_with fail
          go_roundg (if b2 = true then cnt f2 g.length + 1 else 0)
          case measure =>
            have := hk.out (by trivial)
            cases b2 with
            | false => simp; omega
            | true => have := hP.out.less rfl; simp; omega
          case rel => exact ⟨f2, b2, rfl, hide fun h => by rw [h]; simp, hide fun h x => by subst h; exact hP.out.reached HO.out hv x, hide hP.out.way, hide hP.out.start, hide HZ.out.1, hide HZ.out.2⟩
end Go.Proofs.Ytmopnceglnoncaa

/-
  Layer 8 (domtree): the law DomtreePost.
-/
import Derived.Test.YtmopnceglnoncaaRefP
import Derived.Test.YtmopnceglnoncaaLawBuild
namespace Go.Proofs.Ytmopnceglnoncaa
open Go.RowKit

theorem sum_le : ∀ (l : List Nat) (k : Nat), (∀ x ∈ l, x ≤ k) → l.sum ≤ l.length * k
  | [], _, _ => by simp
  | x :: l, k, h => by
    have h1 := h x (by simp)
    have h2 := sum_le l k (fun y hy => h y (List.mem_cons_of_mem _ hy))
    rw [List.sum_cons, List.length_cons, Nat.add_mul, Nat.one_mul]
    omega
theorem pg_edges {g : List (List Int)} (hn : g.length ≤ 60) (hE : edges g ≤ 400) : edges (pg g) ≤ 1000000 := by
  unfold edges
  have h := sum_le ((pg g).map List.length) 400 (fun x hx => by
    obtain ⟨l, hl, rfl⟩ := List.mem_map.1 hx
    unfold pg at hl
    rcases List.mem_append.1 hl with hl | hl
    · unfold rev at hl
      obtain ⟨b, -, rfl⟩ := List.mem_map.1 hl
      have h2 := revTo_edges g b g.length (Nat.le_refl _)
      have h3 := sum_take (g.map List.length) g.length
      unfold edges at hE
      omega
    · rw [List.mem_singleton.1 hl, ints_len]
      have := exTo_len g g.length
      omega)
  rw [List.length_map] at h
  have hl : (pg g).length = g.length + 1 := by unfold pg; rw [List.length_append, rev_len, List.length_singleton]
  rw [hl] at h
  have : (g.length + 1) * 400 ≤ 61 * 400 := Nat.mul_le_mul_right _ (by omega)
  omega
theorem pg_code {g : List (List Int)} (_hok : codeG g = 0) (hn : g.length ≤ 60) : codeG (pg g) = 0 := by
  have hl : (pg g).length = g.length + 1 := by unfold pg; rw [List.length_append, rev_len, List.length_singleton]
  unfold codeG
  rw [hl, if_neg (by omega), if_pos]
  unfold okG
  rw [List.all_eq_true]
  intro l hl2
  unfold okRow
  rw [List.all_eq_true, hl]
  intro m hm
  unfold pg at hl2
  rcases List.mem_append.1 hl2 with h | h
  · have := rev_ok g
    unfold okG at this
    rw [List.all_eq_true] at this
    have := this l h
    unfold okRow at this
    rw [List.all_eq_true, rev_len] at this
    have := of_decide_eq_true (this m hm)
    exact decide_eq_true (by omega)
  · rw [List.mem_singleton.1 h] at hm
    unfold ints exTo at hm
    obtain ⟨x, hx, rfl⟩ := List.mem_map.1 hm
    have := List.mem_range.1 (List.mem_filter.1 hx).1
    exact decide_eq_true (by omega)

set_option maxRecDepth 100000 in
set_option maxHeartbeats 8000000 in
theorem post_bad (A : Option Addr) (c : Nat) (g : List (List Int)) (w : World) (hg : RdL w A c g) (hbad : codeG g ≠ 0) :
    Calls Try.prog 14 #[.agg #[.slice A g.length c]] w fun en w' => en = .returned (.slice none 0 0) ∧ Below w.heap.size w w' := by
  obtain ⟨w1, hw1⟩ : ∃ x, w.alloc (.cells #[.slice A g.length c] 24) = x := ⟨_, rfl⟩
  have hx1 : w1.cell? ⟨w.heap.size, 0, none⟩ = some (.slice A g.length c) := by rw [← hw1]; simp [go_sem]
  have hb1 : Below w.heap.size w w1 := by rw [← hw1]; exact (Below.refl _ _).alloc (Nat.le_refl _) _
  have HB1 := hide hb1
  have HK := hide (check_any A c g w1 (hg.below' hb1))
  clear hg hb1
  go_enter Try.func14, Try.ntmps14
  go_wp2_with fail
  refine HK.out.mono ?_
  rintro en w2 ⟨rfl, hb2⟩
  have HB2 : Hid (Below w.heap.size w w2) := hide (HB1.out.trans (hb2.mono HB1.out.size))
  have hx2 := (hb2.cell (p := ⟨w.heap.size, 0, none⟩) (lt_of_cell hx1)).trans hx1
  clear hw1 hx1 hb2 HK HB1
  have t1 : (codeG g != 0) = true := by simpa using hbad
  obtain ⟨k, hkk⟩ : ∃ k, codeG g = k := ⟨_, rfl⟩
  rw [hkk] at t1 ⊢
  clear hkk hbad
  go_wp2_with fail
  go_ret
  exact ⟨rfl, HB2.out⟩

set_option maxRecDepth 100000 in
set_option maxHeartbeats 8000000 in
theorem rpost_bad (A : Option Addr) (c : Nat) (g : List (List Int)) (w : World) (hg : RdL w A c g) (hbad : codeG g ≠ 0) :
    Calls Try.prog 15 #[.agg #[.slice A g.length c]] w fun en w' => en = .returned (.slice none 0 0) ∧ Below w.heap.size w w' := by
  obtain ⟨w1, hw1⟩ : ∃ x, w.alloc (.cells #[.slice A g.length c] 24) = x := ⟨_, rfl⟩
  have hx1 : w1.cell? ⟨w.heap.size, 0, none⟩ = some (.slice A g.length c) := by rw [← hw1]; simp [go_sem]
  have hb1 : Below w.heap.size w w1 := by rw [← hw1]; exact (Below.refl _ _).alloc (Nat.le_refl _) _
  have HB1 := hide hb1
  have HK := hide (rcheck_any A c g w1 (hg.below' hb1))
  clear hg hb1
  go_enter Try.func15, Try.ntmps15
  go_wp2_with fail
  refine HK.out.mono ?_
  rintro en w2 ⟨rfl, hb2⟩
  have HB2 : Hid (Below w.heap.size w w2) := hide (HB1.out.trans (hb2.mono HB1.out.size))
  have hx2 := (hb2.cell (p := ⟨w.heap.size, 0, none⟩) (lt_of_cell hx1)).trans hx1
  clear hw1 hx1 hb2 HK HB1
  have t1 : (codeG g != 0) = true := by simpa using hbad
  obtain ⟨k, hkk⟩ : ∃ k, codeG g = k := ⟨_, rfl⟩
  rw [hkk] at t1 ⊢
  clear hkk hbad
  go_wp2_with fail
  go_ret
  exact ⟨rfl, HB2.out⟩

set_option maxRecDepth 100000 in
set_option maxHeartbeats 8000000 in
theorem lawPost (A : Option Addr) (c : Nat) (g : List (List Int)) (w : World) (hg : RdL w A c g) :
    Calls Try.prog 4 #[.agg #[.slice A g.length c]] w (LawDone w) := by
  have hc := hg.cap
  have hc9 : c ≤ 9223372036854775807 := by unfold maxLen at hc; omega
  obtain ⟨w1, hw1⟩ : ∃ x, w.alloc (.cells #[.slice A g.length c] 24) = x := ⟨_, rfl⟩
  have hb1 : Below w.heap.size w w1 := by rw [← hw1]; exact (Below.refl _ _).alloc (Nat.le_refl _) _
  have HB1 := hide hb1
  have HG1 := hide (hg.below' hb1)
  have hx1 : w1.cell? ⟨w.heap.size, 0, none⟩ = some (.slice A g.length c) := by rw [← hw1]; simp [go_sem]
  have HK := hide (large_any A c g w1 HG1.out)
  clear hg hb1 hc
  go_enter Try.func4, Try.ntmps4
  go_wp2_with fail
  refine HK.out.mono ?_
  rintro en w2 ⟨rfl, hb2⟩
  have HB2 : Hid (Below w.heap.size w w2) := hide (HB1.out.trans (hb2.mono HB1.out.size))
  have HG2 := hide (HG1.out.below' hb2)
  have hx2 := (hb2.cell (p := ⟨w.heap.size, 0, none⟩) (lt_of_cell hx1)).trans hx1
  clear hb2 hw1 hx1 HK HG1 HB1
  cases hbg : bigC g with
  | true =>
    clear hbg
    go_wp2_with fail
    refine (works_any _).mono ?_
    rintro en w3 ⟨rfl, hb3⟩
    have HZ := hide (HB2.out.trans (hb3.mono HB2.out.size))
    clear hb3
    go_wp2_with fail
    go_ret
    exact ⟨rfl, HZ.out⟩
  | false =>
    have HSM := hide (bigC_small hbg)
    clear hbg
    go_wp2_with fail
    by_cases hok : codeG g = 0
    · have HOK := hide (And.intro hok (And.intro (show edges g ≤ 1000000 by have := HSM.out; omega) (And.intro (pg_code hok HSM.out.1) (And.intro (pg_edges HSM.out.1 HSM.out.2) (show g.length < 65536 by have := HSM.out; omega)))))
      clear hok
      have cc := hx2
      go_region_held3 (fun w' => w'.cell? ⟨w.heap.size, 0, none⟩ = some (.slice A g.length c)) (exact cc) (first | (go_at_call 14; refine (post_any A c g _ (by exact HG2.out) HOK.out.1 HOK.out.2.1 HOK.out.2.2.1 HOK.out.2.2.2.1).mono ?_; rintro en w4 ⟨D2, L, P, dm, rfl, g1, g4, hb4⟩; replace hb4 : Below w2.heap.size w2 w4 := ⟨hb4.os, hb4.tape, hb4.output, hb4.size, hb4.block⟩; have HBT := hide g1; have HI4 := hide g4.rd; have HB4 := hide (HB2.out.trans (hb4.mono HB2.out.size)); have HG4 := hide (HG2.out.below' hb4); replace cc := (hb4.cell (p := ⟨w.heap.size, 0, none⟩) (lt_of_cell cc)).trans cc; clear g1 g4 hb4) | (go_at_call 15; refine (rpost_any A c g _ (by exact HG4.out) HOK.out.1 HOK.out.2.1 HOK.out.2.2.1 HOK.out.2.2.2.1 HOK.out.2.2.2.2 HBT.out).mono ?_; rintro en w5 ⟨⟨D3, rfl, hD⟩, hb5⟩; replace hb5 : Below w4.heap.size w4 w5 := ⟨hb5.os, hb5.tape, hb5.output, hb5.size, hb5.block⟩; have HI5 := hide (Rd.below' HI4.out hb5); have HD5 := hide hD.rd; have HB5 := hide (HB4.out.trans (hb5.mono HB4.out.size)); replace cc := (hb5.cell (p := ⟨w.heap.size, 0, none⟩) (lt_of_cell cc)).trans cc; clear hD hb5) | (go_at_call 11; refine (eqi_true _ _ _ _ (by exact HI5.out) (by exact HD5.out)).mono ?_; rintro en w6 ⟨rfl, hb6⟩; replace hb6 : Below w5.heap.size w5 w6 := ⟨hb6.os, hb6.tape, hb6.output, hb6.size, hb6.block⟩; have HB6 := hide (HB5.out.trans (hb6.mono HB5.out.size)); replace cc := (hb6.cell (p := ⟨w.heap.size, 0, none⟩) (lt_of_cell cc)).trans cc; clear hb6) | (go_at_call 10; refine (works_any _).mono ?_; rintro en w7 ⟨rfl, hb7⟩; replace hb7 : Below w6.heap.size w6 w7 := ⟨hb7.os, hb7.tape, hb7.output, hb7.size, hb7.block⟩; have HZ := hide (HB6.out.trans (hb7.mono HB6.out.size)); replace cc := (hb7.cell (p := ⟨w.heap.size, 0, none⟩) (lt_of_cell cc)).trans cc; clear hb7))
      all_goals
        clear cc hx2 HB2 HG2
        go_wp2_with fail
        go_ret
        exact ⟨rfl, HZ.out⟩
    · have HBAD := hide hok
      clear hok
      have cc := hx2
      go_region_held3 (fun w' => w'.cell? ⟨w.heap.size, 0, none⟩ = some (.slice A g.length c)) (exact cc) (first | (go_at_call 14; refine (post_bad A c g _ (by exact HG2.out) HBAD.out).mono ?_; rintro en w4 ⟨rfl, hb4⟩; replace hb4 : Below w2.heap.size w2 w4 := ⟨hb4.os, hb4.tape, hb4.output, hb4.size, hb4.block⟩; have HB4 := hide (HB2.out.trans (hb4.mono HB2.out.size)); have HG4 := hide (HG2.out.below' hb4); replace cc := (hb4.cell (p := ⟨w.heap.size, 0, none⟩) (lt_of_cell cc)).trans cc; clear hb4) | (go_at_call 15; refine (rpost_bad A c g _ (by exact HG4.out) HBAD.out).mono ?_; rintro en w5 ⟨rfl, hb5⟩; replace hb5 : Below w4.heap.size w4 w5 := ⟨hb5.os, hb5.tape, hb5.output, hb5.size, hb5.block⟩; have HI5 := hide (nil_rd w5); have HD5 := hide (nil_rd w5); have HB5 := hide (HB4.out.trans (hb5.mono HB4.out.size)); replace cc := (hb5.cell (p := ⟨w.heap.size, 0, none⟩) (lt_of_cell cc)).trans cc; clear hb5) | (go_at_call 11; refine (eqi_true _ _ _ _ (by exact HI5.out) (by exact HD5.out)).mono ?_; rintro en w6 ⟨rfl, hb6⟩; replace hb6 : Below w5.heap.size w5 w6 := ⟨hb6.os, hb6.tape, hb6.output, hb6.size, hb6.block⟩; have HB6 := hide (HB5.out.trans (hb6.mono HB5.out.size)); replace cc := (hb6.cell (p := ⟨w.heap.size, 0, none⟩) (lt_of_cell cc)).trans cc; clear hb6) | (go_at_call 10; refine (works_any _).mono ?_; rintro en w7 ⟨rfl, hb7⟩; replace hb7 : Below w6.heap.size w6 w7 := ⟨hb7.os, hb7.tape, hb7.output, hb7.size, hb7.block⟩; have HZ := hide (HB6.out.trans (hb7.mono HB6.out.size)); replace cc := (hb7.cell (p := ⟨w.heap.size, 0, none⟩) (lt_of_cell cc)).trans cc; clear hb7))
      all_goals
        clear cc hx2 HB2 HG2
        go_wp2_with fail
        go_ret
        exact ⟨rfl, HZ.out⟩
end Go.Proofs.Ytmopnceglnoncaa

/-
  Push, Pop and Len of a queue whose order is a ring, layer 5 (worklist).
-/
import Derived.Test.YthdjgbkooeabfaaQueue
namespace Go.Proofs.Ythdjgbkooeabfaa
open Go.RowKit

theorem m_push_ring (a : Addr) (w : World) : (method 71 48 (.pointer (some a)) "burnish/worklist.push").run Try.prog w = .ok (44, .pointer (some a)) w := by kernel_rfl
theorem m_pop_ring (a : Addr) (w : World) : (method 71 48 (.pointer (some a)) "burnish/worklist.pop").run Try.prog w = .ok (43, .pointer (some a)) w := by kernel_rfl
theorem m_size_ring (a : Addr) (w : World) : (method 71 48 (.pointer (some a)) "burnish/worklist.size").run Try.prog w = .ok (45, .pointer (some a)) w := by kernel_rfl

theorem len_ring (w : World) (B D n : Nat) (q : List Nat) (h : QAt w D n 48 (B + 1) q) (hr : RingAt w B n q) : Calls Try.prog 16 #[.pointer (some ⟨D + 1, 0, none⟩)] w fun en w' => en = .returned (.int .i64 (q.length : Nat)) ∧ w = w' := by
  have HV := hide (valid_q w D n _ _ q h)
  have HS := hide (ring_size w B n q hr)
  have c1 := h.self.cell 1
  have hm := m_size_ring ⟨B + 1, 0, none⟩
  clear hr h
  go_enter Try.func16, Try.ntmps16
  go_wp2_with (first | (go_at_call 26; refine HV.out.mono ?_; rintro en w' ⟨rfl, rfl⟩) | (go_at_call 45; refine HS.out.mono ?_; rintro en w' ⟨rfl, rfl⟩))
  go_ret
  exact ⟨rfl, rfl⟩

theorem push_ring (w : World) (B D n : Nat) (q : List Nat) (h : QAt w D n 48 (B + 1) q) (hr : RingAt w B n q) (hBD : B + 1 < D) (x : Nat) (hx : x < n) (hq : x ∉ q) : Calls Try.prog 14 #[.pointer (some ⟨D + 1, 0, none⟩), .int .i64 x] w fun en w' => en = .returned (.bool true) ∧ QAt w' D n 48 (B + 1) (q ++ [x]) ∧ RingAt w' B n (q ++ [x]) ∧ Frm w w' [B, B + 1, D] := by
  have HR := hide (range_q w D n _ _ q h x)
  rw [decide_eq_true (by omega : 0 ≤ (x : Int) ∧ (x : Int) < n)] at HR
  have hl : q.length < n := by
    have := (h.mark hx hq).len
    simp at this
    omega
  have c0 := h.self.cell 0
  have ca : w.cell? ⟨D, x, none⟩ = some (.bool false) := by rw [h.marks.cell, bcells_get q hx, decide_eq_false hq]
  have fa := h.marks.free x
  have hk' : (x : Int) < n := by omega
  have h1 := h.mark hx hq
  have d1 := h1.self.cell 1
  have hf1 : Frm w (w.setCell ⟨D, x, none⟩ (.bool true)) [D] := (Frm.refl w _).setCell _ _ (.inl (by simp))
  have hr1 := hr.frm hf1 (by simp; omega) (by simp; omega)
  have HP := hide (ring_push _ B n q hr1 x hl)
  have hm := m_push_ring ⟨B + 1, 0, none⟩
  have H1 := hide (And.intro h1 hf1)
  clear h1 hf1 hr1 h hr hx hq hl
  go_enter Try.func14, Try.ntmps14
  go_wp2_with (first | (go_at_call 25; refine HR.out.mono ?_; rintro en w' ⟨rfl, rfl⟩))
  refine HP.out.mono ?_
  rintro en w2 ⟨rfl, hr2, hf2⟩
  have HZ := hide (And.intro (H1.out.1.frm hf2 (by simp; omega) (by simp; omega)) (And.intro hr2 ((H1.out.2.mono (T := [B, B + 1, D]) (fun g hg => .inl (by simp at hg; simp [hg]))).trans (hf2.mono (T := [B, B + 1, D]) (fun g hg => .inl (by simp at hg; simp; omega))))))
  clear hr2 hf2 H1 HP HR
  go_wp2_with fail
  go_ret
  exact ⟨rfl, HZ.out⟩

/-- Push of a number that is out of range or held. -/
theorem push_no_ring (w : World) (D n o : Nat) (q : List Nat) (h : QAt w D n 48 o q) (x : Int) (hx : ¬ (0 ≤ x ∧ x < n ∧ x.toNat ∉ q)) : Calls Try.prog 14 #[.pointer (some ⟨D + 1, 0, none⟩), .int .i64 x] w fun en w' => en = .returned (.bool false) ∧ w = w' := by
  have HR := hide (range_q w D n _ _ q h x)
  have c0 := h.self.cell 0
  by_cases hin : 0 ≤ x ∧ x < n
  · rw [decide_eq_true hin] at HR
    obtain ⟨k, rfl⟩ : ∃ k : Nat, x = k := ⟨x.toNat, by omega⟩
    have hq : k ∈ q := by
      refine Decidable.byContradiction fun hq => hx ⟨hin.1, hin.2, by simpa using hq⟩
    have hk : k < n := by omega
    have ca : w.cell? ⟨D, k, none⟩ = some (.bool true) := by rw [h.marks.cell, bcells_get q hk, decide_eq_true hq]
    have hk' : (k : Int) < n := by omega
    clear hin hx hq h
    go_enter Try.func14, Try.ntmps14
    go_wp2_with (first | (go_at_call 25; refine HR.out.mono ?_; rintro en w' ⟨rfl, rfl⟩))
    go_ret
    exact ⟨rfl, rfl⟩
  · rw [decide_eq_false hin] at HR
    clear hin hx h
    go_enter Try.func14, Try.ntmps14
    go_wp2_with (first | (go_at_call 25; refine HR.out.mono ?_; rintro en w' ⟨rfl, rfl⟩))
    go_ret
    exact ⟨rfl, rfl⟩

/-- Pop of an empty queue. -/
theorem pop_no_ring (w : World) (B D n : Nat) (q : List Nat) (h : QAt w D n 48 (B + 1) q) (hr : RingAt w B n q) (hq : q = []) : Calls Try.prog 15 #[.pointer (some ⟨D + 1, 0, none⟩)] w fun en w' => en = .returned (.tuple #[.int .i64 0, .bool false]) ∧ w = w' := by
  have HL := hide (len_ring w B D n q h hr)
  subst hq
  clear h hr
  go_enter Try.func15, Try.ntmps15
  go_wp2_with (first | (go_at_call 16; refine HL.out.mono ?_; rintro en w' ⟨rfl, rfl⟩))
  go_ret2
  exact ⟨rfl, rfl⟩

/-- Pop. -/
theorem pop_ring (w : World) (B D n : Nat) (q : List Nat) (h : QAt w D n 48 (B + 1) q) (hr : RingAt w B n q) (hBD : B + 1 < D) (x : Nat) (p : List Nat) (he : q = x :: p) (hx : x ∈ q) (hn : p.Nodup) (hp : ∀ j, j ∈ p ↔ j ∈ q ∧ j ≠ x) : Calls Try.prog 15 #[.pointer (some ⟨D + 1, 0, none⟩)] w fun en w' => en = .returned (.tuple #[.int .i64 x, .bool true]) ∧ QAt w' D n 48 (B + 1) p ∧ RingAt w' B n p ∧ Frm w w' [B, B + 1, D] := by
  have HL := hide (len_ring w B D n q h hr)
  have h65 := h.big
  have hlen := h.len
  have hl0 : 0 < q.length := List.length_pos_of_mem hx
  have t0 : (((q.length : Nat) : Int) == 0) = false := by rw [beq_eq_false_iff_ne]; omega
  have hxn := h.lt x hx
  have hk' : (x : Int) < n := by omega
  have c1 := h.self.cell 1
  have HP := hide (ring_pop w B n x p (he ▸ hr))
  have hm := m_pop_ring ⟨B + 1, 0, none⟩
  have H1 := hide h
  have HX := hide hx
  clear h hr hlen hl0 hx
  go_enter Try.func15, Try.ntmps15
  go_wp2_with (first | (go_at_call 16; refine HL.out.mono ?_; rintro en w' ⟨rfl, rfl⟩))
  refine HP.out.mono ?_
  rintro en w2 ⟨rfl, hr2, hf2⟩
  have h2 := H1.out.frm hf2 (by simp; omega) (by simp; omega)
  have d0 := h2.self.cell 0
  have ca : w2.cell? ⟨D, x, none⟩ = some (.bool true) := by rw [h2.marks.cell, bcells_get q hxn, decide_eq_true HX.out]
  have fa := h2.marks.free x
  have hf3 : Frm w2 (w2.setCell ⟨D, x, none⟩ (.bool false)) [D] := (Frm.refl w2 _).setCell _ _ (.inl (by simp))
  have HZ := hide (And.intro (h2.strike hxn hn hp) (And.intro (hr2.frm hf3 (by simp; omega) (by simp; omega)) ((hf2.mono (T := [B, B + 1, D]) (fun g hg => .inl (by simp at hg; simp; omega))).trans (hf3.mono (T := [B, B + 1, D]) (fun g hg => .inl (by simp at hg; simp [hg]))))))
  clear hr2 hf2 h2 hf3 H1 HP HL hn hp
  go_wp2_with fail
  go_ret2
  exact ⟨rfl, HZ.out⟩
end Go.Proofs.Ythdjgbkooeabfaa

/-
  A set and the reference's set side by side: Of, Clone, same, Equal. Layer 3 (bitset).
-/
import Derived.Test.YtbnikoomgeaboaaDoorPair2
import Derived.Test.YtbnikoomgeaboaaDoorLawNil
namespace Go.Proofs.YtbnikoomgeaboaaDoor
open Go.RowKit

theorem pair_of (w : World) (n : Int) (hn : n ≤ 65536) (lv : Value) (l : List Int) (hl : Rd w .i64 lv l) :
    Calls Tryd.prog 10 #[.int .i64 n, lv] w fun en w' => ∃ v, en = .returned v ∧ (∃ p, v = .pointer p) ∧ Frm w w' [] ∧
      Calls Tryd.prog 11 #[.int .i64 n, lv] w' fun en w'' => ∃ u o G, en = .returned u ∧ (∃ p, u = .pointer p) ∧ Pr w'' w.heap.size v u o G ∧ Frm w w'' [] := by
  by_cases h0 : n < 0
  · refine (of_nil n h0 lv l w hl).mono fun _ w' ⟨a, b⟩ => ⟨_, a, ⟨_, rfl⟩, b, ?_⟩
    exact (rof_nil n (.inl h0) lv l w' (hl.below2 b)).mono fun _ w'' ⟨c, d⟩ => ⟨_, _, _, c, ⟨_, rfl⟩, Pr.none, b.trans d⟩
  · obtain ⟨m, rfl⟩ : ∃ m : Nat, n = m := ⟨n.toNat, by omega⟩
    refine (of_any m lv l w (by omega) hl).mono fun _ w' ⟨a, ws, b, c, d⟩ => ⟨_, a, ⟨_, rfl⟩, d, ?_⟩
    have hlt := b.lt
    refine (rof_set m lv l w' (by omega) (hl.below2 d)).mono fun _ w'' ⟨e, f, g⟩ => ⟨_, _, _, e, ⟨_, rfl⟩, Pr.some w.heap.size (w'.heap.size + 1) w'.heap.size m ws _ (b.frm g (by simp) (by simp)) (f.congr fun j hj => ?_) (Nat.le_refl _) d.size (by simp; omega) (by simp; omega), d.trans g⟩
    rw [c, decide_eq_true hj, Bool.true_and]

theorem pair_clone {w : World} {L : Nat} {v u : Value} {o : Option (Nat × List Nat)} {G : List Nat} (h : Pr w L v u o G) :
    Calls Tryd.prog 24 #[v] w fun en w' => ∃ v', en = .returned v' ∧ (∃ p, v' = .pointer p) ∧
      Calls Tryd.prog 25 #[u] w' fun en w'' => ∃ u' G', en = .returned u' ∧ (∃ p, u' = .pointer p) ∧ Pr w'' w.heap.size v' u' o G' ∧ Frm w w'' [] := by
  cases h with
  | none => exact (clone_no w _ (.inl rfl)).mono fun _ w' ⟨a, b⟩ => by subst b; exact ⟨_, a, ⟨_, rfl⟩, (rclone_nil w).mono fun _ _ ⟨c, d⟩ => by subst d; exact ⟨_, _, c, ⟨_, rfl⟩, Pr.none, Frm.refl _ _⟩⟩
  | some B R M n ws F h1 h2 h3 h4 h5 h6 =>
    refine (clone_set w B n ws h1).mono fun _ w' ⟨a, b, c⟩ => ⟨_, a, ⟨_, rfl⟩, ?_⟩
    have hlt := b.lt
    refine (rclone_set w' M R n _ F (h2.frm c (by simp))).mono fun _ w'' ⟨R', F', d, e, f⟩ => ⟨_, _, d, ⟨_, rfl⟩, Pr.some w.heap.size R' w'.heap.size n ws F' (b.frm f (by simp) (by simp)) e (Nat.le_refl _) c.size (fun hg => ?_) (fun hg => ?_), c.trans f⟩
    · have := (e.low _ hg).1; omega
    · have := (e.low _ hg).1; omega

theorem pair_same {w : World} {L : Nat} {v u : Value} {o : Option (Nat × List Nat)} {G : List Nat} (h : Pr w L v u o G) (hT : Tab w) :
    Calls Tryd.prog 26 #[v, u] w fun en w' => en = .returned (.bool true) ∧ Below w.heap.size w w' := by
  cases h with
  | none => exact same_nil w
  | some B R M n ws F h1 h2 h3 h4 h5 h6 => exact same_set w B M R n ws F h1 hT h2

theorem pair_equal {w : World} {L L' : Nat} {v u v' u' : Value} {o o' : Option (Nat × List Nat)} {G G' : List Nat} (h : Pr w L v u o G) (k : Pr w L' v' u' o' G') :
    Calls Tryd.prog 27 #[v, v'] w fun en w' => ∃ b, en = .returned (.bool b) ∧ Frm w w' [] ∧
      Calls Tryd.prog 28 #[u, u'] w' fun en w'' => en = .returned (.bool b) ∧ Frm w' w'' [] := by
  cases h with
  | none =>
    cases k with
    | none => exact (equal_no w _ _ (.inl rfl) (.inl rfl)).mono fun _ w' ⟨a, b⟩ => ⟨_, a, b, (requal_nil w').mono fun _ _ ⟨c, d⟩ => by subst d; exact ⟨c, Frm.refl _ _⟩⟩
    | some C R' M' m vs F' k1 k2 k3 k4 k5 k6 =>
      refine (equal_no1 w _ _ m (.inl rfl) ⟨C, vs, rfl, k1⟩).mono fun _ w' ⟨a, b⟩ => ⟨_, a, b, ?_⟩
      obtain ⟨A, c, hr, -⟩ := (k2.frm b (by simp)).rrd
      exact (requal_nil1 w' R' m c A hr).mono fun _ _ ⟨c, d⟩ => by subst d; exact ⟨c, Frm.refl _ _⟩
  | some B R M n ws F h1 h2 h3 h4 h5 h6 =>
    cases k with
    | none =>
      refine (equal_no2 w _ _ n ⟨B, ws, rfl, h1⟩ (.inl rfl)).mono fun _ w' ⟨a, b⟩ => ⟨_, a, b, ?_⟩
      obtain ⟨A, c, hr, -⟩ := (h2.frm b (by simp)).rrd
      exact (requal_nil2 w' R n c A hr).mono fun _ _ ⟨c, d⟩ => by subst d; exact ⟨c, Frm.refl _ _⟩
    | some C R' M' m vs F' k1 k2 k3 k4 k5 k6 =>
      refine (equal_set w B C n m ws vs h1 k1).mono fun _ w' ⟨a, b⟩ => ⟨_, a, b, ?_⟩
      obtain ⟨A, c, hr, hc⟩ := (h2.frm b (by simp)).rrd
      obtain ⟨A', c', hr', hc'⟩ := (k2.frm b (by simp)).rrd
      refine (requal_set w' R n c R' m c' A A' _ _ hr hr' hc hc').mono fun _ w'' ⟨d, e⟩ => ⟨?_, e⟩
      rw [d]
      congr 2
      refine decide_eq_decide.2 ⟨fun ⟨p, q⟩ => ⟨p, ?_⟩, fun ⟨p, q⟩ => ⟨p, fun i _ => by rw [q]⟩⟩
      subst p
      exact h1.2.2.1.ext k1.2.2.1 q
end Go.Proofs.YtbnikoomgeaboaaDoor

/-
  Layer 23 (expr): Format; the reference's decimal.
-/
import Derived.Test.YtnhaanjpcnnifaaDoorExR
namespace Go.Proofs.YtnhaanjpcnnifaaDoor
open Go.RowKit Go.Deep
attribute [-go_sem] run_string_add_if

theorem format_any (e : List NdD) (hin : ∀ x ∈ e, x.In) (EA : Option Addr) (ec : Nat) (w : World) (hO : OpTab w) (hP : Pow w) (he : RdN w 3 (.slice EA e.length ec) (e.map NdD.cells)) (hlen : e.length ≤ 1000) :
    Calls Tryd.prog 22 #[.slice EA e.length ec] w fun en w' => en = .returned (.string (bsE (txtE fmtN e))) ∧ Below w.heap.size w w' :=
  format_by e fmtN EA ec w he hlen (fun x hx => Nat.le_trans (fmtN_len (hin x hx)) (by decide)) (fun x hx W hW => fnode_any x (hin x hx) W (hO.below hW) (hP.below hW))
def digS (k : Nat) : List UInt8 := [UInt8.ofNat (48 + k)]
theorem slD : ∀ (k : Nat), k < 10 → ∀ W, (Instr.slice 9 (.string ⟨#[48, 49, 50, 51, 52, 53, 54, 55, 56, 57]⟩) (some (.int .i64 (k : Int))) (some (.int .i64 ((k : Int) + 1))) none).run Tryd.prog W = .ok (.string (bsE (digS k))) W
  | 0, _, W => by kernel_rfl
  | 1, _, W => by kernel_rfl
  | 2, _, W => by kernel_rfl
  | 3, _, W => by kernel_rfl
  | 4, _, W => by kernel_rfl
  | 5, _, W => by kernel_rfl
  | 6, _, W => by kernel_rfl
  | 7, _, W => by kernel_rfl
  | 8, _, W => by kernel_rfl
  | 9, _, W => by kernel_rfl
  | k + 10, h, W => by omega
theorem dm (M : Int) : ∃ (k : Nat) (D Q : Int), M.tmod 10 = D ∧ M.tdiv 10 = Q ∧ k < 10 ∧ k = M.natAbs % 10 ∧ Q.natAbs = M.natAbs / 10 ∧ (D = (k : Int) ∨ D = -(k : Int) ∧ 0 < k) ∧ (0 ≤ M → 0 ≤ Q) ∧ (M ≤ 0 → Q ≤ 0) := by
  obtain ⟨u, hu⟩ := Int.eq_nat_or_neg M
  refine ⟨u % 10, M.tmod 10, M.tdiv 10, rfl, rfl, Nat.mod_lt _ (by omega), ?_⟩
  rcases hu with rfl | rfl
  · have h1 : ((u : Int)).tmod 10 = ((u % 10 : Nat) : Int) := rfl
    have h2 : ((u : Int)).tdiv 10 = ((u / 10 : Nat) : Int) := rfl
    rw [h1, h2]
    refine ⟨by rw [Int.natAbs_natCast], by rw [Int.natAbs_natCast, Int.natAbs_natCast], .inl rfl, fun _ => by omega, fun h => by omega⟩
  · have h1 : (-(u : Int)).tmod 10 = -((u % 10 : Nat) : Int) := by rw [Int.neg_tmod]; rfl
    have h2 : (-(u : Int)).tdiv 10 = -((u / 10 : Nat) : Int) := by rw [Int.neg_tdiv]; rfl
    rw [h1, h2]
    refine ⟨by rw [Int.natAbs_neg, Int.natAbs_natCast], by rw [Int.natAbs_neg, Int.natAbs_neg, Int.natAbs_natCast, Int.natAbs_natCast], ?_, fun h => by omega, fun _ => by omega⟩
    rcases Nat.eq_zero_or_pos (u % 10) with h | h
    · exact .inl (by rw [h]; rfl)
    · exact .inr ⟨rfl, h⟩
theorem dec_step {u k : Nat} (hk : k = u % 10) (h : u / 10 = 0) : Lib.decDigits u = digS k := by
  rw [Lib.decDigits, dif_pos (by omega), digS, hk, show u % 10 = u by omega]
theorem dec_more {u k : Nat} (hk : k = u % 10) (h : u / 10 ≠ 0) : Lib.decDigits u = Lib.decDigits (u / 10) ++ digS k := by
  rw [Lib.decDigits, dif_neg (by omega), digS, hk]
theorem wrp_in {z : Int} (h : In64 z) : wrap64 z = z := by
  unfold In64 at h
  unfold wrap64
  omega
set_option maxRecDepth 100000 in
set_option maxHeartbeats 8000000 in
theorem rdec_any (n : Int) (hn : In64 n) (w : World) : Calls Tryd.prog 38 #[.int .i64 n] w fun e w' => e = .returned (.string (bsE (Lib.itoa n))) ∧ w' = w := by
  go_enter Tryd.func38, Tryd.ntmps38
  go_wp2_with fail
  go_loopw [3, 4, 5] (fun s m _ wr => ∃ (M : Int) (l : List UInt8), m = .int .i64 M ∧ s = .string (bsE l) ∧ Hid (In64 M ∧ (0 ≤ n → 0 ≤ M) ∧ (n < 0 → M ≤ 0) ∧ Lib.decDigits n.natAbs = Lib.decDigits M.natAbs ++ l) ∧ wr = w) (fun _ m _ _ => (intOf m).natAbs)
  case atStart => exact ⟨n, [], rfl, rfl, hide ⟨hn, id, fun h => by omega, by simp⟩, rfl⟩
  case round =>
    obtain ⟨M, l, rfl, rfl, hr, rfl⟩ := hrel
    obtain ⟨k, D, Q, hD, hQ, hk, hkM, hQM, hDk, hp1, hp2⟩ := dm M
    have hM : In64 M := hr.out.1
    have hQ6 : In64 Q := by unfold In64 at hM ⊢; omega
    have hwQ := wrp_in hQ6
    have hwk : wrap64 ((k : Int) + 1) = (k : Int) + 1 := wrp_in (by unfold In64; omega)
    have hs := slD k hk
    have hln : l.length ≤ 1000 := by
      have h1 := congrArg List.length hr.out.2.2.2
      have h2 := dec_len n.natAbs (by unfold In64 at hn; omega)
      rw [List.length_append] at h1
      omega
    have hc : ∀ W, (Op.stringOp .add (bsE (digS k)) (bsE l)).run Tryd.prog W = .ok (.string (bsE (digS k ++ l))) W := fun W => catE (digS k) l (by simp [digS]) (by omega) W
    obtain ⟨L, hL⟩ : ∃ L, digS k ++ l = L := ⟨_, rfl⟩
    rw [hL] at hc
    have HR := hide hr.out
    have HN := hide hn
    have HF : Hid (In64 Q ∧ k = M.natAbs % 10 ∧ Q.natAbs = M.natAbs / 10 ∧ (0 ≤ M → 0 ≤ Q) ∧ (M ≤ 0 → Q ≤ 0) ∧ digS k ++ l = L) := hide ⟨hQ6, hkM, hQM, hp1, hp2, hL⟩
    have hq0 : (Q == 0) = true ∨ (Q == 0) = false := by cases (Q == 0) <;> simp
    clear hr hM hQ6 hkM hQM hp1 hp2 hL hln hn hk
    have hDD : (decide (D < 0) = false ∧ D = (k : Int)) ∨ (decide (D < 0) = true ∧ wrap64 (-D) = (k : Int)) := by
      rcases hDk with h | ⟨h, h0⟩
      · exact .inl ⟨by simp; omega, h⟩
      · refine .inr ⟨by simp; omega, ?_⟩
        rw [h, Int.neg_neg]
        have := wrp_in (z := (k : Int)) (by have := HF.out.2.1; unfold In64; omega)
        exact this
    clear hDk
    rcases hDD with ⟨g0, g1⟩ | ⟨g0, g1⟩
    all_goals rcases hq0 with gq | gq
    · (try subst g1)
      have hfin : Hid (Lib.decDigits n.natAbs = L) := hide (by
        have hQ0 : Q = 0 := by simpa using gq
        have h1 := HF.out.2.2.1
        rw [hQ0] at h1
        rw [HR.out.2.2.2, dec_step HF.out.2.1 (by omega), HF.out.2.2.2.2.2])
      by_cases hneg : n < 0
      · have gn : decide (n < 0) = true := by simpa using hneg
        have hc2 : ∀ W, (Op.stringOp .add ⟨#[45]⟩ (bsE L)).run Tryd.prog W = .ok (.string (bsE (45 :: L))) W := fun W => catE [45] L (by simp) (by rw [← hfin.out]; have := dec_len n.natAbs (by have := HN.out; unfold In64 at this; omega); omega) W
        have hi : Hid (Lib.itoa n = 45 :: L) := hide (by unfold Lib.itoa; rw [if_pos hneg, hfin.out])
        clear hneg
        go_wp2_with fail
        go_ret
        exact ⟨by rw [hi.out]; rfl, rfl⟩
      · have gn : decide (n < 0) = false := by simpa using hneg
        have hi : Hid (Lib.itoa n = L) := hide (by unfold Lib.itoa; rw [if_neg hneg, show n.toNat = n.natAbs by omega, hfin.out])
        clear hneg
        go_wp2_with fail
        go_ret
        exact ⟨by rw [hi.out]; rfl, rfl⟩
    · (try subst g1)
      have hne : M.natAbs / 10 ≠ 0 := by
        have h1 : Q ≠ 0 := by simpa using gq
        have h2 := HF.out.2.2.1
        omega
      have hrel2 : Hid (Lib.decDigits n.natAbs = Lib.decDigits Q.natAbs ++ L) := hide (by rw [HR.out.2.2.2, dec_more HF.out.2.1 hne, HF.out.2.2.1, List.append_assoc, HF.out.2.2.2.2.2])
      have hlt : Hid (Q.natAbs < M.natAbs) := hide (by have h2 := HF.out.2.2.1; omega)
      clear hne
      go_wp2_with fail
      rw [wrp_in HF.out.1]
      exact ⟨⟨Q, L, rfl, rfl, hide ⟨HF.out.1, fun h => HF.out.2.2.2.1 (HR.out.2.1 h), fun h => HF.out.2.2.2.2.1 (HR.out.2.2.1 h), hrel2.out⟩, trivial⟩, hlt.out⟩
    · (try subst g1)
      have hfin : Hid (Lib.decDigits n.natAbs = L) := hide (by
        have hQ0 : Q = 0 := by simpa using gq
        have h1 := HF.out.2.2.1
        rw [hQ0] at h1
        rw [HR.out.2.2.2, dec_step HF.out.2.1 (by omega), HF.out.2.2.2.2.2])
      by_cases hneg : n < 0
      · have gn : decide (n < 0) = true := by simpa using hneg
        have hc2 : ∀ W, (Op.stringOp .add ⟨#[45]⟩ (bsE L)).run Tryd.prog W = .ok (.string (bsE (45 :: L))) W := fun W => catE [45] L (by simp) (by rw [← hfin.out]; have := dec_len n.natAbs (by have := HN.out; unfold In64 at this; omega); omega) W
        have hi : Hid (Lib.itoa n = 45 :: L) := hide (by unfold Lib.itoa; rw [if_pos hneg, hfin.out])
        clear hneg
        go_wp2_with fail
        go_ret
        exact ⟨by rw [hi.out]; rfl, rfl⟩
      · have gn : decide (n < 0) = false := by simpa using hneg
        have hi : Hid (Lib.itoa n = L) := hide (by unfold Lib.itoa; rw [if_neg hneg, show n.toNat = n.natAbs by omega, hfin.out])
        clear hneg
        go_wp2_with fail
        go_ret
        exact ⟨by rw [hi.out]; rfl, rfl⟩
    · (try subst g1)
      have hne : M.natAbs / 10 ≠ 0 := by
        have h1 : Q ≠ 0 := by simpa using gq
        have h2 := HF.out.2.2.1
        omega
      have hrel2 : Hid (Lib.decDigits n.natAbs = Lib.decDigits Q.natAbs ++ L) := hide (by rw [HR.out.2.2.2, dec_more HF.out.2.1 hne, HF.out.2.2.1, List.append_assoc, HF.out.2.2.2.2.2])
      have hlt : Hid (Q.natAbs < M.natAbs) := hide (by have h2 := HF.out.2.2.1; omega)
      clear hne
      go_wp2_with fail
      rw [wrp_in HF.out.1]
      exact ⟨⟨Q, L, rfl, rfl, hide ⟨HF.out.1, fun h => HF.out.2.2.2.1 (HR.out.2.1 h), fun h => HF.out.2.2.2.2.1 (HR.out.2.2.1 h), hrel2.out⟩, trivial⟩, hlt.out⟩
end Go.Proofs.YtnhaanjpcnnifaaDoor

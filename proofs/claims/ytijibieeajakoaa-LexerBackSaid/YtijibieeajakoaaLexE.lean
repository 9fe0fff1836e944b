/-
  Layer 13 (lexer): firstToken of the program.
-/
import Derived.Test.YtijibieeajakoaaLexD
namespace Go.Proofs.Ytijibieeajakoaa
open Go.RowKit

theorem bel {q : Nat} {w a b : World} {T : TypeId} {cs : Array Value} (h : Below q w a) (hW : Whole a q T cs) (hb : Below a.heap.size a b) : Below q w b := h.trans (hb.mono (Nat.le_of_lt hW.lt))
theorem cells4 {w : World} {g : Nat} {T : TypeId} {a b c d : Value} (h : Whole w g T #[a, b, c, d]) :
    w.cell? ⟨g, 0, none⟩ = some a ∧ w.cell? ⟨g, 1, none⟩ = some b ∧ w.cell? ⟨g, 2, none⟩ = some c ∧ w.cell? ⟨g, 3, none⟩ = some d ∧
    w.frozen? ⟨g, 0, none⟩ = false ∧ w.frozen? ⟨g, 1, none⟩ = false ∧ w.frozen? ⟨g, 2, none⟩ = false ∧ w.frozen? ⟨g, 3, none⟩ = false :=
  ⟨h.cell 0, h.cell 1, h.cell 2, h.cell 3, h.free 0, h.free 1, h.free 2, h.free 3⟩
theorem below4 {q : Nat} {w a : World} (h : Below q w a) (v0 v1 v2 v3 : Value) : Below q w ((((a.setCell ⟨q, 0, none⟩ v0).setCell ⟨q, 1, none⟩ v1).setCell ⟨q, 2, none⟩ v2).setCell ⟨q, 3, none⟩ v3) :=
  (((h.setCell (p := ⟨q, 0, none⟩) (Nat.le_refl _) v0).setCell (p := ⟨q, 1, none⟩) (Nat.le_refl _) v1).setCell (p := ⟨q, 2, none⟩) (Nat.le_refl _) v2).setCell (p := ⟨q, 3, none⟩) (Nat.le_refl _) v3

theorem minus_take {l : List UInt8} {n : Nat} (h : 0 < n) : minus (l.take n) = minus l := by
  obtain ⟨k, rfl⟩ : ∃ k, n = k + 1 := ⟨n - 1, by omega⟩
  cases l <;> rfl
theorem cut_take {l : List UInt8} {n : Nat} (h : 0 < n) : cut (l.take n) = (cut l).take (if minus l then n - 1 else n) := by
  unfold cut
  rw [minus_take h]
  obtain ⟨k, rfl⟩ : ∃ k, n = k + 1 := ⟨n - 1, by omega⟩
  cases hm : minus l
  · simp
  · cases l <;> simp
theorem span_take {p : UInt8 → Bool} : ∀ (l : List UInt8), span p (l.take (span p l)) = span p l
  | [] => rfl
  | c :: r => by
    rw [span_cons]
    cases hc : p c
    · rfl
    · simp only [if_true, List.take_succ_cons, span_cons, hc, span_take r]
/-- The integer at the front is an integer. -/
theorem int_take {l : List UInt8} (h : intLen l ≠ 0) : intLen (l.take (intLen l)) = intLen l ∧ (l.take (intLen l)).length = intLen l := by
  have hle := intLen_le l
  refine ⟨?_, by rw [List.length_take]; omega⟩
  obtain ⟨n, hn⟩ : ∃ n, intLen l = n := ⟨_, rfl⟩
  rw [hn] at h ⊢
  have hc := cut_take (l := l) (n := n) (by omega)
  have hm := minus_take (l := l) (n := n) (by omega)
  have hk : (if minus l then n - 1 else n) = digLen (cut l) := by
    rw [← hn]; unfold intLen at hn ⊢
    cases hx : minus l <;> simp [hx] at hn ⊢
    split at hn
    · rename_i h0; simp [h0]
    · rename_i h0; omega
  rw [hk] at hc
  have hd : digLen (cut (l.take n)) = digLen (cut l) := by rw [hc]; exact span_take _
  rw [← hn]
  unfold intLen at hn ⊢
  rw [hn, hd, hm, hn]
theorem int_take_cut {l : List UInt8} (h : intLen l ≠ 0) : cut (l.take (intLen l)) ≠ [] := by
  obtain ⟨h1, h2⟩ := int_take h
  exact (int_digits (l := l.take (intLen l)) (by rw [h1]; exact h) (by rw [h1, h2])).1

/-- What firstToken answers: the token's cells, its bytes, its error. -/
def ftCells (l : List UInt8) : Array Value := if tokE l = 0 then #[.int .i64 (tokK l), .int .i64 0, .int .i64 (tokN l), .string (Bs (tokT l))] else #[.int .i64 0, .int .i64 0, .int .i64 0, .string (Bs [])]
def ftLen (l : List UInt8) : Int := if tokE l = 0 then tokLen l else 0

set_option maxRecDepth 100000 in
set_option maxHeartbeats 8000000 in
theorem firstToken_any (l : List UInt8) (h0 : l ≠ []) (hm : l.length ≤ 1000000) (w : World) : Calls Try.prog 15 #[.string (Bs l)] w fun e w' =>
    e = .returned (.tuple #[.agg (ftCells l), .int .i64 (ftLen l), .int .i64 (tokE l)]) ∧ Below w.heap.size w w' := by
  obtain ⟨c, r, hcr⟩ : ∃ c r, l = c :: r := by
    cases l with
    | nil => exact absurd rfl h0
    | cons c r => exact ⟨c, r, rfl⟩
  have hpu : headIs isPu l = (decide ((c.toNat : Int) = 40) || decide ((c.toNat : Int) = 41) || decide ((c.toNat : Int) = 61)) := by rw [hcr]; rfl
  have hix : ∀ W, (Instr.index 9 (.string (Bs l)) (.int .i64 0)).run Try.prog W = .ok (.int .u8 (c.toNat : Int)) W := by rw [hcr]; exact ix0 c r
  have hl1 : 1 ≤ l.length := by rw [hcr]; simp
  clear hcr
  obtain ⟨q, hq⟩ : ∃ q, w.heap.size = q := ⟨_, rfl⟩
  obtain ⟨w1, hw1⟩ : ∃ x, w.alloc (.cells #[.int .i64 0, .int .i64 0, .int .i64 0, .string { data := #[] }] 34) = x := ⟨_, rfl⟩
  have HR : Hid (Whole w1 q 34 #[.int .i64 0, .int .i64 0, .int .i64 0, .string { data := #[] }]) := by show Whole _ _ _ _; rw [← hw1, ← hq]; exact Whole.new w _ _
  have HB : Hid (Below q w w1) := by show Below _ _ _; rw [← hw1, ← hq]; exact (Below.refl _ _).alloc (Nat.le_refl _) _
  obtain ⟨c0, c1, c2, c3, f0, f1, f2, f3⟩ := cells4 HR.out
  have HI := identLength_any
  have hs1 : ∀ W, (Instr.slice 9 (.string (Bs l)) none (some (.int .i64 1)) none).run Try.prog W = .ok (.string (Bs (l.take 1))) W := fun W => slTo l 1 hl1 W
  by_cases p1 : headIs isPu l = true
  · have e0 : Hid (tokE l = 0) := by show _ = _; simp [tokE, p1]
    have eK : Hid (tokK l = 3) := by show _ = _; simp [tokK, p1]
    have eN : Hid (tokN l = 0) := by show _ = _; simp [tokN, p1]
    have eT : Hid (tokT l = l.take 1) := by show _ = _; simp [tokT, p1]
    have eL : Hid (tokLen l = 1) := by show _ = _; simp [tokLen, p1]
    rw [hpu] at p1
    clear hpu HI
    go_enter Try.func15, Try.ntmps15
    go_wp2_with (go_at_call 20; refine (isPunct_any _ _).mono ?_; rintro en w' ⟨rfl, rfl⟩)
    refine bodyPost_ret (v := .tuple #[.agg (ftCells l), .int .i64 (ftLen l), .int .i64 (tokE l)]) ?_ rfl ⟨rfl, by rw [hq]; exact below4 HB.out _ _ _ _⟩
    simp [results, Try.f15, go_sem, c0, c1, c2, c3, ftCells, ftLen, e0.out, eK.out, eN.out, eT.out, eL.out, Bs]
  have p1' : headIs isPu l = false := by simpa using p1
  have p2 := hpu.symm.trans p1'
  clear p1 hpu
  obtain ⟨m, hmn⟩ : ∃ m, identLen l = m := ⟨_, rfl⟩
  have HI1 := HI l hm
  have hile := identLen_le l
  rw [hmn] at HI1 hile
  by_cases p3 : 24 < m
  · have eE : Hid (tokE l = 6) := by show _ = _; simp [tokE, p1', hmn, p3]
    clear p1' hmn HI
    go_enter Try.func15, Try.ntmps15
    go_wp2_with (first | (go_at_call 20; refine (isPunct_any _ _).mono ?_; rintro en w' ⟨rfl, rfl⟩) | (go_at_call 19; refine (HI1 _).mono ?_; rintro en w' ⟨rfl, hb⟩; replace HB := hide (bel HB.out HR.out hb); replace HR := hide (HR.out.below' hb); clear c0 c1 c2 c3 f0 f1 f2 f3; obtain ⟨c0, c1, c2, c3, f0, f1, f2, f3⟩ := cells4 HR.out))
    refine bodyPost_ret (v := .tuple #[.agg (ftCells l), .int .i64 (ftLen l), .int .i64 (tokE l)]) ?_ rfl ⟨rfl, by rw [hq]; exact below4 HB.out _ _ _ _⟩
    simp [results, Try.f15, go_sem, c0, c1, c2, c3, ftCells, ftLen, eE.out, Bs]
  by_cases p4 : 0 < m
  · have e0 : Hid (tokE l = 0) := by show _ = _; simp [tokE, p1', hmn, p3, p4]
    have eK : Hid (tokK l = 1) := by show _ = _; simp [tokK, p1', hmn, p4]
    have eN : Hid (tokN l = 0) := by show _ = _; simp [tokN, p1', hmn, p4]
    have eT : Hid (tokT l = l.take m) := by show _ = _; simp [tokT, p1', hmn, p4]
    have eL : Hid (tokLen l = m) := by show _ = _; simp [tokLen, p1', hmn, p4]
    have hs2 := slTo l m hile
    clear p1' hmn HI
    go_enter Try.func15, Try.ntmps15
    go_wp2_with (first | (go_at_call 20; refine (isPunct_any _ _).mono ?_; rintro en w' ⟨rfl, rfl⟩) | (go_at_call 19; refine (HI1 _).mono ?_; rintro en w' ⟨rfl, hb⟩; replace HB := hide (bel HB.out HR.out hb); replace HR := hide (HR.out.below' hb); clear c0 c1 c2 c3 f0 f1 f2 f3; obtain ⟨c0, c1, c2, c3, f0, f1, f2, f3⟩ := cells4 HR.out))
    refine bodyPost_ret (v := .tuple #[.agg (ftCells l), .int .i64 (ftLen l), .int .i64 (tokE l)]) ?_ rfl ⟨rfl, by rw [hq]; exact below4 HB.out _ _ _ _⟩
    simp [results, Try.f15, go_sem, c0, c1, c2, c3, ftCells, ftLen, e0.out, eK.out, eN.out, eT.out, eL.out, Bs]
  obtain rfl : m = 0 := by omega
  have hnle := intLen_le l
  obtain ⟨n, hn⟩ : ∃ n, intLen l = n := ⟨_, rfl⟩
  have HT := integerLength_any l hm
  rw [hn] at HT hnle
  by_cases p5 : n = 0
  · have eE : Hid (tokE l = 12) := by show _ = _; simp [tokE, p1', hmn, hn, p5]
    subst p5
    clear p1' hmn HI hn
    go_enter Try.func15, Try.ntmps15
    go_wp2_with (first | (go_at_call 20; refine (isPunct_any _ _).mono ?_; rintro en w' ⟨rfl, rfl⟩) | (go_at_call 19; refine (HI1 _).mono ?_; rintro en w' ⟨rfl, hb⟩; replace HB := hide (bel HB.out HR.out hb); replace HR := hide (HR.out.below' hb); clear c0 c1 c2 c3 f0 f1 f2 f3; obtain ⟨c0, c1, c2, c3, f0, f1, f2, f3⟩ := cells4 HR.out) | (go_at_call 21; refine (HT _).mono ?_; rintro en w' ⟨rfl, hb⟩; replace HB := hide (bel HB.out HR.out hb); replace HR := hide (HR.out.below' hb); clear c0 c1 c2 c3 f0 f1 f2 f3; obtain ⟨c0, c1, c2, c3, f0, f1, f2, f3⟩ := cells4 HR.out))
    refine bodyPost_ret (v := .tuple #[.agg (ftCells l), .int .i64 (ftLen l), .int .i64 (tokE l)]) ?_ rfl ⟨rfl, by rw [hq]; exact below4 HB.out _ _ _ _⟩
    simp [results, Try.f15, go_sem, c0, c1, c2, c3, ftCells, ftLen, eE.out, Bs]
  have hK : ∀ W, Calls Try.prog 22 #[.string (Bs (l.take n))] W fun e w' => e = .returned (.bool (canon (l.take n))) ∧ w' = W := isCanonical_any _ (by rw [← hn]; exact int_take_cut (by omega))
  have hs3 := slTo l n hnle
  have hs4 := slFrom l n hnle
  have hmd : (l.drop n).length ≤ 1000000 := by simp; omega
  have HP := parseInt_any (l.take n) (by simp; omega)
  have p6 : ((n : Int) == 0) = false := by simp; omega
  obtain ⟨k, hk⟩ : ∃ k, identLen (l.drop n) = k := ⟨_, rfl⟩
  have hne : ¬ (n : Int) = 0 := by omega
  by_cases p7 : canon (l.take n) = false
  · have eE : Hid (tokE l = 3) := by show _ = _; simp [tokE, p1', hmn, hn, p5, p7]
    rw [p7] at hK
    clear p1' hmn HI hn p7
    go_enter Try.func15, Try.ntmps15
    go_wp2_with (first | (go_at_call 20; refine (isPunct_any _ _).mono ?_; rintro en w' ⟨rfl, rfl⟩) | (go_at_call 19; refine (HI1 _).mono ?_; rintro en w' ⟨rfl, hb⟩; replace HB := hide (bel HB.out HR.out hb); replace HR := hide (HR.out.below' hb); clear c0 c1 c2 c3 f0 f1 f2 f3; obtain ⟨c0, c1, c2, c3, f0, f1, f2, f3⟩ := cells4 HR.out) | (go_at_call 21; refine (HT _).mono ?_; rintro en w' ⟨rfl, hb⟩; replace HB := hide (bel HB.out HR.out hb); replace HR := hide (HR.out.below' hb); clear c0 c1 c2 c3 f0 f1 f2 f3; obtain ⟨c0, c1, c2, c3, f0, f1, f2, f3⟩ := cells4 HR.out) | (go_at_call 22; refine (hK _).mono ?_; rintro en w' ⟨rfl, rfl⟩))
    refine bodyPost_ret (v := .tuple #[.agg (ftCells l), .int .i64 (ftLen l), .int .i64 (tokE l)]) ?_ rfl ⟨rfl, by rw [hq]; exact below4 HB.out _ _ _ _⟩
    simp [results, Try.f15, go_sem, c0, c1, c2, c3, ftCells, ftLen, eE.out, Bs]
  have p7' : canon (l.take n) = true := by simpa using p7
  rw [p7'] at hK
  clear p7
  by_cases p8 : 0 < k
  · have eE : Hid (tokE l = 3) := by show _ = _; simp [tokE, p1', hmn, hn, p5, hk, p8]
    clear p1' hn p7' HI1
    go_enter Try.func15, Try.ntmps15
    go_wp2_with (first | (go_at_call 20; refine (isPunct_any _ _).mono ?_; rintro en w' ⟨rfl, rfl⟩) | (go_at_call 19; refine (HI _ (by assumption) _).mono ?_; rintro en w' ⟨rfl, hb⟩; replace HB := hide (bel HB.out HR.out hb); replace HR := hide (HR.out.below' hb); clear c0 c1 c2 c3 f0 f1 f2 f3; obtain ⟨c0, c1, c2, c3, f0, f1, f2, f3⟩ := cells4 HR.out) | (go_at_call 21; refine (HT _).mono ?_; rintro en w' ⟨rfl, hb⟩; replace HB := hide (bel HB.out HR.out hb); replace HR := hide (HR.out.below' hb); clear c0 c1 c2 c3 f0 f1 f2 f3; obtain ⟨c0, c1, c2, c3, f0, f1, f2, f3⟩ := cells4 HR.out) | (go_at_call 22; refine (hK _).mono ?_; rintro en w' ⟨rfl, rfl⟩) | (go_at_call 23; refine (HP _).mono ?_; rintro en w' ⟨rfl, hb⟩; replace HB := hide (bel HB.out HR.out hb); replace HR := hide (HR.out.below' hb); clear c0 c1 c2 c3 f0 f1 f2 f3; obtain ⟨c0, c1, c2, c3, f0, f1, f2, f3⟩ := cells4 HR.out))
    refine bodyPost_ret (v := .tuple #[.agg (ftCells l), .int .i64 (ftLen l), .int .i64 (tokE l)]) ?_ rfl ⟨rfl, by rw [hq]; exact below4 HB.out _ _ _ _⟩
    simp [results, Try.f15, go_sem, c0, c1, c2, c3, ftCells, ftLen, eE.out, Bs]
  obtain rfl : k = 0 := by omega
  clear p8
  by_cases p9 : parseOk (l.take n) = false
  · have eE : Hid (tokE l = 10) := by show _ = _; simp [tokE, p1', hmn, hn, p5, hk, p7', p9]
    rw [p9] at HP
    clear p1' hn p7' p9 HI1
    go_enter Try.func15, Try.ntmps15
    go_wp2_with (first | (go_at_call 20; refine (isPunct_any _ _).mono ?_; rintro en w' ⟨rfl, rfl⟩) | (go_at_call 19; refine (HI _ (by assumption) _).mono ?_; rintro en w' ⟨rfl, hb⟩; replace HB := hide (bel HB.out HR.out hb); replace HR := hide (HR.out.below' hb); clear c0 c1 c2 c3 f0 f1 f2 f3; obtain ⟨c0, c1, c2, c3, f0, f1, f2, f3⟩ := cells4 HR.out) | (go_at_call 21; refine (HT _).mono ?_; rintro en w' ⟨rfl, hb⟩; replace HB := hide (bel HB.out HR.out hb); replace HR := hide (HR.out.below' hb); clear c0 c1 c2 c3 f0 f1 f2 f3; obtain ⟨c0, c1, c2, c3, f0, f1, f2, f3⟩ := cells4 HR.out) | (go_at_call 22; refine (hK _).mono ?_; rintro en w' ⟨rfl, rfl⟩) | (go_at_call 23; refine (HP _).mono ?_; rintro en w' ⟨rfl, hb⟩; replace HB := hide (bel HB.out HR.out hb); replace HR := hide (HR.out.below' hb); clear c0 c1 c2 c3 f0 f1 f2 f3; obtain ⟨c0, c1, c2, c3, f0, f1, f2, f3⟩ := cells4 HR.out))
    refine bodyPost_ret (v := .tuple #[.agg (ftCells l), .int .i64 (ftLen l), .int .i64 (tokE l)]) ?_ rfl ⟨rfl, by rw [hq]; exact below4 HB.out _ _ _ _⟩
    simp [results, Try.f15, go_sem, c0, c1, c2, c3, ftCells, ftLen, eE.out, Bs]
  have p9' : parseOk (l.take n) = true := by simpa using p9
  rw [p9'] at HP
  have e0 : Hid (tokE l = 0) := by show _ = _; simp [tokE, p1', hmn, hn, p5, hk, p7', p9']
  have eK : Hid (tokK l = 2) := by show _ = _; simp [tokK, p1', hmn]
  have eN : Hid (tokN l = parseI (l.take n)) := by show _ = _; simp [tokN, p1', hmn, hn]
  have eT : Hid (tokT l = []) := by show _ = _; simp [tokT, p1', hmn]
  have eL : Hid (tokLen l = n) := by show _ = _; simp [tokLen, p1', hmn, hn]
  clear p1' hn p7' p9 p9' HI1
  go_enter Try.func15, Try.ntmps15
  go_wp2_with (first | (go_at_call 20; refine (isPunct_any _ _).mono ?_; rintro en w' ⟨rfl, rfl⟩) | (go_at_call 19; refine (HI _ (by assumption) _).mono ?_; rintro en w' ⟨rfl, hb⟩; replace HB := hide (bel HB.out HR.out hb); replace HR := hide (HR.out.below' hb); clear c0 c1 c2 c3 f0 f1 f2 f3; obtain ⟨c0, c1, c2, c3, f0, f1, f2, f3⟩ := cells4 HR.out) | (go_at_call 21; refine (HT _).mono ?_; rintro en w' ⟨rfl, hb⟩; replace HB := hide (bel HB.out HR.out hb); replace HR := hide (HR.out.below' hb); clear c0 c1 c2 c3 f0 f1 f2 f3; obtain ⟨c0, c1, c2, c3, f0, f1, f2, f3⟩ := cells4 HR.out) | (go_at_call 22; refine (hK _).mono ?_; rintro en w' ⟨rfl, rfl⟩) | (go_at_call 23; refine (HP _).mono ?_; rintro en w' ⟨rfl, hb⟩; replace HB := hide (bel HB.out HR.out hb); replace HR := hide (HR.out.below' hb); clear c0 c1 c2 c3 f0 f1 f2 f3; obtain ⟨c0, c1, c2, c3, f0, f1, f2, f3⟩ := cells4 HR.out))
  refine bodyPost_ret (v := .tuple #[.agg (ftCells l), .int .i64 (ftLen l), .int .i64 (tokE l)]) ?_ rfl ⟨rfl, by rw [hq]; exact below4 HB.out _ _ _ _⟩
  simp [results, Try.f15, go_sem, c0, c1, c2, c3, ftCells, ftLen, e0.out, eK.out, eN.out, eT.out, eL.out, Bs]
end Go.Proofs.Ytijibieeajakoaa

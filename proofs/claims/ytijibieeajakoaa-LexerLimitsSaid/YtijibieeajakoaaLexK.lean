/-
  Layer 13 (lexer): the reference's next at any offset.
-/
import Derived.Test.YtijibieeajakoaaLexJ
namespace Go.Proofs.Ytijibieeajakoaa
open Go.RowKit

def nxCells (L : List UInt8) (i : Nat) : Array Value := if tokE L = 0 then #[.int .i64 (tokK L), .int .i64 (i : Int), .int .i64 (tokN L), .string (Bs (tokT L))] else #[.int .i64 0, .int .i64 0, .int .i64 0, .string (Bs [])]
theorem endP_true : endP true = idc := by funext c; simp [endP, idc]
theorem endP_false : endP false = isDig := by funext c; simp [endP]
/-- At a digit, or a minus sign ahead of one. -/
theorem int_front {c : UInt8} {r : List UInt8} (hl : isLet c = false) (h : isDig c = true ∨ (c.toNat = 45 ∧ headIs isDig r = true)) :
    headIs isPu (c :: r) = false ∧ identLen (c :: r) = 0 ∧ intLen (c :: r) = 1 + span isDig r := by
  have hid : identLen (c :: r) = 0 := by unfold identLen headIs; simp [hl]
  rcases h with h | ⟨h, hr⟩
  · have hn := dig_num h
    refine ⟨by unfold headIs isPu; simp; omega, hid, ?_⟩
    have hmi : minus (c :: r) = false := by unfold minus headIs; simp; omega
    have hc : cut (c :: r) = c :: r := by unfold cut; rw [hmi]; rfl
    unfold intLen digLen
    rw [hc, hmi, span_cons, h]
    simp; omega
  · refine ⟨by unfold headIs isPu; simp; omega, hid, ?_⟩
    have hmi : minus (c :: r) = true := by unfold minus headIs; simp; omega
    have hc : cut (c :: r) = r := by unfold cut; rw [hmi]; rfl
    unfold intLen digLen
    rw [hc, hmi]
    cases r with
    | nil => simp [headIs] at hr
    | cons d q =>
      have hd : isDig d = true := hr
      rw [span_cons, hd]
      simp; omega
theorem int_none {c : UInt8} {r : List UInt8} (hl : isLet c = false) (hd : isDig c = false) (hp : isPu c = false) (h : ¬ (c.toNat = 45 ∧ headIs isDig r = true)) : tokE (c :: r) = 12 := by
  have hid : identLen (c :: r) = 0 := by unfold identLen headIs; simp [hl]
  have hpu : headIs isPu (c :: r) = false := hp
  have hint : intLen (c :: r) = 0 := by
    by_cases h45 : c.toNat = 45
    · have hmi : minus (c :: r) = true := by unfold minus headIs; simp; omega
      have hc : cut (c :: r) = r := by unfold cut; rw [hmi]; rfl
      have h0 : span isDig r = 0 := by
        cases r with
        | nil => rfl
        | cons d q =>
          have : isDig d = false := by
            cases hx : isDig d with
            | false => rfl
            | true => exact absurd ⟨h45, hx⟩ h
          rw [span_cons, this]; rfl
      unfold intLen digLen
      rw [hc, h0]; rfl
    · have hmi : minus (c :: r) = false := by unfold minus headIs; simp; omega
      have hc : cut (c :: r) = c :: r := by unfold cut; rw [hmi]; rfl
      unfold intLen digLen
      rw [hc, hmi, span_cons, hd]; rfl
  simp [tokE, hpu, hid, hint]

theorem num_tok {L : List UInt8} {f : Bool} (hp : headIs isPu L = false) (hi : identLen L = 0) (hn : intLen L ≠ 0) (hf : f = headIs isLet (L.drop (intLen L))) :
    numE (L.take (intLen L)) f = tokE L ∧ (∀ i, numCells i (L.take (intLen L)) f = nxCells L i) ∧ tokLen L = intLen L := by
  have hpos : (0 < identLen (L.drop (intLen L))) ↔ f = true := by
    rw [hf]; unfold identLen
    cases h : L.drop (intLen L) with
    | nil => simp [headIs]
    | cons c r =>
      simp only [headIs]
      by_cases hc : isLet c = true
      · simp [hc, span_cons, let_idc hc]
      · simp [hc]
  have hE : numE (L.take (intLen L)) f = tokE L := by
    unfold numE tokE
    simp [hp, hi, hn, hpos]
  refine ⟨hE, fun i => ?_, ?_⟩
  · unfold numCells nxCells
    rw [hE]
    split
    · simp [tokK, tokN, tokT, hp, hi]
    · rfl
  · simp [tokLen, hp, hi]

theorem next_any (l : List UInt8) (i : Nat) (c : UInt8) (hc : l[i]? = some c) (hm : l.length ≤ 900000) (w : World) : Calls Try.prog 16 #[.string (Bs l), .int .i64 (i : Int)] w fun e w' =>
    ∃ kk : Int, e = .returned (.tuple #[.agg (nxCells (l.drop i) i), .int .i64 kk, .int .i64 (tokE (l.drop i))]) ∧ (tokE (l.drop i) = 0 → kk = (i + tokLen (l.drop i) : Nat)) ∧ Below w.heap.size w w' := by
  have hlt := (List.getElem?_eq_some_iff.1 hc).1
  have hlen := lenS l (by unfold maxLen; omega)
  have hix := ix l i c hc
  have hL := drop_at hc
  obtain ⟨r, hr⟩ : ∃ r, l.drop (i + 1) = r := ⟨_, rfl⟩
  rw [hr] at hL
  have fin : ∀ {kk : Int} {C : Array Value} {E : Int}, C = nxCells (l.drop i) i → E = tokE (l.drop i) → (tokE (l.drop i) = 0 → kk = (i + tokLen (l.drop i) : Nat)) →
      Calls Try.prog 16 #[.string (Bs l), .int .i64 (i : Int)] w (fun e w' => e = .returned (.tuple #[.agg C, .int .i64 kk, .int .i64 E]) ∧ Below w.heap.size w w') →
      Calls Try.prog 16 #[.string (Bs l), .int .i64 (i : Int)] w fun e w' =>
        ∃ kk : Int, e = .returned (.tuple #[.agg (nxCells (l.drop i) i), .int .i64 kk, .int .i64 (tokE (l.drop i))]) ∧ (tokE (l.drop i) = 0 → kk = (i + tokLen (l.drop i) : Nat)) ∧ Below w.heap.size w w' := by
    rintro kk C E rfl rfl h3 hcall
    exact hcall.mono fun e w' ⟨a, b⟩ => ⟨kk, a, h3, b⟩
  by_cases hlet : isLet c = true
  · have hpu : headIs isPu (l.drop i) = false := by
      rw [hL]; unfold headIs isPu; unfold isLet letZ at hlet; simp at hlet ⊢; omega
    obtain ⟨m, hmn⟩ : ∃ m, identLen (l.drop i) = m := ⟨_, rfl⟩
    have hsp : span idc (l.drop i) = m := by rw [← hmn, hL]; unfold identLen headIs; rw [if_pos hlet]
    have hmle : m ≤ (l.drop i).length := by rw [← hmn]; exact identLen_le _
    have hmp : 0 < m := by rw [← hsp, hL, span_cons, let_idc hlet]; simp
    rw [List.length_drop] at hmle
    have hE : ∀ W, Calls Try.prog 25 #[.string (Bs l), .int .i64 (i : Int), .bool true] W fun e w' => e = .returned (.int .i64 ((i + m : Nat) : Int)) ∧ w' = W := fun W => by
      have := end_any l i true (by omega) (by omega) W
      rw [endP_true, hsp] at this
      exact this
    by_cases h24 : 24 < m
    · exact fin (by simp [nxCells, tokE, hpu, hmn, h24]) (by simp [tokE, hpu, hmn, h24]) (by simp [tokE, hpu, hmn, h24]) (next_long l i _ hlen hlt (by omega) hix hlet (i + m) hE (by omega) (by omega) (by omega) w)
    · have hE0 : tokE (l.drop i) = 0 := by simp [tokE, hpu, hmn, h24, hmp]
      have hsl := slMid l i (i + m) (by omega) (by omega)
      rw [show i + m - i = m by omega] at hsl
      exact fin (by simp [nxCells, hE0, tokK, tokN, tokT, hpu, hmn, hmp]) hE0.symm (fun _ => by simp [tokLen, hpu, hmn, hmp]) (next_word l i _ hlen hlt (by omega) hix hlet (i + m) hE (by omega) (by omega) (by omega) _ hsl w)
  have hl' : isLet c = false := by simpa using hlet
  -- a number
  have number : ∀ (hfr : isDig c = true ∨ (c.toNat = 45 ∧ headIs isDig r = true)),
      (∀ (k : Nat) (hE : ∀ W, Calls Try.prog 25 #[.string (Bs l), .int .i64 ((i : Int) + 1), .bool false] W fun e w' => e = .returned (.int .i64 (k : Int)) ∧ w' = W)
        (na nb nc ne : Int) (ns : ByteArray) (hN : ∀ W, Calls Try.prog 27 #[.string (Bs l), .int .i64 (i : Int), .int .i64 (k : Int)] W fun e w' => e = .returned (.tuple #[.agg #[.int .i64 na, .int .i64 nb, .int .i64 nc, .string ns], .int .i64 ne]) ∧ Below W.heap.size W w'),
        Calls Try.prog 16 #[.string (Bs l), .int .i64 (i : Int)] w (fun e w' => e = .returned (.tuple #[.agg #[.int .i64 na, .int .i64 nb, .int .i64 nc, .string ns], .int .i64 (k : Int), .int .i64 ne]) ∧ Below w.heap.size w w')) →
      Calls Try.prog 16 #[.string (Bs l), .int .i64 (i : Int)] w fun e w' =>
        ∃ kk : Int, e = .returned (.tuple #[.agg (nxCells (l.drop i) i), .int .i64 kk, .int .i64 (tokE (l.drop i))]) ∧ (tokE (l.drop i) = 0 → kk = (i + tokLen (l.drop i) : Nat)) ∧ Below w.heap.size w w' := by
    intro hfr walk
    obtain ⟨hpu, hid, hin⟩ := int_front hl' hfr
    rw [← hL] at hpu hid hin
    obtain ⟨n, hn⟩ : ∃ n, intLen (l.drop i) = n := ⟨_, rfl⟩
    have hnl : n ≤ (l.drop i).length := by rw [← hn]; exact intLen_le _
    rw [List.length_drop] at hnl
    have hn0 : intLen (l.drop i) ≠ 0 := by omega
    have hE : ∀ W, Calls Try.prog 25 #[.string (Bs l), .int .i64 ((i : Int) + 1), .bool false] W fun e w' => e = .returned (.int .i64 ((i + n : Nat) : Int)) ∧ w' = W := fun W => by
      have := end_any l (i + 1) false (by omega) (by omega) W
      rw [endP_false, hr, show i + 1 + span isDig r = i + n by omega] at this
      exact this
    obtain ⟨e1, e2, e3⟩ := num_tok (f := follows l (i + n)) hpu hid hn0 (by unfold follows; rw [hn, List.drop_drop])
    have hN := number_any l i (i + n) ((l.drop i).take n) (by rw [show i + n - i = n by omega]) (by omega) (by omega) hm (by rw [← hn]; exact int_take_cut hn0)
    rw [hn] at e1 e2 e3
    rw [e1, e2] at hN
    unfold nxCells at hN
    by_cases h0 : tokE (l.drop i) = 0
    · simp only [if_pos h0] at hN
      exact fin (by unfold nxCells; rw [if_pos h0]) rfl (fun _ => by rw [e3]) (walk (i + n) hE _ _ _ _ _ hN)
    · simp only [if_neg h0] at hN
      exact fin (by unfold nxCells; rw [if_neg h0]) rfl (fun h => absurd h h0) (walk (i + n) hE _ _ _ _ _ hN)
  by_cases hdig : isDig c = true
  · exact number (.inl hdig) fun k hE na nb nc ne ns hN => next_digit l i _ hlen hlt (by omega) hix hl' hdig k hE na nb nc ne ns hN w
  have hd' : isDig c = false := by simpa using hdig
  by_cases h45 : c.toNat = 45
  · have h45' : (c.toNat : Int) = 45 := by omega
    have hp' : isPu c = false := by unfold isPu; simp; omega
    rcases Nat.lt_or_ge (i + 1) l.length with h1 | h1
    · obtain ⟨d, hd⟩ : ∃ d, l[i + 1]? = some d := ⟨_, List.getElem?_eq_getElem h1⟩
      have hix1 := ix l (i + 1) d hd
      have hrd : headIs isDig r = isDig d := by rw [← hr, drop_at hd]; rfl
      by_cases hdd : isDig d = true
      · exact number (.inr ⟨h45, by rw [hrd]; exact hdd⟩) fun k hE na nb nc ne ns hN => next_minus l i _ hlen hlt (by omega) hix hl' hd' h45' (by omega) _ hix1 hdd k hE na nb nc ne ns hN w
      · have hdd' : isDig d = false := by simpa using hdd
        have h12 : tokE (l.drop i) = 12 := by rw [hL]; exact int_none hl' hd' hp' (by rw [hrd]; rintro ⟨_, h⟩; exact hdd h)
        exact fin (by simp [nxCells, h12]) h12.symm (by simp [h12]) (next_minusNo l i _ hlen hlt (by omega) hix hl' hd' h45' (by omega) _ hix1 hdd' w)
    · have h12 : tokE (l.drop i) = 12 := by
        rw [hL]; refine int_none hl' hd' hp' ?_
        rw [← hr, List.drop_of_length_le h1]
        rintro ⟨_, h⟩; simp [headIs] at h
      exact fin (by simp [nxCells, h12]) h12.symm (by simp [h12]) (next_minusEnd l i _ hlen hlt (by omega) hix hl' hd' h45' (by omega) w)
  by_cases hp : isPu c = true
  · have hpu : headIs isPu (l.drop i) = true := by rw [hL]; exact hp
    have hE0 : tokE (l.drop i) = 0 := by simp [tokE, hpu]
    have hsl := slMid l i (i + 1) (by omega) (by omega)
    rw [show i + 1 - i = 1 by omega] at hsl
    have hC : (#[.int .i64 3, .int .i64 (i : Int), .int .i64 0, .string (Bs ((l.drop i).take 1))] : Array Value) = nxCells (l.drop i) i := by simp [nxCells, hE0, tokK, tokN, tokT, hpu]
    have hk : tokE (l.drop i) = 0 → ((i : Int) + 1) = (i + tokLen (l.drop i) : Nat) := fun _ => by simp [tokLen, hpu]
    have hcs : (c.toNat : Int) = 40 ∨ (c.toNat : Int) = 41 ∨ (c.toNat : Int) = 61 := by unfold isPu at hp; simpa [or_assoc] using hp
    rcases hcs with h | h | h
    · exact fin hC hE0.symm hk (next_p40 l i _ hlen hlt (by omega) hix h _ hsl w)
    · exact fin hC hE0.symm hk (next_p41 l i _ hlen hlt (by omega) hix h _ hsl w)
    · exact fin hC hE0.symm hk (next_p61 l i _ hlen hlt (by omega) hix h _ hsl w)
  · have hp' : isPu c = false := by simpa using hp
    have h12 : tokE (l.drop i) = 12 := by rw [hL]; exact int_none hl' hd' hp' (by rintro ⟨h, _⟩; exact h45 h)
    unfold isPu at hp'
    simp only [Bool.or_eq_false_iff, decide_eq_false_iff_not] at hp'
    exact fin (by simp [nxCells, h12]) h12.symm (by simp [h12]) (next_none l i _ hlen hlt (by omega) hix hl' hd' (by simp; omega) (by simp; omega) (by simp; omega) (by simp; omega) w)
end Go.Proofs.Ytijibieeajakoaa

/-
  Layer 13 (lexer): a token alone and ahead of a blank; the scan of joined tokens. No program is named here.
-/
import Derived.Test.YtijibieeajakoaaLexT
import Derived.Test.YtijibieeajakoaaLexK
namespace Go.Proofs.Ytijibieeajakoaa
open Go.RowKit

theorem span_ext (p : UInt8 → Bool) (hp : p 32 = false) (r : List UInt8) : ∀ L : List UInt8, span p (L ++ 32 :: r) = span p L
  | [] => by rw [List.nil_append, span_cons, hp]; rfl
  | c :: q => by rw [List.cons_append, span_cons, span_cons, span_ext p hp r q]
theorem headIs_ext (p : UInt8 → Bool) {L : List UInt8} (h : L ≠ []) (r : List UInt8) : headIs p (L ++ r) = headIs p L := by
  cases L with
  | nil => exact absurd rfl h
  | cons c q => rfl
theorem identLen_ext {L : List UInt8} (h : L ≠ []) (r : List UInt8) : identLen (L ++ 32 :: r) = identLen L := by
  unfold identLen; rw [headIs_ext _ h, span_ext _ rfl]
theorem cut_ext {L : List UInt8} (h : L ≠ []) (r : List UInt8) : cut (L ++ r) = cut L ++ r := by
  unfold cut minus
  rw [headIs_ext _ h]
  split
  · cases L with
    | nil => exact absurd rfl h
    | cons c q => rfl
  · rfl
theorem intLen_ext {L : List UInt8} (h : L ≠ []) (r : List UInt8) : intLen (L ++ 32 :: r) = intLen L := by
  unfold intLen digLen
  rw [cut_ext h, span_ext _ rfl]
  unfold minus
  rw [headIs_ext _ h]
theorem after_ext (L : List UInt8) (n : Nat) (hn : n ≤ L.length) (r : List UInt8) : (0 < identLen ((L ++ 32 :: r).drop n)) ↔ 0 < identLen (L.drop n) := by
  rw [List.drop_append_of_le_length hn]
  by_cases h : L.drop n = []
  · rw [h, List.nil_append]
    simp [identLen, headIs, isLet, letZ]
  · rw [identLen_ext h]
structure SameTok (L M : List UInt8) : Prop where
  e : tokE L = tokE M
  l : tokLen L = tokLen M
  k : tokK L = tokK M
  n : tokN L = tokN M
  t : tokT L = tokT M
/-- A blank behind changes no token. -/
theorem tok_ext {L : List UInt8} (h : L ≠ []) (r : List UInt8) : SameTok (L ++ 32 :: r) L := by
  have h1 := headIs_ext isPu h (32 :: r)
  have h2 := identLen_ext h r
  have h3 := intLen_ext h r
  have h4 : (L ++ 32 :: r).take (intLen L) = L.take (intLen L) := List.take_append_of_le_length (intLen_le L)
  have h5 : (L ++ 32 :: r).take (identLen L) = L.take (identLen L) := List.take_append_of_le_length (identLen_le L)
  have h6 : (L ++ 32 :: r).take 1 = L.take 1 := by
    cases L with
    | nil => exact absurd rfl h
    | cons c q => rfl
  have h7 := after_ext L (intLen L) (intLen_le L) r
  constructor
  · unfold tokE; simp only [h1, h2, h3, h4, h7]
  · unfold tokLen; simp only [h1, h2, h3]
  · unfold tokK; simp only [h1, h2]
  · unfold tokN; simp only [h1, h2, h3, h4]
  · unfold tokT; simp only [h1, h2, h5, h6]
theorem headIs_take (p : UInt8 → Bool) {L : List UInt8} {n : Nat} (h : 0 < n) : headIs p (L.take n) = headIs p L := by
  obtain ⟨k, rfl⟩ : ∃ k, n = k + 1 := ⟨n - 1, by omega⟩
  cases L <;> rfl
/-- A token alone. -/
theorem tok_take {L : List UInt8} (h : tokE L = 0) : SameTok (L.take (tokLen L)) L := by
  by_cases hp : headIs isPu L = true
  · have hl : tokLen L = 1 := by simp [tokLen, hp]
    have hp2 : headIs isPu (L.take 1) = true := by rw [headIs_take _ (by omega)]; exact hp
    rw [hl]
    constructor
    · rw [h]; simp [tokE, hp2]
    · rw [hl]; simp [tokLen, hp2]
    · simp [tokK, hp, hp2]
    · simp [tokN, hp, hp2]
    · simp [tokT, hp, hp2, List.take_take]
  have hp' : headIs isPu L = false := by simpa using hp
  by_cases hi : 0 < identLen L
  · have hl : tokLen L = identLen L := by simp [tokLen, hp', hi]
    have hp2 : headIs isPu (L.take (identLen L)) = false := by rw [headIs_take _ hi]; exact hp'
    have hle : headIs isLet L = true := by
      unfold identLen at hi
      by_cases h2 : headIs isLet L = true
      · exact h2
      · rw [if_neg h2] at hi; omega
    have hid : identLen L = span idc L := by unfold identLen; rw [if_pos hle]
    have hi2 : identLen (L.take (identLen L)) = identLen L := by
      rw [hid]
      unfold identLen
      rw [headIs_take _ (by rw [← hid]; exact hi), hle, if_pos rfl, span_take]
    have hE : ¬ 24 < identLen L := by
      intro h24; simp [tokE, hp', h24] at h
    rw [hl]
    constructor
    · rw [h]; simp [tokE, hp2, hi2, hE, hi]
    · rw [hl]; simp [tokLen, hp2, hi2, hi]
    · simp [tokK, hp', hp2, hi2, hi]
    · simp [tokN, hp', hp2, hi2, hi]
    · simp only [tokT, hp', hp2, hi2, hi, if_true, Bool.false_eq_true, if_false]
      rw [List.take_take, Nat.min_self]
  have hi' : identLen L = 0 := by omega
  have hn : intLen L ≠ 0 := by
    intro h0; simp [tokE, hp', hi', h0] at h
  have hl : tokLen L = intLen L := by simp [tokLen, hp', hi']
  obtain ⟨t1, t2⟩ := int_take hn
  have hp2 : headIs isPu (L.take (intLen L)) = false := by rw [headIs_take _ (by omega)]; exact hp'
  have hle : headIs isLet L = false := by
    by_cases h2 : headIs isLet L = true
    · cases L with
      | nil => simp [headIs] at h2
      | cons c q =>
        have hc : isLet c = true := h2
        unfold identLen at hi'
        rw [if_pos h2, span_cons, let_idc hc] at hi'
        simp at hi'
    · simpa using h2
  have hi2 : identLen (L.take (intLen L)) = 0 := by
    unfold identLen; rw [headIs_take _ (by omega), hle]; rfl
  have htt : (L.take (intLen L)).take (intLen L) = L.take (intLen L) := by rw [List.take_take, Nat.min_self]
  have hdd : (L.take (intLen L)).drop (intLen L) = [] := by rw [List.drop_eq_nil_iff]; omega
  have hE : ¬ (canon (L.take (intLen L)) = false) ∧ parseOk (L.take (intLen L)) = true := by
    have h' := h
    unfold tokE at h'
    simp only [hp', hi', hn, Bool.false_eq_true, if_false, Nat.lt_irrefl, show ¬ 24 < 0 by omega] at h'
    split at h'
    · omega
    · rename_i h2
      split at h'
      · rename_i h3; exact ⟨fun h4 => h2 (.inl h4), h3⟩
      · omega
  have hid0 : identLen [] = 0 := rfl
  rw [hl]
  constructor
  · rw [h]; unfold tokE
    simp only [hp2, hi2, t1, hn, htt, hdd, hid0, Bool.false_eq_true, if_false, Nat.lt_irrefl, show ¬ 24 < 0 by omega, or_false, hE.1, hE.2, if_true]
    simp
  · rw [hl]; simp [tokLen, hp2, hi2, t1]
  · simp [tokK, hp', hp2, hi2, hi']
  · simp only [tokN, hp', hp2, hi2, hi', t1, htt, Bool.false_eq_true, if_false, Nat.lt_irrefl]
  · simp [tokT, hp', hp2, hi2, hi']

/-- A token's text in a joined text. -/
def piece (t : Tok) : List UInt8 := if t.kind = 2 then fmtZ t.n else t.text
theorem piece_at {L : List UInt8} (h : tokE L = 0) (i : Nat) : piece (tokAt L i) = L.take (tokLen L) := by
  by_cases hp : headIs isPu L = true
  · simp [piece, tokAt, tokK, tokT, tokLen, hp]
  have hp' : headIs isPu L = false := by simpa using hp
  by_cases hi : 0 < identLen L
  · simp [piece, tokAt, tokK, tokT, tokLen, hp', hi]
  have hi' : identLen L = 0 := by omega
  have hok : parseOk (L.take (intLen L)) = true := by
    unfold tokE at h
    simp only [hp', hi', Bool.false_eq_true, if_false, Nat.lt_irrefl, show ¬ 24 < 0 by omega] at h
    split at h
    · omega
    · split at h
      · omega
      · split at h
        · assumption
        · omega
  have : tokN L = parseI (L.take (intLen L)) := by simp [tokN, hp', hi']
  simp only [piece, tokAt, tokK, tokLen, hp', hi', Bool.false_eq_true, if_false, Nat.lt_irrefl, if_true, this, fmt_parse hok]
theorem tokK_some (L : List UInt8) : tokK L = 1 ∨ tokK L = 2 ∨ tokK L = 3 := by
  unfold tokK; split
  · simp
  · split <;> simp

def joinL : List Tok → List UInt8
  | [] => []
  | [t] => piece t
  | t :: u :: r => piece t ++ 32 :: joinL (u :: r)
theorem joinL_cons (t : Tok) (r : List Tok) : joinL (t :: r) = if r = [] then piece t else piece t ++ 32 :: joinL r := by
  cases r <;> simp [joinL]
def TEq (t u : Tok) : Prop := t.kind = u.kind ∧ t.n = u.n ∧ t.text = u.text
def TsEq : List Tok → List Tok → Prop
  | [], [] => True
  | t :: r, u :: s => TEq t u ∧ TsEq r s
  | _, _ => False
theorem scan_nil (m i k : Nat) : scan m [] i k = ([], 0, 0) := by cases m <;> rfl

theorem scan_join : ∀ (n : Nat) (L : List UInt8) (i k : Nat), (scan n L i k).2.2 = 0 → ∀ m i', (joinL (scan n L i k).1).length ≤ m →
    (scan m (joinL (scan n L i k).1) i' k).2.2 = 0 ∧ TsEq (scan n L i k).1 (scan m (joinL (scan n L i k).1) i' k).1
  | 0, _, i, k, _, m, i', _ => by simp [scan, joinL, scan_nil, TsEq]
  | _ + 1, [], i, k, _, m, i', _ => by simp [scan, joinL, scan_nil, TsEq]
  | n + 1, c :: r, i, k, h, m, i', hm => by
    by_cases hb : isBl c = true
    · have e : scan (n + 1) (c :: r) i k = scan n r (i + 1) k := by rw [scan, if_pos hb]
      rw [e] at h hm ⊢
      exact scan_join n r (i + 1) k h m i' hm
    have hk : ¬ k = 20000 := by
      intro hk; rw [scan, if_neg hb, if_pos hk] at h; simp at h
    have he : tokE (c :: r) = 0 := by
      by_cases he : tokE (c :: r) = 0
      · exact he
      · rw [scan, if_neg hb, if_neg hk, if_neg he] at h; exact absurd h he
    obtain ⟨X, hX⟩ : ∃ X, scan n ((c :: r).drop (tokLen (c :: r))) (i + tokLen (c :: r)) (k + 1) = X := ⟨_, rfl⟩
    have hx0 : X.2.2 = 0 := by
      rw [scan, if_neg hb, if_neg hk, if_pos he] at h
      simp only [hX] at h
      split at h
      · assumption
      · exact h
    have e : (scan (n + 1) (c :: r) i k).1 = tokAt (c :: r) i :: X.1 := by
      rw [scan, if_neg hb, if_neg hk, if_pos he]
      simp only [hX, if_pos hx0]
    rw [e] at hm ⊢
    obtain ⟨q, hq⟩ : ∃ q, (c :: r).take (tokLen (c :: r)) = q := ⟨_, rfl⟩
    have hlen := tokLen_pos he
    have hql : q.length = tokLen (c :: r) := by rw [← hq, List.length_take]; have := tokLen_le (l := c :: r) (by simp); omega
    obtain ⟨q', hq'⟩ : ∃ q', q = c :: q' := by
      obtain ⟨j, hj⟩ : ∃ j, tokLen (c :: r) = j + 1 := ⟨tokLen (c :: r) - 1, by omega⟩
      rw [hj] at hq
      exact ⟨r.take j, by rw [← hq]; rfl⟩
    have hqn : q ≠ [] := by rw [hq']; simp
    have hpi : piece (tokAt (c :: r) i) = q := by rw [piece_at he, hq]
    have hst : SameTok q (c :: r) := hq ▸ tok_take he
    have IH := scan_join n ((c :: r).drop (tokLen (c :: r))) (i + tokLen (c :: r)) (k + 1) (by rw [hX]; exact hx0)
    rw [hX] at IH
    rw [joinL_cons, hpi] at hm ⊢
    -- one token ahead of what follows
    have key : ∀ (J : List UInt8) (m : Nat), (J = q ∨ ∃ R, J = q ++ 32 :: R) → J.length ≤ m → ∀ Y, scan (m - 1) (J.drop q.length) (i' + q.length) (k + 1) = Y → Y.2.2 = 0 →
        (scan m J i' k).2.2 = 0 ∧ ∃ u, TEq (tokAt (c :: r) i) u ∧ (scan m J i' k).1 = u :: Y.1 := by
      intro J m hJ hJm Y hY hy0
      have hsj : SameTok J q := by
        rcases hJ with rfl | ⟨R, rfl⟩
        · exact ⟨rfl, rfl, rfl, rfl, rfl⟩
        · exact tok_ext hqn R
      obtain ⟨J', hJ'⟩ : ∃ J', J = c :: J' := by
        rcases hJ with rfl | ⟨R, rfl⟩
        · exact ⟨q', hq'⟩
        · exact ⟨q' ++ 32 :: R, by rw [hq']; rfl⟩
      have hJp : 0 < J.length := by rw [hJ']; simp
      obtain ⟨m', rfl⟩ : ∃ m', m = m' + 1 := ⟨m - 1, by omega⟩
      have hEJ : tokE (c :: J') = 0 := by rw [← hJ', hsj.e, hst.e, he]
      have hLJ : tokLen (c :: J') = q.length := by rw [← hJ', hsj.l, hst.l, hql]
      rw [hJ'] at hY ⊢
      rw [scan, if_neg hb, if_neg hk, if_pos hEJ]
      simp only [hLJ, Nat.add_sub_cancel] at hY ⊢
      simp only [hY, if_pos hy0]
      refine ⟨hy0, _, ⟨?_, ?_, ?_⟩, rfl⟩
      · show tokK _ = tokK _; rw [← hJ', hsj.k, hst.k]
      · show tokN _ = tokN _; rw [← hJ', hsj.n, hst.n]
      · show tokT _ = tokT _; rw [← hJ', hsj.t, hst.t]
    by_cases hr : X.1 = []
    · rw [if_pos hr] at hm ⊢
      obtain ⟨a1, u, a2, a3⟩ := key q m (.inl rfl) hm ([], 0, 0) (by rw [List.drop_length, scan_nil]) rfl
      refine ⟨a1, ?_⟩
      rw [a3, hr]
      exact ⟨a2, trivial⟩
    · rw [if_neg hr] at hm ⊢
      have hml : q.length + (joinL X.1).length + 1 ≤ m := by simp at hm; omega
      have hqp : 0 < q.length := List.length_pos_iff.2 hqn
      obtain ⟨m', hm'⟩ : ∃ m', m - 1 = m' + 1 := ⟨m - 2, by omega⟩
      have IH2 := IH m' (i' + q.length + 1) (by omega)
      have hbl : isBl 32 = true := rfl
      obtain ⟨a1, u, a2, a3⟩ := key (q ++ 32 :: joinL X.1) m (.inr ⟨_, rfl⟩) hm _ (by rw [List.drop_left, hm', scan, if_pos hbl]) IH2.1
      refine ⟨a1, ?_⟩
      rw [a3]
      exact ⟨a2, IH2.2⟩

theorem join_len : ∀ (n : Nat) (L : List UInt8) (i k : Nat), (joinL (scan n L i k).1).length ≤ 2 * L.length
  | 0, _, i, k => by simp [scan, joinL]
  | _ + 1, [], i, k => by simp [scan, joinL]
  | n + 1, c :: r, i, k => by
    unfold scan
    split
    · have := join_len n r (i + 1) k
      simp; omega
    · split
      · simp [joinL]
      · split
        · rename_i he
          dsimp only
          split
          · have h1 := join_len n ((c :: r).drop (tokLen (c :: r))) (i + tokLen (c :: r)) (k + 1)
            have h2 := tokLen_pos he
            have h3 := tokLen_le (l := c :: r) (by simp)
            rw [joinL_cons, piece_at he]
            rw [List.length_drop] at h1
            split
            · simp only [List.length_take]; omega
            · simp only [List.length_append, List.length_take, List.length_cons] at h1 h3 ⊢; omega
          · simp [joinL]
        · simp [joinL]

/-- Offsets go up. -/
def Inc : Nat → List Tok → Prop
  | _, [] => True
  | lo, t :: r => lo ≤ t.off ∧ Inc (t.off + 1) r
theorem Inc.low {a b : Nat} (h : a ≤ b) : ∀ {ts : List Tok}, Inc b ts → Inc a ts
  | [], _ => trivial
  | _ :: _, hi => ⟨Nat.le_trans h hi.1, hi.2⟩
theorem scan_inc : ∀ (n : Nat) (L : List UInt8) (i k : Nat), Inc i (scan n L i k).1
  | 0, _, i, k => trivial
  | _ + 1, [], i, k => trivial
  | n + 1, c :: r, i, k => by
    unfold scan
    split
    · exact (scan_inc n r (i + 1) k).low (by omega)
    · split
      · trivial
      · split
        · rename_i he
          dsimp only
          split
          · refine ⟨Nat.le_refl _, ?_⟩
            have h2 := tokLen_pos he
            exact (scan_inc n _ (i + tokLen (c :: r)) (k + 1)).low (by show i + 1 ≤ _; omega)
          · trivial
        · trivial
theorem Inc.lt : ∀ {ts : List Tok} {lo : Nat}, Inc lo ts → ∀ j t u, ts[j]? = some t → ts[j + 1]? = some u → t.off < u.off
  | [], _, _, j, t, u, h, _ => by simp at h
  | [_], _, _, j, t, u, _, h => by simp at h
  | a :: b :: r, lo, hi, 0, t, u, h1, h2 => by
    simp at h1 h2; subst h1 h2
    exact hi.2.1
  | a :: b :: r, lo, hi, j + 1, t, u, h1, h2 => Inc.lt (ts := b :: r) hi.2 j t u (by simpa using h1) (by simpa using h2)
theorem TsEq.len : ∀ {ts us : List Tok}, TsEq ts us → ts.length = us.length
  | [], [], _ => rfl
  | _ :: _, _ :: _, h => by simp [TsEq.len h.2]
  | [], _ :: _, h => h.elim
  | _ :: _, [], h => h.elim
theorem TsEq.at : ∀ {ts us : List Tok}, TsEq ts us → ∀ (j : Nat) (t u : Tok), ts[j]? = some t → us[j]? = some u → TEq t u
  | [], [], _, _, _, _, h, _ => by simp at h
  | _ :: _, _ :: _, h, 0, _, _, h1, h2 => by simp at h1 h2; subst h1 h2; exact h.1
  | _ :: _, _ :: _, h, j + 1, t, u, h1, h2 => TsEq.at h.2 j t u (by simpa using h1) (by simpa using h2)
  | [], _ :: _, h, _, _, _, _, _ => h.elim
  | _ :: _, [], h, _, _, _, _, _ => h.elim
end Go.Proofs.Ytijibieeajakoaa

/-
  Plain arithmetic for layer 2 (varint): what is appended is read back; what is read is the encoding; no encoding begins another one. No program is named here.
-/
import Derived.Test.YtckpjeheodbfaabState
namespace Go.Proofs.Ytckpjeheodbfaab
open Go.RowKit

/-- An integer that int holds. -/
def Word (n : Int) : Prop := -9223372036854775808 ≤ n ∧ n ≤ 9223372036854775807

theorem lead_groups : ∀ (f F z : Nat) (rest : List Int), z < 128 ^ (f + 1) → f + 1 ≤ F → lead F (groups f z ++ rest) = (groups f z).length - 1
  | 0, F, z, rest, h, hF => by
    obtain ⟨F, rfl⟩ : ∃ G, F = G + 1 := ⟨F - 1, by omega⟩
    show (if 128 ≤ (z : Int) then _ else _) = _
    simp at h
    rw [if_neg (by omega)]; rfl
  | f + 1, F, z, rest, h, hF => by
    obtain ⟨F, rfl⟩ : ∃ G, F = G + 1 := ⟨F - 1, by omega⟩
    by_cases hz : z < 128
    · rw [groups_last hz]
      show (if 128 ≤ (z : Int) then _ else _) = _
      rw [if_neg (by omega)]; rfl
    · have e : groups (f + 1) z = ((z % 128 + 128 : Nat) : Int) :: groups f (z / 128) := by
        show (if z < 128 then _ else _) = _; rw [if_neg hz]
      rw [e]
      show (if 128 ≤ ((z % 128 + 128 : Nat) : Int) then lead F (groups f (z / 128) ++ rest) + 1 else 0) = _
      rw [if_pos (by omega), lead_groups f F (z / 128) rest (by rw [Nat.pow_succ] at h; omega) (by omega)]
      have := groups_len f (z / 128)
      simp; omega
/-- The last group. -/
theorem groups_end : ∀ (f z : Nat), z < 128 ^ (f + 1) → ∃ x : Nat, (groups f z)[(groups f z).length - 1]? = some (x : Int) ∧ x < 128 ∧ (0 < z → 0 < x) ∧ x * 128 ^ ((groups f z).length - 1) ≤ z
  | 0, z, h => by
    simp at h
    exact ⟨z, by simp [groups], h, fun h => h, by simp [groups]⟩
  | f + 1, z, h => by
    by_cases hz : z < 128
    · rw [groups_last hz]
      exact ⟨z, by simp, hz, fun h => h, by simp⟩
    · have e : groups (f + 1) z = ((z % 128 + 128 : Nat) : Int) :: groups f (z / 128) := by
        show (if z < 128 then _ else _) = _; rw [if_neg hz]
      obtain ⟨x, h1, h2, h3, h4⟩ := groups_end f (z / 128) (by rw [Nat.pow_succ] at h; omega)
      have hl := groups_len f (z / 128)
      refine ⟨x, ?_, h2, fun _ => h3 (by omega), ?_⟩
      · rw [e]
        rw [show (((z % 128 + 128 : Nat) : Int) :: groups f (z / 128)).length - 1 = ((groups f (z / 128)).length - 1) + 1 by simp; omega]
        simpa using h1
      · rw [e]
        rw [show (((z % 128 + 128 : Nat) : Int) :: groups f (z / 128)).length - 1 = ((groups f (z / 128)).length - 1) + 1 by simp; omega, Nat.pow_succ, ← Nat.mul_assoc]
        omega
theorem gval_groups : ∀ (f z : Nat), z < 128 ^ (f + 1) → gval (groups f z) = z
  | 0, z, h => by simp at h; simp [groups, gval]; omega
  | f + 1, z, h => by
    by_cases hz : z < 128
    · rw [groups_last hz]; simp [gval]; omega
    · have e : groups (f + 1) z = ((z % 128 + 128 : Nat) : Int) :: groups f (z / 128) := by
        show (if z < 128 then _ else _) = _; rw [if_neg hz]
      rw [e]
      show (((z % 128 + 128 : Nat) : Int) % 128).toNat + 128 * gval (groups f (z / 128)) = z
      rw [gval_groups f (z / 128) (by rw [Nat.pow_succ] at h; omega)]
      omega
theorem dsize_enc {n : Int} (h : Word n) (rest : List Int) : dsize (enc n ++ rest) = ((enc n).length, 0) := by
  have hz := zz_small h
  have hw := zz_lt h
  have hl := enc_len n
  have h1 : lead 10 (enc n ++ rest) = (enc n).length - 1 := lead_groups 9 10 (zz n) rest hz (by omega)
  obtain ⟨x, hx, hx2, hx3, hx4⟩ := groups_end 9 (zz n) hz
  have hx' : (enc n ++ rest)[lead 10 (enc n ++ rest)]? = some (x : Int) := by
    rw [h1, List.getElem?_append_left (by omega)]; exact hx
  rw [dsize_ok (x := (x : Int)) (by omega) hx', h1]
  · congr 1; omega
  · rw [h1]
    rintro (⟨g1, g2⟩ | ⟨g1, g2⟩)
    · have : 0 < zz n := by
        rcases Nat.eq_zero_or_pos (zz n) with g | g
        · have e0 : (enc n).length = 1 := by unfold enc; rw [g]; rfl
          omega
        · exact g
      have := hx3 this
      omega
    · have e9 : (groups 9 (zz n)).length - 1 = 9 := g1
      rw [e9] at hx4
      have : (128 : Nat) ^ 9 = 9223372036854775808 := by decide
      rw [this] at hx4
      have : 0 < zz n := by
        rcases Nat.eq_zero_or_pos (zz n) with g | g
        · have e0 : (enc n).length = 1 := by unfold enc; rw [g]; rfl
          omega
        · exact g
      have := hx3 this
      omega
/-- What is appended is read back. -/
theorem rI_enc {n : Int} (h : Word n) (rest : List Int) : rI (enc n ++ rest) 0 = (n, true, rest, 0) := by
  unfold rI
  rw [if_neg (by omega), dsize_enc h, if_neg (by simp)]
  simp only []
  rw [List.take_left', List.drop_left', show gval (enc n) = zz n from gval_groups 9 _ (zz_small h), unzz_zz]
  · rfl
  · rfl
theorem rL_enc (k : Nat) (rest : List Int) (hk : k ≤ rest.length) (h9 : rest.length ≤ 1000000) : rL (enc k ++ rest) 0 = ((k : Int), true, rest, 0) := by
  have e := rI_enc (n := (k : Int)) ⟨by omega, by omega⟩ rest
  unfold rL
  rw [e, if_neg (by simp), if_neg (by simp), if_neg (by simp; omega)]
theorem rN_enc : ∀ (l rest : List Int), (∀ z ∈ l, Word z) → rN l.length (encs l ++ rest) 0 = (some l, rest, 0)
  | [], rest, _ => rfl
  | n :: l, rest, h => by
    have e : encs (n :: l) ++ rest = enc n ++ (encs l ++ rest) := by
      show (enc n ++ encs l) ++ rest = _; rw [List.append_assoc]
    have hi := rI_enc (h n (by simp)) (encs l ++ rest)
    have g := rN_go (n := l.length) (l := enc n ++ (encs l ++ rest)) (e := 0) (by rw [hi]) []
    rw [ahead_nil, hi] at g
    rw [e]
    show rN (l.length + 1) _ _ = _
    rw [g]
    simp only []
    rw [rN_enc l rest (fun z hz => h z (by simp [hz]))]
    rfl
theorem rLi_enc (l rest : List Int) (h : ∀ z ∈ l, Word z) (h9 : (encs l ++ rest).length ≤ 1000000) : rLi (encInts l ++ rest) 0 = (l, rest, 0) := by
  have hl := encs_len l
  have e := rL_enc l.length (encs l ++ rest) (by rw [List.length_append]; omega) h9
  unfold rLi encInts
  rw [List.append_assoc, e, if_neg (by simp)]
  simp only []
  rw [show ((l.length : Int)).toNat = l.length by omega, rN_enc l rest h]
  rfl
theorem rS_enc (s rest : List Int) (h9 : (s ++ rest).length ≤ 1000000) : rS (encStr s ++ rest) 0 = (s, rest, 0) := by
  have e := rL_enc s.length (s ++ rest) (by rw [List.length_append]; omega) h9
  unfold rS encStr
  rw [List.append_assoc, e, if_neg (by simp)]
  simp only []
  rw [show ((s.length : Int)).toNat = s.length by omega, List.take_left', List.drop_left']
  · rfl
  · rfl
/-- No encoding of an integer begins another one. -/
theorem enc_prefix {m n : Int} (hm : Word m) (hn : Word n) (h : enc m = (enc n).take (enc m).length) : m = n := by
  have e : enc n = enc m ++ (enc n).drop (enc m).length := by
    conv => lhs; rw [← List.take_append_drop (enc m).length (enc n)]
    rw [← h]
  have h1 := rI_enc hn []
  rw [List.append_nil, e] at h1
  have h2 := rI_enc hm ((enc n).drop (enc m).length)
  rw [h2] at h1
  exact (Prod.mk.inj h1).1

/-- What is read is the encoding. -/
theorem groups_gval : ∀ (t : List Int) (x : Int) (f : Nat), Bytes t → (∀ y ∈ t, 128 ≤ y) → 0 ≤ x → x < 128 → (t ≠ [] → x ≠ 0) → t.length ≤ f → groups f (gval (t ++ [x])) = t ++ [x]
  | [], x, f, _, _, h0, h1, _, _ => by
    have e : gval ([] ++ [x]) = x.toNat := by simp [gval]; omega
    rw [e, groups_last (by omega)]
    simp; omega
  | y :: t, x, f, hb, hy, h0, h1, hx, hf => by
    obtain ⟨f, rfl⟩ : ∃ g, f = g + 1 := ⟨f - 1, by simp at hf; omega⟩
    have hy1 := hy y (by simp)
    have hy2 := hb y (by simp)
    have hne : 0 < gval (t ++ [x]) := by
      have hx0 : x ≠ 0 := hx (by simp)
      rw [gval_snoc]
      have : 0 < (x % 128).toNat := by omega
      have := Nat.mul_pos (Nat.pow_pos (show 0 < 128 by omega) (n := t.length)) this
      omega
    have e : gval (y :: t ++ [x]) = (y % 128).toNat + 128 * gval (t ++ [x]) := rfl
    rw [e]
    have ih := groups_gval t x f (fun z hz => hb z (by simp [hz])) (fun z hz => hy z (by simp [hz])) h0 h1 (fun _ => hx (by simp)) (by simp at hf; omega)
    have e2 : groups (f + 1) ((y % 128).toNat + 128 * gval (t ++ [x])) = ((((y % 128).toNat + 128 * gval (t ++ [x])) % 128 + 128 : Nat) : Int) :: groups f (((y % 128).toNat + 128 * gval (t ++ [x])) / 128) := by
      show (if _ < 128 then _ else _) = _; rw [if_neg (by omega)]
    rw [e2]
    have e3 : ((y % 128).toNat + 128 * gval (t ++ [x])) / 128 = gval (t ++ [x]) := by omega
    rw [e3, ih]
    show _ :: (t ++ [x]) = y :: (t ++ [x])
    congr 1; omega
theorem enc_dsize {l : List Int} (hl : Bytes l) (h : (dsize l).2 = 0) : enc (unzz (gval (l.take (dsize l).1))) = l.take (dsize l).1 := by
  obtain ⟨n, x, e, h1, h2, hx, hmore, hb, hlead⟩ := dsize_inv h
  rw [e]
  show enc (unzz (gval (l.take (n + 1)))) = l.take (n + 1)
  have et : l.take (n + 1) = l.take n ++ [x] := by rw [List.take_add_one, hx]; rfl
  have hx8 := hl x (List.mem_of_getElem? hx)
  have hx128 : x < 128 := by
    rcases Int.lt_or_le x 128 with g | g
    · exact g
    · have := lead_more 10 l n x (by omega) h1 hx g
      omega
  unfold enc
  rw [zz_unzz, et]
  refine groups_gval _ x 9 (hl.take n) ?_ hx8.1 hx128 ?_ (by rw [List.length_take]; omega)
  · intro y hy
    obtain ⟨j, hj, rfl⟩ := List.getElem_of_mem hy
    have hj' : j < n := by rw [List.length_take] at hj; omega
    refine hmore j _ hj' ?_
    rw [List.getElem_take]
    exact List.getElem?_eq_getElem _
  · intro hne hx0
    refine hb (.inl ⟨?_, hx0⟩)
    rcases Nat.eq_zero_or_pos n with g | g
    · subst g; simp at hne
    · exact g
theorem enc_rI {l : List Int} (hl : Bytes l) (h : (rI l 0).2.1 = true) : l = enc (rI l 0).1 ++ (rI l 0).2.2.1 := by
  unfold rI at h ⊢
  rw [if_neg (by omega)] at h ⊢
  by_cases hd : (dsize l).2 ≠ 0
  · rw [if_pos hd] at h; simp at h
  · rw [if_neg hd]
    simp only []
    rw [enc_dsize hl (by omega), List.take_append_drop]
theorem enc_rL {l : List Int} (hl : Bytes l) (h : (rL l 0).2.1 = true) : l = enc (rL l 0).1 ++ (rL l 0).2.2.1 := by
  unfold rL at h ⊢
  by_cases h1 : (rI l 0).2.1 = false
  · rw [if_pos h1] at h; simp at h
  · rw [if_neg h1] at h ⊢
    by_cases h2 : (rI l 0).1 < 0
    · rw [if_pos h2] at h; simp at h
    · rw [if_neg h2] at h ⊢
      by_cases h3 : ((rI l 0).2.2.1.length : Int) < (rI l 0).1
      · rw [if_pos h3] at h; simp at h
      · rw [if_neg h3]
        exact enc_rI hl (by simpa using h1)
theorem enc_rN : ∀ (n : Nat) (l m : List Int), Bytes l → (rN n l 0).1 = some m → l = encs m ++ (rN n l 0).2.1 ∧ m.length = n ∧ (rN n l 0).2.2 = 0
  | 0, l, m, _, h => by
    have : m = [] := (Option.some.inj h).symm
    subst this
    exact ⟨rfl, rfl, rfl⟩
  | n + 1, l, m, hl, h => by
    by_cases h1 : (rI l 0).2.1 = false
    · rw [rN_fail h1] at h; simp at h
    · have hok : (rI l 0).2.1 = true := by simpa using h1
      have h0 := rI_ok hok
      have g := rN_go (n := n) (l := l) (e := 0) hok []
      rw [ahead_nil, h0] at g
      have e1 := enc_rI hl hok
      rw [g] at h ⊢
      unfold ahead at h ⊢
      cases hm : (rN n (rI l 0).2.2.1 0).1 with
      | none => rw [hm] at h; simp at h
      | some m' =>
        rw [hm] at h
        have : m = (rI l 0).1 :: m' := by simpa using h.symm
        subst this
        obtain ⟨i1, i2, i3⟩ := enc_rN n _ m' (rI_bytes hl) hm
        refine ⟨?_, by simp [i2], i3⟩
        show l = (enc (rI l 0).1 ++ encs m') ++ _
        rw [List.append_assoc, ← i1]
        exact e1
/-- After a list was read: the bytes are its encoding, and what is left. -/
theorem rN_err {n : Nat} {l : List Int} {e : Int} : (rN n l e).1 = none → (rN n l e).2.2 ≠ 0 := by
  induction n generalizing l e with
  | zero => intro h; cases h
  | succ n ih =>
    intro h
    by_cases h1 : (rI l e).2.1 = false
    · rw [rN_fail h1]
      intro h2
      have := (rI_iff l e).2 h2
      rw [h1] at this; cases this
    · have hok : (rI l e).2.1 = true := by simpa using h1
      have g := rN_go (n := n) (l := l) (e := e) hok []
      rw [ahead_nil] at g
      rw [g] at h ⊢
      unfold ahead at h ⊢
      refine ih ?_
      cases hm : (rN n (rI l e).2.2.1 (rI l e).2.2.2).1 with
      | none => rfl
      | some m' => rw [hm] at h; simp at h
theorem enc_rLi {l : List Int} (hl : Bytes l) (h : (rLi l 0).2.2 = 0) : l = encInts (rLi l 0).1 ++ (rLi l 0).2.1 := by
  unfold rLi at h ⊢
  by_cases h1 : (rL l 0).2.1 = false
  · rw [if_pos h1] at h
    have := (rL_iff l 0).2 h
    rw [h1] at this; cases this
  · have hok : (rL l 0).2.1 = true := by simpa using h1
    obtain ⟨g0, g1, g2⟩ := rL_ok hok
    rw [if_neg h1] at h ⊢
    rw [g2] at h ⊢
    have e := enc_rL hl hok
    simp only [] at h ⊢
    cases hm : (rN (rL l 0).1.toNat (rL l 0).2.2.1 0).1 with
    | none => exact absurd h (rN_err hm)
    | some m =>
      obtain ⟨i1, i2, i3⟩ := enc_rN _ _ m (rL_bytes hl) hm
      show l = (enc m.length ++ encs m) ++ _
      rw [List.append_assoc, ← i1, i2, show (((rL l 0).1.toNat : Nat) : Int) = (rL l 0).1 by omega]
      exact e
theorem enc_rS {l : List Int} (hl : Bytes l) (h : (rS l 0).2.2 = 0) : l = encStr (rS l 0).1 ++ (rS l 0).2.1 := by
  unfold rS at h ⊢
  by_cases h1 : (rL l 0).2.1 = false
  · rw [if_pos h1] at h
    have := (rL_iff l 0).2 h
    rw [h1] at this; cases this
  · have hok : (rL l 0).2.1 = true := by simpa using h1
    obtain ⟨g0, g1, g2⟩ := rL_ok hok
    rw [if_neg h1]
    have e := enc_rL hl hok
    simp only []
    have hlen : ((rL l 0).2.2.1.take (rL l 0).1.toNat).length = (rL l 0).1.toNat := by rw [List.length_take]; omega
    show l = (enc ((rL l 0).2.2.1.take (rL l 0).1.toNat).length ++ (rL l 0).2.2.1.take (rL l 0).1.toNat) ++ _
    rw [hlen, List.append_assoc, List.take_append_drop, show (((rL l 0).1.toNat : Nat) : Int) = (rL l 0).1 by omega]
    exact e
/-! ### After an error nothing is left; and no more is left than there was -/
theorem rI_fin {l : List Int} {e : Int} (h : e ≠ 0 → l = []) : (rI l e).2.2.2 ≠ 0 → (rI l e).2.2.1 = [] := by
  unfold rI
  split
  · exact h
  · split
    · intro _; rfl
    · intro h2; exact absurd rfl h2
theorem rL_fin {l : List Int} {e : Int} (h : e ≠ 0 → l = []) : (rL l e).2.2.2 ≠ 0 → (rL l e).2.2.1 = [] := by
  unfold rL
  split
  · exact rI_fin h
  · split
    · intro _; rfl
    · split
      · intro _; rfl
      · intro h2; exact absurd rfl h2
theorem rN_fin : ∀ (n : Nat) {l : List Int} {e : Int}, (e ≠ 0 → l = []) → (rN n l e).2.2 ≠ 0 → (rN n l e).2.1 = []
  | 0, l, e, h => h
  | n + 1, l, e, h => by
    show (if (rI l e).2.1 = false then _ else _ : Option (List Int) × List Int × Int).2.2 ≠ 0 → (if (rI l e).2.1 = false then _ else _ : Option (List Int) × List Int × Int).2.1 = []
    by_cases h1 : (rI l e).2.1 = false
    · rw [if_pos h1]; exact rI_fin h
    · rw [if_neg h1]; exact rN_fin n (rI_fin h)
theorem rLi_fin {l : List Int} {e : Int} (h : e ≠ 0 → l = []) : (rLi l e).2.2 ≠ 0 → (rLi l e).2.1 = [] := by
  unfold rLi
  split
  · exact rL_fin h
  · exact rN_fin _ (rL_fin h)
theorem rS_fin {l : List Int} {e : Int} (h : e ≠ 0 → l = []) : (rS l e).2.2 ≠ 0 → (rS l e).2.1 = [] := by
  unfold rS
  split
  · exact rL_fin h
  · intro h2; exact absurd rfl h2
theorem rN_len : ∀ (n : Nat) (l : List Int) (e : Int), (rN n l e).2.1.length ≤ l.length
  | 0, l, e => Nat.le_refl _
  | n + 1, l, e => by
    show (if (rI l e).2.1 = false then _ else _ : Option (List Int) × List Int × Int).2.1.length ≤ _
    have h1 := rI_len l e
    by_cases h : (rI l e).2.1 = false
    · rw [if_pos h]; exact h1
    · rw [if_neg h]; exact Nat.le_trans (rN_len n _ _) h1
theorem rLi_len (l : List Int) (e : Int) : (rLi l e).2.1.length ≤ l.length := by
  have h := rL_len l e
  unfold rLi
  split
  · exact h
  · exact Nat.le_trans (rN_len _ _ _) h
theorem rS_len (l : List Int) (e : Int) : (rS l e).2.1.length ≤ l.length := by
  have h := rL_len l e
  unfold rS
  split
  · exact h
  · simp only [List.length_drop]; omega
theorem rN_bytes : ∀ (n : Nat) {l : List Int} {e : Int}, Bytes l → Bytes (rN n l e).2.1
  | 0, l, e, h => h
  | n + 1, l, e, h => by
    show Bytes (if (rI l e).2.1 = false then _ else _ : Option (List Int) × List Int × Int).2.1
    by_cases h1 : (rI l e).2.1 = false
    · rw [if_pos h1]; exact rI_bytes h
    · rw [if_neg h1]; exact rN_bytes n (rI_bytes h)
theorem rLi_bytes {l : List Int} {e : Int} (h : Bytes l) : Bytes (rLi l e).2.1 := by
  unfold rLi
  split
  · exact rL_bytes h
  · exact rN_bytes _ (rL_bytes h)
theorem rS_bytes {l : List Int} {e : Int} (h : Bytes l) : Bytes (rS l e).2.1 := by
  unfold rS
  split
  · exact rL_bytes h
  · exact (rL_bytes h).drop _
/-- The integers of a list that was read fit int; the list is no longer than the bytes. -/
theorem rN_words : ∀ (n : Nat) (l : List Int) (e : Int) (m : List Int), (rN n l e).1 = some m → (∀ z ∈ m, Word z) ∧ m.length = n
  | 0, l, e, m, h => by
    have : m = [] := (Option.some.inj h).symm
    subst this
    exact ⟨(fun z hz => by cases hz), rfl⟩
  | n + 1, l, e, m, h => by
    by_cases h1 : (rI l e).2.1 = false
    · rw [rN_fail h1] at h; cases h
    · have hok : (rI l e).2.1 = true := by simpa using h1
      have g := rN_go (n := n) (l := l) (e := e) hok []
      rw [ahead_nil] at g
      rw [g] at h
      unfold ahead at h
      cases hm : (rN n (rI l e).2.2.1 (rI l e).2.2.2).1 with
      | none => rw [hm] at h; cases h
      | some m' =>
        rw [hm] at h
        have : m = (rI l e).1 :: m' := by simpa using h.symm
        subst this
        obtain ⟨i1, i2⟩ := rN_words n _ _ m' hm
        refine ⟨fun z hz => ?_, by simp [i2]⟩
        simp only [List.mem_cons] at hz
        rcases hz with rfl | hz
        · exact rI_word l e
        · exact i1 z hz
theorem rLi_words (l : List Int) (e : Int) : (∀ z ∈ (rLi l e).1, Word z) ∧ (rLi l e).1.length ≤ l.length := by
  unfold rLi
  split
  · exact ⟨(fun z hz => by cases hz), Nat.zero_le _⟩
  · rename_i h1
    obtain ⟨g0, g1, g2⟩ := rL_ok (show (rL l e).2.1 = true by simpa using h1)
    have hl := rL_len l e
    simp only []
    cases hm : (rN (rL l e).1.toNat (rL l e).2.2.1 (rL l e).2.2.2).1 with
    | none => exact ⟨(fun z hz => by cases hz), Nat.zero_le _⟩
    | some m =>
      obtain ⟨i1, i2⟩ := rN_words _ _ _ m hm
      exact ⟨i1, by show m.length ≤ _; omega⟩
theorem rS_string (l : List Int) (e : Int) : (rS l e).1.length ≤ l.length := by
  have hl := rL_len l e
  unfold rS
  split
  · exact Nat.zero_le _
  · simp only [List.length_take]; omega
/-- The test of two encodings, one cut to the other's length. -/
theorem prefix_test {m n : Int} (hm : Word m) (hn : Word n) : decide (enc m = (enc n).take (enc m).length) = (m == n) := by
  rw [Bool.eq_iff_iff]
  simp only [decide_eq_true_eq, beq_iff_eq]
  exact ⟨enc_prefix hm hn, fun e => by subst e; rw [List.take_length]⟩
end Go.Proofs.Ytckpjeheodbfaab

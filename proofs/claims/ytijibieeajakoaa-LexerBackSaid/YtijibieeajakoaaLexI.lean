/-
  Layer 13 (lexer): the reference's number.
-/
import Derived.Test.YtijibieeajakoaaLexI1
import Derived.Test.YtijibieeajakoaaLexI2
namespace Go.Proofs.Ytijibieeajakoaa
open Go.RowKit

set_option maxRecDepth 100000 in
set_option maxHeartbeats 8000000 in
theorem number_any (l : List UInt8) (i k : Nat) (t : List UInt8) (ht : (l.drop i).take (k - i) = t) (hik : i ≤ k) (hkl : k ≤ l.length) (hm : l.length ≤ 900000) (hd : cut t ≠ []) (w : World) :
    Calls Try.prog 27 #[.string (Bs l), .int .i64 (i : Int), .int .i64 (k : Int)] w fun e w' =>
    e = .returned (.tuple #[.agg (numCells i t (follows l k)), .int .i64 (numE t (follows l k))]) ∧ Below w.heap.size w w' := by
  have hlen := lenS l (by unfold maxLen; omega)
  have hT := Bs_toList
  have h450 : ByteArray.toList { data := #[45, 48] } = [45, 48] := Bs_toList [45, 48]
  have hsl : ∀ W, (Instr.slice 9 (.string (Bs l)) (some (.int .i64 (i : Int))) (some (.int .i64 (k : Int))) none).run Try.prog W = .ok (.string (Bs t)) W := fun W => by rw [← ht]; exact slMid l i k hik hkl W
  have htl : t.length ≤ 900000 := by rw [← ht]; simp; omega
  have hP := rparse_any t htl
  have hcn := canon_no hd
  obtain ⟨x, r, hxr⟩ : ∃ x r, cut t = x :: r := by
    cases h : cut t with
    | nil => exact absurd h hd
    | cons x r => exact ⟨x, r, rfl⟩
  have hix0 := ix0 x r
  have hhd : headIs (fun c => decide ((c.toNat : Int) = 48)) (cut t) = decide ((x.toNat : Int) = 48) := by rw [hxr]; rfl
  have hcl := cut_le t
  rw [← hxr] at hix0
  obtain ⟨xz, hxz⟩ : ∃ z : Int, (x.toNat : Int) = z := ⟨_, rfl⟩
  rw [hhd, hxz] at hcn
  rw [hxz] at hix0
  obtain ⟨d, hdd⟩ : ∃ d, cut t = d := ⟨_, rfl⟩
  have hld := lenS d (by rw [← hdd]; unfold maxLen; omega)
  obtain ⟨n, hn⟩ : ∃ n, d.length = n := ⟨_, rfl⟩
  rw [hn] at hld
  rw [hdd, hn] at hcn
  rw [hdd] at hix0
  -- the first byte
  obtain ⟨tz, htz, hmt⟩ : ∃ tz : Int, (∀ W, (Instr.index 9 (.string (Bs t)) (.int .i64 0)).run Try.prog W = .ok (.int .u8 tz) W) ∧ (if tz = 45 then (∀ W, (Instr.slice 9 (.string (Bs t)) (some (.int .i64 1)) none none).run Try.prog W = .ok (.string (Bs d)) W) else d = t) := by
    cases t with
    | nil => exact absurd rfl hd
    | cons c u =>
      refine ⟨_, ix0 c u, ?_⟩
      split
      · rename_i h45
        have : d = u := by rw [← hdd]; unfold cut minus headIs; simp [h45]
        rw [this]
        exact fun W => slFrom (c :: u) 1 (by simp) W
      · rename_i h45
        rw [← hdd]; unfold cut minus headIs; simp [h45]
  -- what follows
  have hfo : Hid (if h : k < l.length then (∃ cz : Int, (∀ W, (Instr.index 9 (.string (Bs l)) (.int .i64 (k : Int))).run Try.prog W = .ok (.int .u8 cz) W) ∧ letZ cz = follows l k) else follows l k = false) := by
    show if h : k < l.length then _ else _
    split
    · rename_i h
      obtain ⟨c, hc⟩ : ∃ c, l[k]? = some c := ⟨_, List.getElem?_eq_getElem h⟩
      exact ⟨_, ix l k c hc, by unfold follows; rw [drop_at hc]; rfl⟩
    · rename_i h
      unfold follows; rw [List.drop_of_length_le (by omega)]; rfl
  obtain ⟨fo, hfoe⟩ : ∃ b, follows l k = b := ⟨_, rfl⟩
  rw [hfoe] at hfo ⊢
  clear ht hik htl hd hxr hhd hcl hxz hdd hn hfoe
  have hEdef : numE t fo = if canon t = false ∨ fo = true then 3 else if parseOk t then 0 else 10 := rfl
  have hCdef : numCells i t fo = if numE t fo = 0 then #[.int .i64 2, .int .i64 (i : Int), .int .i64 (parseI t), .string (Bs [])] else #[.int .i64 0, .int .i64 0, .int .i64 0, .string (Bs [])] := rfl
  obtain ⟨eE, heE⟩ : ∃ e, numE t fo = e := ⟨_, rfl⟩
  obtain ⟨eC, heC⟩ : ∃ e, numCells i t fo = e := ⟨_, rfl⟩
  rw [heE] at hEdef hCdef ⊢
  rw [heC] at hCdef ⊢
  clear heE heC
  have HE := hide hEdef
  have HC := hide hCdef
  clear hEdef hCdef
  by_cases h45 : tz = 45
  · rw [if_pos h45] at hmt
    by_cases h1 : 1 < n ∧ xz = 48
    · have hE3 : eE = 3 := by rw [HE.out, if_pos (.inl (hcn.2 (.inl ⟨h1.1, by simp [h1.2]⟩)))]
      exact num_mA l i k t d n xz tz eE eC hlen hsl hix0 hld htz h45 hmt (by omega) h1.2 hE3 (by rw [HC.out, hE3]; rfl) w
    by_cases h2 : t = [45, 48]
    · have hE3 : eE = 3 := by rw [HE.out, if_pos (.inl (hcn.2 (.inr h2)))]
      by_cases h : 1 < (n : Int)
      · exact num_mB1 l i k t d n xz tz eE eC hlen hsl hix0 hld htz h45 hmt h (by simp only [beq_eq_false_iff_ne, ne_eq]; intro h3; exact h1 ⟨by omega, h3⟩) (by simpa using h2) hE3 (by rw [HC.out, hE3]; rfl) w
      · exact num_mB0 l i k t d n xz tz eE eC hlen hsl hix0 hld htz h45 hmt h (by simpa using h2) hE3 (by rw [HC.out, hE3]; rfl) w
    have h22 : (t == [45, 48]) = false := by simpa using h2
    have hcf : canon t = true := by
      by_cases h : canon t = false
      · rcases hcn.1 h with ⟨a, b⟩ | a
        · exact absurd ⟨a, by simpa using b⟩ h1
        · exact absurd a h2
      · simpa using h
    have HF := hfo.out
    rw [hcf] at HE
    by_cases hk : k < l.length
    · rw [dif_pos hk] at HF
      obtain ⟨cz, hcz, hlz⟩ := HF
      cases fo with
      | true =>
        have hE3 : eE = 3 := by rw [HE.out]; simp
        by_cases h : 1 < (n : Int)
        · exact num_mC1 l i k t d n xz tz eE eC hlen hsl hix0 hld htz h45 hmt h (by simp only [beq_eq_false_iff_ne, ne_eq]; intro h3; exact h1 ⟨by omega, h3⟩) h22 (by omega) cz hcz hlz hE3 (by rw [HC.out, hE3]; rfl) w
        · exact num_mC0 l i k t d n xz tz eE eC hlen hsl hix0 hld htz h45 hmt h h22 (by omega) cz hcz hlz hE3 (by rw [HC.out, hE3]; rfl) w
      | false =>
        cases hp : parseOk t with
        | true =>
          have hE3 : eE = 0 := by rw [HE.out, hp]; simp
          rw [hp] at hP
          by_cases h : 1 < (n : Int)
          · exact num_mD1Y l i k t d n xz tz eE eC hlen hsl hix0 hld htz h45 hmt h (by simp only [beq_eq_false_iff_ne, ne_eq]; intro h3; exact h1 ⟨by omega, h3⟩) h22 (by omega) cz hcz hlz hP hE3 (by rw [HC.out, hE3]; rfl) w
          · exact num_mD0Y l i k t d n xz tz eE eC hlen hsl hix0 hld htz h45 hmt h h22 (by omega) cz hcz hlz hP hE3 (by rw [HC.out, hE3]; rfl) w
        | false =>
          have hE3 : eE = 10 := by rw [HE.out, hp]; simp
          rw [hp] at hP
          by_cases h : 1 < (n : Int)
          · exact num_mE1Y l i k t d n xz tz eE eC hlen hsl hix0 hld htz h45 hmt h (by simp only [beq_eq_false_iff_ne, ne_eq]; intro h3; exact h1 ⟨by omega, h3⟩) h22 (by omega) cz hcz hlz hP hE3 (by rw [HC.out, hE3]; rfl) w
          · exact num_mE0Y l i k t d n xz tz eE eC hlen hsl hix0 hld htz h45 hmt h h22 (by omega) cz hcz hlz hP hE3 (by rw [HC.out, hE3]; rfl) w
    · rw [dif_neg hk] at HF
      subst HF
      cases hp : parseOk t with
      | true =>
        have hE3 : eE = 0 := by rw [HE.out, hp]; simp
        rw [hp] at hP
        by_cases h : 1 < (n : Int)
        · exact num_mD1N l i k t d n xz tz eE eC hlen hsl hix0 hld htz h45 hmt h (by simp only [beq_eq_false_iff_ne, ne_eq]; intro h3; exact h1 ⟨by omega, h3⟩) h22 (by omega) hP hE3 (by rw [HC.out, hE3]; rfl) w
        · exact num_mD0N l i k t d n xz tz eE eC hlen hsl hix0 hld htz h45 hmt h h22 (by omega) hP hE3 (by rw [HC.out, hE3]; rfl) w
      | false =>
        have hE3 : eE = 10 := by rw [HE.out, hp]; simp
        rw [hp] at hP
        by_cases h : 1 < (n : Int)
        · exact num_mE1N l i k t d n xz tz eE eC hlen hsl hix0 hld htz h45 hmt h (by simp only [beq_eq_false_iff_ne, ne_eq]; intro h3; exact h1 ⟨by omega, h3⟩) h22 (by omega) hP hE3 (by rw [HC.out, hE3]; rfl) w
        · exact num_mE0N l i k t d n xz tz eE eC hlen hsl hix0 hld htz h45 hmt h h22 (by omega) hP hE3 (by rw [HC.out, hE3]; rfl) w
  · rw [if_neg h45] at hmt
    have hzz : tz = xz := by
      have a := htz w
      rw [← hmt, hix0] at a
      injection a with a _
      injection a with _ a
      exact a.symm
    have h45b : (xz == 45) = false := by rw [← hzz]; simpa using h45
    by_cases h1 : 1 < n ∧ xz = 48
    · have hE3 : eE = 3 := by rw [HE.out, if_pos (.inl (hcn.2 (.inl ⟨h1.1, by simp [h1.2]⟩)))]
      exact num_pA l i k t d n xz tz eE eC hlen hsl hix0 hld htz hzz h45b hmt (by omega) h1.2 hE3 (by rw [HC.out, hE3]; rfl) w
    by_cases h2 : t = [45, 48]
    · have hE3 : eE = 3 := by rw [HE.out, if_pos (.inl (hcn.2 (.inr h2)))]
      by_cases h : 1 < (n : Int)
      · exact num_pB1 l i k t d n xz tz eE eC hlen hsl hix0 hld htz hzz h45b hmt h (by simp only [beq_eq_false_iff_ne, ne_eq]; intro h3; exact h1 ⟨by omega, h3⟩) (by simpa using h2) hE3 (by rw [HC.out, hE3]; rfl) w
      · exact num_pB0 l i k t d n xz tz eE eC hlen hsl hix0 hld htz hzz h45b hmt h (by simpa using h2) hE3 (by rw [HC.out, hE3]; rfl) w
    have h22 : (t == [45, 48]) = false := by simpa using h2
    have hcf : canon t = true := by
      by_cases h : canon t = false
      · rcases hcn.1 h with ⟨a, b⟩ | a
        · exact absurd ⟨a, by simpa using b⟩ h1
        · exact absurd a h2
      · simpa using h
    have HF := hfo.out
    rw [hcf] at HE
    by_cases hk : k < l.length
    · rw [dif_pos hk] at HF
      obtain ⟨cz, hcz, hlz⟩ := HF
      cases fo with
      | true =>
        have hE3 : eE = 3 := by rw [HE.out]; simp
        by_cases h : 1 < (n : Int)
        · exact num_pC1 l i k t d n xz tz eE eC hlen hsl hix0 hld htz hzz h45b hmt h (by simp only [beq_eq_false_iff_ne, ne_eq]; intro h3; exact h1 ⟨by omega, h3⟩) h22 (by omega) cz hcz hlz hE3 (by rw [HC.out, hE3]; rfl) w
        · exact num_pC0 l i k t d n xz tz eE eC hlen hsl hix0 hld htz hzz h45b hmt h h22 (by omega) cz hcz hlz hE3 (by rw [HC.out, hE3]; rfl) w
      | false =>
        cases hp : parseOk t with
        | true =>
          have hE3 : eE = 0 := by rw [HE.out, hp]; simp
          rw [hp] at hP
          by_cases h : 1 < (n : Int)
          · exact num_pD1Y l i k t d n xz tz eE eC hlen hsl hix0 hld htz hzz h45b hmt h (by simp only [beq_eq_false_iff_ne, ne_eq]; intro h3; exact h1 ⟨by omega, h3⟩) h22 (by omega) cz hcz hlz hP hE3 (by rw [HC.out, hE3]; rfl) w
          · exact num_pD0Y l i k t d n xz tz eE eC hlen hsl hix0 hld htz hzz h45b hmt h h22 (by omega) cz hcz hlz hP hE3 (by rw [HC.out, hE3]; rfl) w
        | false =>
          have hE3 : eE = 10 := by rw [HE.out, hp]; simp
          rw [hp] at hP
          by_cases h : 1 < (n : Int)
          · exact num_pE1Y l i k t d n xz tz eE eC hlen hsl hix0 hld htz hzz h45b hmt h (by simp only [beq_eq_false_iff_ne, ne_eq]; intro h3; exact h1 ⟨by omega, h3⟩) h22 (by omega) cz hcz hlz hP hE3 (by rw [HC.out, hE3]; rfl) w
          · exact num_pE0Y l i k t d n xz tz eE eC hlen hsl hix0 hld htz hzz h45b hmt h h22 (by omega) cz hcz hlz hP hE3 (by rw [HC.out, hE3]; rfl) w
    · rw [dif_neg hk] at HF
      subst HF
      cases hp : parseOk t with
      | true =>
        have hE3 : eE = 0 := by rw [HE.out, hp]; simp
        rw [hp] at hP
        by_cases h : 1 < (n : Int)
        · exact num_pD1N l i k t d n xz tz eE eC hlen hsl hix0 hld htz hzz h45b hmt h (by simp only [beq_eq_false_iff_ne, ne_eq]; intro h3; exact h1 ⟨by omega, h3⟩) h22 (by omega) hP hE3 (by rw [HC.out, hE3]; rfl) w
        · exact num_pD0N l i k t d n xz tz eE eC hlen hsl hix0 hld htz hzz h45b hmt h h22 (by omega) hP hE3 (by rw [HC.out, hE3]; rfl) w
      | false =>
        have hE3 : eE = 10 := by rw [HE.out, hp]; simp
        rw [hp] at hP
        by_cases h : 1 < (n : Int)
        · exact num_pE1N l i k t d n xz tz eE eC hlen hsl hix0 hld htz hzz h45b hmt h (by simp only [beq_eq_false_iff_ne, ne_eq]; intro h3; exact h1 ⟨by omega, h3⟩) h22 (by omega) hP hE3 (by rw [HC.out, hE3]; rfl) w
        · exact num_pE0N l i k t d n xz tz eE eC hlen hsl hix0 hld htz hzz h45b hmt h h22 (by omega) hP hE3 (by rw [HC.out, hE3]; rfl) w
end Go.Proofs.Ytijibieeajakoaa

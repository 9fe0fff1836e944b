/-
  Layer 13 (lexer): texts as lists of bytes, and what a token is. No program is named here.
-/
import Derived.Test.YtjphechnadoblaaDoorBase
import Derived.Laws.RangeAny
namespace Go.Proofs.YtjphechnadoblaaDoor
open Go.RowKit

/-- The string of a list of bytes. -/
def Bs (l : List UInt8) : ByteArray := ⟨l.toArray⟩
theorem Bs_size (l : List UInt8) : (Bs l).size = l.length := by simp [Bs, ByteArray.size]
theorem Bs_toList (l : List UInt8) : (Bs l).toList = l := ByteArray.toList_mk l
theorem Bs_of (s : ByteArray) : s = Bs s.data.toList := by cases s; simp [Bs]
theorem Bs_extract (l : List UInt8) (a b : Nat) : (Bs l).extract a b = Bs ((l.drop a).take (b - a)) := ByteArray.extract_mk l a b
theorem Bs_get (l : List UInt8) (i : Nat) (h : i < (Bs l).size) : (Bs l)[i]'h = l[i]'(by rw [Bs_size] at h; exact h) := by
  simp [Bs, ByteArray.getElem_eq_getElem_data]
theorem Bs_append (l m : List UInt8) : Bs l ++ Bs m = Bs (l ++ m) := by
  apply ByteArray.ext; simp [Bs]

def letZ (r : Int) : Bool := (decide (65 ≤ r) && decide (r ≤ 90)) || (decide (97 ≤ r) && decide (r ≤ 122)) || decide (r = 95)
def digZ (r : Int) : Bool := decide (48 ≤ r) && decide (r ≤ 57)
def isLet (c : UInt8) : Bool := letZ c.toNat
def isDig (c : UInt8) : Bool := digZ c.toNat
def isBl (c : UInt8) : Bool := decide ((c.toNat : Int) = 32) || decide ((c.toNat : Int) = 10)
def isPu (c : UInt8) : Bool := decide ((c.toNat : Int) = 40) || decide ((c.toNat : Int) = 41) || decide ((c.toNat : Int) = 61)
def idc (c : UInt8) : Bool := isDig c || isLet c

/-- How many bytes at the front satisfy p. -/
def span (p : UInt8 → Bool) (l : List UInt8) : Nat := (l.takeWhile p).length
theorem span_le (p : UInt8 → Bool) (l : List UInt8) : span p l ≤ l.length := by
  unfold span; exact (List.takeWhile_sublist p).length_le
theorem span_cons (p : UInt8 → Bool) (c : UInt8) (r : List UInt8) : span p (c :: r) = if p c then span p r + 1 else 0 := by
  unfold span; rw [List.takeWhile_cons]; split <;> simp
theorem span_nil (p : UInt8 → Bool) : span p [] = 0 := rfl
/-- A counter's way: all before k satisfy p. -/
def AllTo (p : UInt8 → Bool) (l : List UInt8) (k : Nat) : Prop := k ≤ l.length ∧ ∀ i c, i < k → l[i]? = some c → p c = true
theorem AllTo.zero (p : UInt8 → Bool) (l : List UInt8) : AllTo p l 0 := ⟨Nat.zero_le _, fun _ _ h => by omega⟩
theorem AllTo.next {p : UInt8 → Bool} {l : List UInt8} {k : Nat} (h : AllTo p l k) {c : UInt8} (hc : l[k]? = some c) (hp : p c = true) : AllTo p l (k + 1) := by
  have hlt : k < l.length := (List.getElem?_eq_some_iff.1 hc).1
  refine ⟨hlt, fun i d hi hd => ?_⟩
  rcases Nat.lt_or_ge i k with h1 | h1
  · exact h.2 i d h1 hd
  · obtain rfl : i = k := by omega
    rw [hc] at hd; injection hd with hd; subst hd; exact hp
theorem AllTo.stop {p : UInt8 → Bool} : ∀ {l : List UInt8} {k : Nat}, AllTo p l k → (∀ c, l[k]? = some c → p c = false) → span p l = k
  | [], k, h, _ => by
    have := h.1
    simp at this; subst this; rfl
  | c :: r, 0, _, hn => by rw [span_cons, hn c rfl]; rfl
  | c :: r, k + 1, h, hn => by
    rw [span_cons, h.2 0 c (by omega) rfl, if_pos rfl]
    have := AllTo.stop (p := p) (l := r) (k := k) ⟨by have := h.1; simp at this; omega, fun i d hi hd => h.2 (i + 1) d (by omega) (by simpa using hd)⟩ (fun d hd => hn d (by simpa using hd))
    omega
theorem AllTo.span (p : UInt8 → Bool) : ∀ (l : List UInt8), AllTo p l (span p l)
  | [] => AllTo.zero p []
  | c :: r => by
    rw [span_cons]
    split
    · rename_i hc
      have h := AllTo.span p r
      refine ⟨by have := h.1; simp; omega, fun i d hi hd => ?_⟩
      cases i with
      | zero => simp at hd; subst hd; exact hc
      | succ i => exact h.2 i d (by omega) (by simpa using hd)
    · exact AllTo.zero p _
theorem span_at {p : UInt8 → Bool} : ∀ {l : List UInt8} {c : UInt8}, l[span p l]? = some c → p c = false
  | [], c, h => by simp at h
  | d :: r, c, h => by
    rw [span_cons] at h
    split at h
    · exact span_at (l := r) (by simpa using h)
    · rename_i hd
      simp at h; subst h; simpa using hd

def headIs (p : UInt8 → Bool) (l : List UInt8) : Bool := match l with | [] => false | c :: _ => p c
/-- The bytes of the identifier at the front. -/
def identLen (l : List UInt8) : Nat := if headIs isLet l then span idc l else 0
def digLen (l : List UInt8) : Nat := span isDig l
def minus (l : List UInt8) : Bool := headIs (fun c => decide ((c.toNat : Int) = 45)) l
def cut (l : List UInt8) : List UInt8 := if minus l then l.tail else l
def intLen (l : List UInt8) : Nat := if 0 < digLen (cut l) && minus l then digLen (cut l) + 1 else digLen (cut l)
def canon (l : List UInt8) : Bool := !headIs (fun c => decide ((c.toNat : Int) = 48)) (cut l) || decide (l = [48])
def num (l : List UInt8) : Nat := l.foldl (fun n c => 10 * n + (c.toNat - 48)) 0
theorem num_snoc (l : List UInt8) (c : UInt8) : num (l ++ [c]) = 10 * num l + (c.toNat - 48) := by simp [num]
def limitN (b : Bool) : Nat := if b then 9223372036854775808 else 9223372036854775807
/-- The integer that a text represents, and whether it does. -/
def parseOk (l : List UInt8) : Bool := decide (intLen l ≠ 0) && decide (intLen l = l.length) && canon l && decide ((cut l).length ≤ 19) && decide (num (cut l) ≤ limitN (minus l))
def parseI (l : List UInt8) : Int := if parseOk l then (if minus l then -(num (cut l) : Int) else (num (cut l) : Int)) else 0

theorem let_idc {c : UInt8} (h : isLet c = true) : idc c = true := by simp [idc, h]
theorem let_dig {c : UInt8} (h : isLet c = true) : isDig c = false := by
  unfold isLet isDig letZ digZ at *
  simp at *; omega
theorem high_idc {c : UInt8} (h : 128 ≤ c.toNat) : idc c = false := by
  unfold idc isLet isDig letZ digZ
  simp; omega
theorem high_let {r : Int} (h : 128 ≤ r) : letZ r = false := by unfold letZ; simp; omega
theorem high_dig {r : Int} (h : 128 ≤ r) : digZ r = false := by unfold digZ; simp; omega
theorem identLen_le (l : List UInt8) : identLen l ≤ l.length := by
  unfold identLen; split
  · exact span_le _ _
  · omega
theorem cut_le (l : List UInt8) : (cut l).length ≤ l.length := by unfold cut; split <;> simp
theorem minus_ne {l : List UInt8} (h : minus l = true) : l ≠ [] := by rintro rfl; simp [minus, headIs] at h
theorem cut_len (l : List UInt8) : (cut l).length + (if minus l then 1 else 0) = l.length := by
  unfold cut; split
  · rename_i h
    cases l with
    | nil => exact absurd rfl (minus_ne h)
    | cons c r => simp
  · simp
theorem intLen_le (l : List UInt8) : intLen l ≤ l.length := by
  have h1 := span_le isDig (cut l)
  have h2 := cut_len l
  unfold intLen digLen
  cases hm : minus l <;> simp [hm] at h2 ⊢
  · omega
  · split <;> omega

/-- The identifier's way. -/
def IdTo (l : List UInt8) (k : Nat) : Prop := AllTo idc l k ∧ (0 < k → headIs isLet l = true)
theorem IdTo.zero (l : List UInt8) : IdTo l 0 := ⟨AllTo.zero _ _, fun h => by omega⟩
theorem headIs_at {p : UInt8 → Bool} {l : List UInt8} {c : UInt8} (h : l[0]? = some c) : headIs p l = p c := by
  cases l with
  | nil => simp at h
  | cons d r => simp at h; subst h; rfl
theorem IdTo.next {l : List UInt8} {k : Nat} (h : IdTo l k) {c : UInt8} (hc : l[k]? = some c) (hp : isLet c = true ∨ (k ≠ 0 ∧ isDig c = true)) : IdTo l (k + 1) := by
  refine ⟨h.1.next hc ?_, fun _ => ?_⟩
  · rcases hp with h1 | h1
    · exact let_idc h1
    · simp [idc, h1.2]
  · rcases Nat.eq_zero_or_pos k with rfl | h0
    · rcases hp with h1 | h1
      · rw [headIs_at hc]; exact h1
      · exact absurd rfl h1.1
    · exact h.2 h0
theorem IdTo.stop {l : List UInt8} {k : Nat} (h : IdTo l k) {c : UInt8} (hc : l[k]? = some c) (hl : isLet c = false) (hd : k = 0 ∨ isDig c = false) : identLen l = k := by
  unfold identLen
  rcases Nat.eq_zero_or_pos k with rfl | h0
  · rw [headIs_at hc, hl]; rfl
  · rw [h.2 h0, if_pos rfl]
    refine h.1.stop fun d hd' => ?_
    rw [hc] at hd'; injection hd' with hd'; subst hd'
    rcases hd with h1 | h1
    · omega
    · simp [idc, h1, hl]
theorem IdTo.all {l : List UInt8} (h : IdTo l l.length) : identLen l = l.length := by
  unfold identLen
  cases l with
  | nil => rfl
  | cons c r =>
    rw [h.2 (by simp), if_pos rfl]
    exact h.1.stop fun d hd => by simp at hd

theorem dig_num {c : UInt8} (h : isDig c = true) : 48 ≤ c.toNat ∧ c.toNat ≤ 57 := by
  unfold isDig digZ at h; simp at h; omega
theorem num_lt : ∀ (n : Nat) (l : List UInt8), l.length = n → (∀ c ∈ l, isDig c = true) → num l < 10 ^ n
  | 0, l, hn, _ => by
    obtain rfl := List.eq_nil_of_length_eq_zero hn
    simp [num]
  | n + 1, l, hn, hd => by
    rcases List.eq_nil_or_concat l with rfl | ⟨m, c, rfl⟩
    · simp at hn
    · have h1 := num_lt n m (by simpa using hn) (fun c hc => hd c (by simp [hc]))
      have h2 := dig_num (hd c (by simp))
      rw [List.concat_eq_append, num_snoc, Nat.pow_succ]
      omega
theorem num_le19 {l : List UInt8} (h : l.length ≤ 19) (hd : ∀ c ∈ l, isDig c = true) : num l < 10000000000000000000 := by
  have h1 := num_lt l.length l rfl hd
  have h2 : 10 ^ l.length ≤ 10 ^ 19 := Nat.pow_le_pow_right (by omega) h
  have h3 : (10 : Nat) ^ 19 = 10000000000000000000 := rfl
  omega
theorem allTo_mem {p : UInt8 → Bool} {l : List UInt8} (h : AllTo p l l.length) : ∀ c ∈ l, p c = true := by
  intro c hc
  obtain ⟨i, hi, rfl⟩ := List.getElem_of_mem hc
  exact h.2 i _ hi (List.getElem?_eq_getElem hi)
theorem span_all {p : UInt8 → Bool} {l : List UInt8} (h : span p l = l.length) : ∀ c ∈ l, p c = true := allTo_mem (h ▸ AllTo.span p l)
/-- An integer's digits. -/
theorem int_digits {l : List UInt8} (h0 : intLen l ≠ 0) (h1 : intLen l = l.length) : cut l ≠ [] ∧ ∀ c ∈ cut l, isDig c = true := by
  have h2 := cut_len l
  have h3 := span_le isDig (cut l)
  have e : digLen (cut l) = (cut l).length := by
    unfold intLen digLen at *
    cases hm : minus l <;> simp [hm] at h0 h1 h2 ⊢
    · omega
    · split at h1 <;> omega
  refine ⟨?_, span_all e⟩
  intro hc
  rw [hc] at e h2 
  unfold intLen at h0
  rw [hc] at h0
  simp [digLen, span] at h0

/-- The token at the front: kind, number, text; its bytes; its error. -/
def tokE (l : List UInt8) : Int :=
  if headIs isPu l then 0
  else if 24 < identLen l then 6
  else if 0 < identLen l then 0
  else if intLen l = 0 then 12
  else if canon (l.take (intLen l)) = false ∨ 0 < identLen (l.drop (intLen l)) then 3
  else if parseOk (l.take (intLen l)) then 0 else 10
def tokLen (l : List UInt8) : Nat :=
  if headIs isPu l then 1 else if 0 < identLen l then identLen l else intLen l
def tokK (l : List UInt8) : Int := if headIs isPu l then 3 else if 0 < identLen l then 1 else 2
def tokN (l : List UInt8) : Int := if headIs isPu l then 0 else if 0 < identLen l then 0 else parseI (l.take (intLen l))
def tokT (l : List UInt8) : List UInt8 := if headIs isPu l then l.take 1 else if 0 < identLen l then l.take (identLen l) else []
theorem tokLen_le {l : List UInt8} (h : l ≠ []) : tokLen l ≤ l.length := by
  unfold tokLen
  split
  · cases l with
    | nil => exact absurd rfl h
    | cons c r => simp
  · split
    · exact identLen_le l
    · exact intLen_le l
theorem tokLen_pos {l : List UInt8} (h : tokE l = 0) : 0 < tokLen l := by
  unfold tokE at h; unfold tokLen
  split
  · omega
  · split
    · assumption
    · rename_i h1 h2
      simp only [h1, if_false, Bool.false_eq_true, h2] at h
      have h3 : ¬ 24 < identLen l := by omega
      simp only [h3, if_false] at h
      split at h
      · omega
      · omega

/-- A token, with its place. -/
structure Tok where
  kind : Int
  off : Nat
  n : Int
  text : List UInt8
def Tok.cells (t : Tok) : List Value := [.int .i64 t.kind, .int .i64 (t.off : Int), .int .i64 t.n, .string (Bs t.text)]
def tokAt (l : List UInt8) (i : Nat) : Tok := ⟨tokK l, i, tokN l, tokT l⟩
/-- What a text's scan comes to, from offset i on, k tokens before it: tokens, offset, error. -/
def scan : Nat → List UInt8 → Nat → Nat → List Tok × Nat × Int
  | 0, _, _, _ => ([], 0, 0)
  | _ + 1, [], _, _ => ([], 0, 0)
  | n + 1, c :: r, i, k =>
    if isBl c then scan n r (i + 1) k
    else if k = 20000 then ([], i, 11)
    else if tokE (c :: r) = 0 then
      (let x := scan n ((c :: r).drop (tokLen (c :: r))) (i + tokLen (c :: r)) (k + 1)
       if x.2.2 = 0 then (tokAt (c :: r) i :: x.1, x.2) else ([], x.2))
    else ([], i, tokE (c :: r))
def Scan (l : List UInt8) : List Tok × Nat × Int := if 60000 < l.length then ([], 0, 5) else scan l.length l 0 0
end Go.Proofs.YtjphechnadoblaaDoor

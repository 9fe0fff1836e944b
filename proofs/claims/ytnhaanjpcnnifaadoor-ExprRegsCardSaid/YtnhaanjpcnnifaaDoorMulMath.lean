import Derived.Test.YtnhaanjpcnnifaaDoorMath
namespace Go.Proofs.YtnhaanjpcnnifaaDoor
open Go.RowKit

theorem natAbs_cases (n : Int) : (n.natAbs : Int) = n ∨ (n.natAbs : Int) = -n := by omega

/-- A product that does not fit 64 bits cannot be divided back. -/
theorem leaves_no {a b : Int} (h0 : a ≠ 0) (ha : -9223372036854775808 ≤ a ∧ a ≤ 9223372036854775807)
    (h : ¬ (-9223372036854775808 ≤ a * b ∧ a * b ≤ 9223372036854775807)) : (wrap64 (a * b)).tdiv a ≠ b := by
  intro hb
  have h1 := Int.mul_tdiv_add_tmod (wrap64 (a * b)) a
  rw [hb] at h1
  have h2 : (Int.tmod (wrap64 (a * b)) a).natAbs < a.natAbs := by
    rw [Int.natAbs_tmod]; exact Nat.mod_lt _ (by omega)
  generalize Int.tmod (wrap64 (a * b)) a = r at *
  generalize a * b = p at *
  unfold wrap64 at h1
  omega
theorem leaves_yes {a b : Int} (h0 : a ≠ 0) (h : -9223372036854775808 ≤ a * b ∧ a * b ≤ 9223372036854775807) : (wrap64 (a * b)).tdiv a = b := by
  have e : wrap64 (a * b) = a * b := IntWalk.wrap64_in _ h
  rw [e, Int.mul_tdiv_cancel_left _ h0]
theorem tdiv_small {n a : Int} (h1 : a ≠ -1) (h0 : a ≠ 0) (hn : -9223372036854775808 ≤ n ∧ n ≤ 9223372036854775807) : wrap64 (n.tdiv a) = n.tdiv a := by
  refine IntWalk.wrap64_in _ ?_
  by_cases h2 : a = 1
  · subst h2; rw [Int.tdiv_one]; exact hn
  · have h := Int.natAbs_tdiv n a
    have g : n.natAbs.div a.natAbs ≤ n.natAbs / 2 := Nat.div_le_div_left (by omega) (by omega)
    have g' : n.natAbs / a.natAbs ≤ n.natAbs / 2 := g
    generalize n.tdiv a = q at *
    have h' : q.natAbs = n.natAbs / a.natAbs := h
    omega
theorem wrap64_range (n : Int) : -9223372036854775808 ≤ wrap64 n ∧ wrap64 n ≤ 9223372036854775807 := by unfold wrap64; omega
theorem out4_true {n : Int} (h : ¬ (-9223372036854775808 ≤ n ∧ n ≤ 9223372036854775807)) : outI 4 n = true := outI_true (by
  show n < -9223372036854775808 ∨ 18446744073709551616 - 1 - 9223372036854775808 < n; omega)
theorem out4_false {n : Int} (h : -9223372036854775808 ≤ n ∧ n ≤ 9223372036854775807) : outI 4 n = false := outI_false (by
  show -9223372036854775808 ≤ n ∧ n ≤ 18446744073709551616 - 1 - 9223372036854775808; omega)

/-- What leavesWord computes, in its three cases. -/
theorem leaves_minus {a b : Int} (h : a = -1) (hb : -9223372036854775808 ≤ b ∧ b ≤ 9223372036854775807) : (b == -9223372036854775808) = outI 4 (a * b) := by
  subst h
  by_cases g : b = -9223372036854775808
  · rw [out4_true (by omega)]; simpa using g
  · rw [out4_false (by omega)]; simpa using g
theorem leaves_zero {a b : Int} (h : a = 0) : false = outI 4 (a * b) := by
  subst h; rw [Int.zero_mul, out4_false (by omega)]
theorem leaves_else {a b : Int} (h1 : a ≠ -1) (h0 : a ≠ 0) (ha : -9223372036854775808 ≤ a ∧ a ≤ 9223372036854775807) :
    (wrap64 ((wrap64 (a * b)).tdiv a) != b) = outI 4 (a * b) := by
  rw [tdiv_small h1 h0 (wrap64_range _)]
  by_cases h : -9223372036854775808 ≤ a * b ∧ a * b ≤ 9223372036854775807
  · rw [out4_false h, leaves_yes h0 h]; simp
  · rw [out4_true h]; simpa using leaves_no h0 ha h

/-- The overflow of a product: the wrapped 64-bit product is another number, or the product leaves the word. -/
theorem mul_case1 {t n : Int} (hs : ¬ wrapI t (wrap64 n) = wrap64 n) : true = outI t n := by
  refine (outI_true ?_).symm
  rcases Classical.em (minI t ≤ n ∧ n ≤ maxI t) with g | g
  · refine absurd ?_ hs
    have e : wrap64 n = n := IntWalk.wrap64_in _ (by
      unfold minI maxI at g; have := shape t; omega)
    rw [e]; exact wrap_id g
  · omega
theorem mul_case2 {t n : Int} (hs : wrapI t (wrap64 n) = wrap64 n) : outI 4 n = outI t n := by
  have hs' := (wrap_iff _ _).1 hs
  by_cases h : -9223372036854775808 ≤ n ∧ n ≤ 9223372036854775807
  · rw [IntWalk.wrap64_in _ h] at hs'
    rw [out4_false h, outI_false hs']
  · rw [out4_true h]
    refine (outI_true ?_).symm
    unfold minI maxI; have := shape t; omega

/-- The overflow of a product by the magnitudes of its factors. -/
theorem mul_mag {x y m : Int} {k : Nat} (hy : y ≠ 0) (hx : x ≠ 0) (hm : m = k) : ((k / y.natAbs : Nat) : Int) < x.natAbs ↔ m < ((x * y).natAbs : Int) := by
  rw [Int.natAbs_mul, hm]
  have := Nat.div_lt_iff_lt_mul (x := k) (y := x.natAbs) (k := y.natAbs) (by omega)
  omega
theorem mul_same {x y : Int} (h : x < 0 ↔ y < 0) : ((x * y).natAbs : Int) = x * y := by
  have : 0 ≤ x * y := by
    by_cases hx : x < 0
    · exact Int.mul_nonneg_of_nonpos_of_nonpos (by omega) (by omega)
    · exact Int.mul_nonneg (by omega) (by omega)
  omega
theorem mul_other {x y : Int} (h : ¬ (x < 0 ↔ y < 0)) : ((x * y).natAbs : Int) = -(x * y) := by
  have : x * y ≤ 0 := by
    by_cases hx : x < 0
    · exact Int.mul_nonpos_of_nonpos_of_nonneg (by omega) (by omega)
    · exact Int.mul_nonpos_of_nonneg_of_nonpos (by omega) (by omega)
  omega

/-! ### Shifts, quotients, remainders -/
def shlS (t a n : Int) : Int := wrapI t (a * 2 ^ (unsI t n).toNat)
def lshrS (t a n : Int) : Int := wrapI t (unsI t a / 2 ^ (unsI t n).toNat)
def ashrS (t a n : Int) : Int := wrapI t a / 2 ^ (unsI t n).toNat
def divS (t a b : Int) : Int := wrapI t ((wrapI t a).tdiv (wrapI t b))
def remS (t a b : Int) : Int := (wrapI t a).tmod (wrapI t b)
theorem wrap_u64 (t n : Int) : wrapI t (IntKind.u64.wrap n) = wrapI t n := by
  rw [IntKind.wrap_u64]
  unfold wrapI
  rcases shape t with ⟨hm, ho, _⟩ | ⟨hm, ho, _⟩ | ⟨hm, ho, _⟩ | ⟨hm, ho, _⟩ | ⟨hm, ho, _⟩ <;> rw [hm, ho] <;> omega
/-- Congruent numbers are wrapped alike. -/
theorem wrap_congr {t a b : Int} (h : a % modI t = b % modI t) : wrapI t a = wrapI t b := by
  unfold wrapI
  rw [Int.add_emod, h, ← Int.add_emod]
theorem wrap_mod (t n : Int) : wrapI t n % modI t = n % modI t := by
  unfold wrapI
  rw [Int.sub_emod, Int.emod_emod_of_dvd _ (Int.dvd_refl _), ← Int.sub_emod]
  congr 1; omega
theorem uns_mod (t n : Int) : unsI t n % modI t = n % modI t := by
  unfold unsI; exact Int.emod_emod_of_dvd _ (Int.dvd_refl _)
theorem wrap_uns_mul (t a k : Int) : wrapI t (unsI t a * k) = wrapI t (a * k) :=
  wrap_congr (by rw [Int.mul_emod, uns_mod, ← Int.mul_emod])
/-- The quotient by the magnitudes of the operands. -/
theorem quo_mag (x y : Int) (h : ¬ (x < 0 ↔ y < 0)) : x.tdiv y = -((x.natAbs / y.natAbs : Nat) : Int) := by
  by_cases hx : x < 0
  · obtain ⟨m, rfl⟩ : ∃ m : Nat, x = -(m : Int) := ⟨x.natAbs, by omega⟩
    obtain ⟨n, rfl⟩ : ∃ n : Nat, y = (n : Int) := ⟨y.natAbs, by omega⟩
    rw [Int.neg_tdiv]; simp [Int.natAbs_neg]
  · obtain ⟨m, rfl⟩ : ∃ m : Nat, x = (m : Int) := ⟨x.natAbs, by omega⟩
    obtain ⟨n, rfl⟩ : ∃ n : Nat, y = -(n : Int) := ⟨y.natAbs, by omega⟩
    rw [Int.tdiv_neg]; simp [Int.natAbs_neg]
theorem quo_same (x y : Int) (h : x < 0 ↔ y < 0) : x.tdiv y = ((x.natAbs / y.natAbs : Nat) : Int) := by
  by_cases hx : x < 0
  · obtain ⟨m, rfl⟩ : ∃ m : Nat, x = -(m : Int) := ⟨x.natAbs, by omega⟩
    obtain ⟨n, rfl⟩ : ∃ n : Nat, y = -(n : Int) := ⟨y.natAbs, by omega⟩
    rw [Int.neg_tdiv, Int.tdiv_neg]; simp [Int.natAbs_neg]
  · obtain ⟨m, rfl⟩ : ∃ m : Nat, x = (m : Int) := ⟨x.natAbs, by omega⟩
    obtain ⟨n, rfl⟩ : ∃ n : Nat, y = (n : Int) := ⟨y.natAbs, by omega⟩
    simp
theorem rem_neg (x y : Int) (hx : x < 0) : x.tmod y = -((x.natAbs % y.natAbs : Nat) : Int) := by
  obtain ⟨m, rfl⟩ : ∃ m : Nat, x = -(m : Int) := ⟨x.natAbs, by omega⟩
  rcases natAbs_cases y with h | h
  · obtain ⟨n, rfl⟩ : ∃ n : Nat, y = (n : Int) := ⟨y.natAbs, by omega⟩
    rw [Int.neg_tmod]; simp; exact Int.tmod_eq_emod_of_nonneg (by omega)
  · obtain ⟨n, rfl⟩ : ∃ n : Nat, y = -(n : Int) := ⟨y.natAbs, by omega⟩
    rw [Int.neg_tmod, Int.tmod_neg]; simp; exact Int.tmod_eq_emod_of_nonneg (by omega)
theorem rem_pos (x y : Int) (hx : ¬ x < 0) : x.tmod y = ((x.natAbs % y.natAbs : Nat) : Int) := by
  obtain ⟨m, rfl⟩ : ∃ m : Nat, x = (m : Int) := ⟨x.natAbs, by omega⟩
  rcases natAbs_cases y with h | h
  · obtain ⟨n, rfl⟩ : ∃ n : Nat, y = (n : Int) := ⟨y.natAbs, by omega⟩
    simp; exact Int.tmod_eq_emod_of_nonneg (by omega)
  · obtain ⟨n, rfl⟩ : ∃ n : Nat, y = -(n : Int) := ⟨y.natAbs, by omega⟩
    rw [Int.tmod_neg]; simp; exact Int.tmod_eq_emod_of_nonneg (by omega)
/-- The 64-bit magnitude of a quotient, put back into the type. -/
theorem cast_div (m n : Nat) : (m : Int) / (n : Int) = ((m / n : Nat) : Int) := (Int.natCast_ediv m n).symm
theorem cast_mod (m n : Nat) : (m : Int) % (n : Int) = ((m % n : Nat) : Int) := (Int.natCast_emod m n).symm
theorem div_same {t a b : Int} (h : wrapI t a < 0 ↔ wrapI t b < 0) : wrapI t (wrap64 (IntKind.u64.wrap (((wrapI t a).natAbs : Int) / ((wrapI t b).natAbs : Int)))) = divS t a b := by
  rw [wrap_wrap64, wrap_u64, cast_div]; unfold divS; rw [quo_same _ _ h]
theorem div_other {t a b : Int} (h : ¬ (wrapI t a < 0 ↔ wrapI t b < 0)) : wrapI t (wrap64 (IntKind.u64.wrap (-(IntKind.u64.wrap (((wrapI t a).natAbs : Int) / ((wrapI t b).natAbs : Int)))))) = divS t a b := by
  rw [wrap_wrap64, wrap_u64]
  have e : wrapI t (-(IntKind.u64.wrap (((wrapI t a).natAbs : Int) / ((wrapI t b).natAbs : Int)))) = wrapI t (-((((wrapI t a).natAbs / (wrapI t b).natAbs : Nat) : Int))) := by
    rw [cast_div]
    generalize (((wrapI t a).natAbs / (wrapI t b).natAbs : Nat) : Int) = q
    rw [IntKind.wrap_u64]
    unfold wrapI
    rcases shape t with ⟨hm, ho, _⟩ | ⟨hm, ho, _⟩ | ⟨hm, ho, _⟩ | ⟨hm, ho, _⟩ | ⟨hm, ho, _⟩ <;> rw [hm, ho] <;> omega
  rw [e]; unfold divS; rw [quo_mag _ _ h]
theorem rem_wrap (t a b : Int) : wrapI t (remS t a b) = remS t a b := by
  refine wrap_id ?_
  have ha := wrap_in t a
  have g : ((wrapI t a).natAbs % (wrapI t b).natAbs : Nat) ≤ (wrapI t a).natAbs := Nat.mod_le _ _
  have hs := shape t
  unfold remS
  by_cases hx : wrapI t a < 0
  · rw [rem_neg _ _ hx]; unfold minI maxI at *; omega
  · rw [rem_pos _ _ hx]; unfold minI maxI at *; omega
theorem rem_case1 {t a b : Int} (h : wrapI t a < 0) : wrapI t (wrap64 (IntKind.u64.wrap (-(((wrapI t a).natAbs : Int) % ((wrapI t b).natAbs : Int))))) = remS t a b := by
  rw [wrap_wrap64, wrap_u64, cast_mod, ← rem_neg _ _ h]; exact rem_wrap t a b
theorem rem_case2 {t a b : Int} (h : ¬ wrapI t a < 0) : wrapI t (wrap64 (((wrapI t a).natAbs : Int) % ((wrapI t b).natAbs : Int))) = remS t a b := by
  rw [wrap_wrap64, cast_mod, ← rem_pos _ _ h]; exact rem_wrap t a b

/-! ### The document's overflow tests -/
theorem zero_facts {t : Int} (h : bitsI t = 0) : modI t = 1 ∧ offI t = 0 := by have := shape t; omega
theorem wrap_zero {t : Int} (h : bitsI t = 0) (n : Int) : wrapI t n = 0 := by
  have g := wrap_in t n
  have := zero_facts h
  unfold minI maxI at g; omega
theorem out_zero {t n : Int} (h : bitsI t = 0) (hn : n = 0) : outI t n = false := outI_false (by
  have := zero_facts h
  unfold minI maxI; omega)
theorem radd_close {t a b : Int} {p : Bool} (h : p = true ↔ (0 < wrapI t b ∧ wrap64 (maxI t - wrapI t b) < wrapI t a) ∨ (wrapI t b < 0 ∧ wrapI t a < wrap64 (minI t - wrapI t b))) : p = addO t a b := by
  have hx := wrap_in t a
  have hy := wrap_in t b
  have g : p = true ↔ wrapI t a + wrapI t b < minI t ∨ maxI t < wrapI t a + wrapI t b := by
    rw [h]; unfold minI maxI wrap64 at *; have := shape t; omega
  rw [Bool.eq_iff_iff, g]; unfold addO outI; simp
theorem rsub_close {t a b : Int} {p : Bool} (h : p = true ↔ (0 < wrapI t b ∧ wrapI t a < wrap64 (minI t + wrapI t b)) ∨ (wrapI t b < 0 ∧ wrap64 (maxI t + wrapI t b) < wrapI t a)) : p = subO t a b := by
  have hx := wrap_in t a
  have hy := wrap_in t b
  have g : p = true ↔ wrapI t a - wrapI t b < minI t ∨ maxI t < wrapI t a - wrapI t b := by
    rw [h]; unfold minI maxI wrap64 at *; have := shape t; omega
  rw [Bool.eq_iff_iff, g]; unfold subO outI; simp

theorem mul_zero_facts {t a b : Int} (h : bitsI t = 0 ∨ wrapI t a = 0 ∨ wrapI t b = 0) : mulS t a b = 0 ∧ mulO t a b = false := by
  have hm : wrapI t a * wrapI t b = 0 := by
    rcases h with h | h | h
    · rw [wrap_zero h]; omega
    · rw [h]; omega
    · rw [h]; omega
  have hi : minI t ≤ 0 ∧ 0 ≤ maxI t := by unfold minI maxI; have := shape t; omega
  unfold mulS mulO
  rw [hm]
  exact ⟨wrap_id hi, outI_false hi⟩

theorem quo_u64 (k m : Nat) (h : k ≤ 18446744073709551615) : IntKind.u64.wrap ((k : Int) / (m : Int)) = ((k / m : Nat) : Int) := by
  rw [cast_div]
  have := Nat.div_le_self k m
  generalize k / m = q at *
  exact IntWalk.u64_in _ (by omega)
theorem mulo_same {t a b : Int} (ha : ¬ wrapI t a = 0) (hb : ¬ wrapI t b = 0) (hs : wrapI t a < 0 ↔ wrapI t b < 0) :
    decide (IntKind.u64.wrap (((maxI t).natAbs : Int) / ((wrapI t b).natAbs : Int)) < ((wrapI t a).natAbs : Int)) = mulO t a b := by
  have hr := minmax_range t
  have hp : 0 ≤ maxI t ∧ minI t ≤ 0 := by unfold maxI minI; have := shape t; omega
  rw [quo_u64 _ _ (by omega)]
  have h := mul_mag (m := maxI t) (k := (maxI t).natAbs) hb ha (by omega)
  rw [mul_same hs] at h
  have g := mul_same hs
  rw [Bool.eq_iff_iff]
  unfold mulO outI
  simp only [decide_eq_true_eq, Bool.or_eq_true]
  rw [h]; omega
theorem mulo_other {t a b : Int} (ha : ¬ wrapI t a = 0) (hb : ¬ wrapI t b = 0) (hs : ¬ (wrapI t a < 0 ↔ wrapI t b < 0)) :
    decide (IntKind.u64.wrap (((minI t).natAbs : Int) / ((wrapI t b).natAbs : Int)) < ((wrapI t a).natAbs : Int)) = mulO t a b := by
  have hr := minmax_range t
  have hp : 0 ≤ maxI t ∧ minI t ≤ 0 := by unfold maxI minI; have := shape t; omega
  rw [quo_u64 _ _ (by omega)]
  have h := mul_mag (m := -minI t) (k := (minI t).natAbs) hb ha (by omega)
  rw [mul_other hs] at h
  have g := mul_other hs
  rw [Bool.eq_iff_iff]
  unfold mulO outI
  simp only [decide_eq_true_eq, Bool.or_eq_true]
  rw [h]; omega
theorem signs_same {x y : Int} (h : (decide (x < 0) == decide (y < 0)) = true) : x < 0 ↔ y < 0 := by simpa using h
theorem signs_other {x y : Int} (h : (decide (x < 0) == decide (y < 0)) = false) : ¬ (x < 0 ↔ y < 0) := by simpa using h

/-! ### Shifts one place at a time -/
theorem shl_step (u : Int) (k : Nat) : IntKind.u64.wrap (IntKind.u64.wrap (u * 2 ^ k) * 2) = IntKind.u64.wrap (u * 2 ^ (k + 1)) := by
  have e : u * 2 ^ (k + 1) = (u * 2 ^ k) * 2 := by rw [Int.pow_succ, Int.mul_assoc]
  rw [e]
  generalize u * 2 ^ k = v
  simp only [IntKind.wrap_u64]; omega
theorem shr_step (u : Int) (k : Nat) : u / 2 ^ k / 2 = u / 2 ^ (k + 1) := by
  rw [Int.ediv_ediv_of_nonneg (Int.le_of_lt (Int.pow_pos (by omega))), Int.pow_succ]
theorem shr_range (u : Int) (k : Nat) (h : 0 ≤ u ∧ u ≤ 18446744073709551615) : 0 ≤ u / 2 ^ k ∧ u / 2 ^ k ≤ 18446744073709551615 := by
  have h1 : (0 : Int) < 2 ^ k := Int.pow_pos (by omega)
  have := Int.ediv_le_self (2 ^ k) h.1
  exact ⟨Int.ediv_nonneg h.1 (Int.le_of_lt h1), by omega⟩
theorem sar_range (u : Int) (k : Nat) (h : -9223372036854775808 ≤ u ∧ u ≤ 9223372036854775807) : -9223372036854775808 ≤ u / 2 ^ k ∧ u / 2 ^ k ≤ 9223372036854775807 := by
  induction k with
  | zero => simpa using h
  | succ k ih => rw [← shr_step]; omega

end Go.Proofs.YtnhaanjpcnnifaaDoor

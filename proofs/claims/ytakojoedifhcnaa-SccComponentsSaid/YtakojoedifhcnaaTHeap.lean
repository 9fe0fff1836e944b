/-
  Layer 7 (scc): a binary heap of distinct numbers, as package heap keeps it: sifting up and down.
-/
import Derived.Test.YtakojoedifhcnaaTarjan
namespace Go.Proofs.Ytakojoedifhcnaa
open Go.RowKit

def swp (h : Nat → Nat) (i j : Nat) : Nat → Nat := fun k => if k = i then h j else if k = j then h i else h k
theorem swp_l (h : Nat → Nat) (i j : Nat) : swp h i j i = h j := by simp [swp]
theorem swp_r (h : Nat → Nat) (i j : Nat) : swp h i j j = h i := by
  unfold swp; by_cases e : j = i
  · rw [if_pos e, e]
  · rw [if_neg e, if_pos rfl]
theorem swp_ne (h : Nat → Nat) {i j k : Nat} (a : k ≠ i) (b : k ≠ j) : swp h i j k = h k := by simp [swp, a, b]

/-- The places below n hold the members of S, each once. -/
structure Bag (h : Nat → Nat) (n : Nat) (S : Nat → Prop) : Prop where
  mem : ∀ i, i < n → S (h i)
  all : ∀ x, S x → ∃ i, i < n ∧ h i = x
  inj : ∀ i j, i < n → j < n → h i = h j → i = j
section
variable {h : Nat → Nat} {n : Nat} {S : Nat → Prop}
theorem Bag.zero (h : Nat → Nat) : Bag h 0 (fun _ => False) := ⟨fun i hi => by omega, fun _ hx => hx.elim, fun i _ hi => by omega⟩
theorem Bag.congr (b : Bag h n S) {T : Nat → Prop} (e : ∀ x, S x ↔ T x) : Bag h n T := ⟨fun i hi => (e _).1 (b.mem i hi), fun x hx => b.all x ((e x).2 hx), b.inj⟩
theorem Bag.swp (b : Bag h n S) {i j : Nat} (hi : i < n) (hj : j < n) : Bag (swp h i j) n S := by
  have key : ∀ k, k < n → ∃ k', k' < n ∧ Proofs.Ytakojoedifhcnaa.swp h i j k = h k' ∧ Proofs.Ytakojoedifhcnaa.swp h i j k' = h k ∧ (k' = if k = i then j else if k = j then i else k) := fun k hk => by
    by_cases a : k = i
    · exact ⟨j, hj, by rw [a, swp_l], by rw [a, swp_r], by rw [if_pos a]⟩
    · by_cases c : k = j
      · exact ⟨i, hi, by rw [c, swp_r], by rw [c, swp_l], by rw [if_neg a, if_pos c]⟩
      · exact ⟨k, hk, swp_ne h a c, swp_ne h a c, by rw [if_neg a, if_neg c]⟩
  refine ⟨fun k hk => ?_, fun x hx => ?_, fun k l hk hl e => ?_⟩
  · obtain ⟨k', hk', e, -, -⟩ := key k hk
    rw [e]; exact b.mem k' hk'
  · obtain ⟨k, hk, rfl⟩ := b.all x hx
    obtain ⟨k', hk', -, e, -⟩ := key k hk
    exact ⟨k', hk', e⟩
  · obtain ⟨k', hk', e1, -, e3⟩ := key k hk
    obtain ⟨l', hl', f1, -, f3⟩ := key l hl
    rw [e1, f1] at e
    have := b.inj k' l' hk' hl' e
    rw [e3, f3] at this
    split at this <;> split at this <;> (try split at this) <;> (try split at this) <;> omega
theorem Bag.push (b : Bag h n S) {x : Nat} (hx : ¬ S x) : Bag (set1 h n x) (n + 1) (fun y => S y ∨ y = x) := by
  have old : ∀ i, i < n → set1 h n x i = h i := fun i hi => set1_ne _ _ (by omega)
  refine ⟨fun i hi => ?_, fun y hy => ?_, fun i j hi hj e => ?_⟩
  · rcases Nat.lt_succ_iff_lt_or_eq.1 hi with hi | rfl
    · rw [old i hi]; exact .inl (b.mem i hi)
    · exact .inr (set1_at _ _ _)
  · rcases hy with hy | rfl
    · obtain ⟨i, hi, e⟩ := b.all y hy
      exact ⟨i, by omega, by rw [old i hi]; exact e⟩
    · exact ⟨n, by omega, set1_at _ _ _⟩
  · rcases Nat.lt_succ_iff_lt_or_eq.1 hi with hi | rfl <;> rcases Nat.lt_succ_iff_lt_or_eq.1 hj with hj | rfl
    · rw [old i hi, old j hj] at e; exact b.inj i j hi hj e
    · rw [old i hi, set1_at] at e; exact absurd (e ▸ b.mem i hi) hx
    · rw [old j hj, set1_at] at e; exact absurd (e ▸ b.mem j hj) hx
    · rfl
theorem Bag.pop (b : Bag h (n + 1) S) : Bag h n (fun y => S y ∧ y ≠ h n) := by
  refine ⟨fun i hi => ⟨b.mem i (by omega), fun e => by have := b.inj i n (by omega) (by omega) e; omega⟩, fun x hx => ?_, fun i j hi hj => b.inj i j (by omega) (by omega)⟩
  obtain ⟨i, hi, e⟩ := b.all x hx.1
  rcases Nat.lt_succ_iff_lt_or_eq.1 hi with hi | rfl
  · exact ⟨i, hi, e⟩
  · exact absurd e.symm hx.2

def HeapOk (h : Nat → Nat) (n : Nat) : Prop := ∀ k, 0 < k → k < n → h ((k - 1) / 2) ≤ h k
/-- A heap, but for place j, which may be less than its parent. -/
structure UpOk (h : Nat → Nat) (n j : Nat) : Prop where
  rest : ∀ k, 0 < k → k < n → k ≠ j → h ((k - 1) / 2) ≤ h k
  over : ∀ k, 0 < k → k < n → (k - 1) / 2 = j → 0 < j → h ((j - 1) / 2) ≤ h k
/-- A heap, but for place i, which may be greater than its children. -/
structure DownOk (h : Nat → Nat) (n i : Nat) : Prop where
  rest : ∀ k, 0 < k → k < n → (k - 1) / 2 ≠ i → h ((k - 1) / 2) ≤ h k
  over : ∀ k, 0 < k → k < n → (k - 1) / 2 = i → 0 < i → h ((i - 1) / 2) ≤ h k
theorem HeapOk.zero (h : Nat → Nat) : HeapOk h 0 := fun k _ hk => by omega
theorem HeapOk.least (o : HeapOk h n) : ∀ k, k < n → h 0 ≤ h k := by
  intro k
  induction k using Nat.strongRecOn with
  | _ k ih =>
    intro hk
    by_cases e : k = 0
    · rw [e]; exact Nat.le_refl _
    · exact Nat.le_trans (ih ((k - 1) / 2) (by omega) (by omega)) (o k (by omega) hk)
theorem HeapOk.push (o : HeapOk h n) (x : Nat) : UpOk (set1 h n x) (n + 1) n := by
  refine ⟨fun k h0 hk hn => ?_, fun k h0 hk e _ => by omega⟩
  rw [set1_ne h x hn, set1_ne h x (show (k - 1) / 2 ≠ n by omega)]
  exact o k h0 (by omega)
theorem UpOk.done {j : Nat} (u : UpOk h n j) (hd : j = 0 ∨ h ((j - 1) / 2) ≤ h j) : HeapOk h n := fun k h0 hk => by
  by_cases e : k = j
  · subst e
    rcases hd with e | e
    · omega
    · exact e
  · exact u.rest k h0 hk e
theorem UpOk.step {j : Nat} (u : UpOk h n j) (hj : j < n) (h0 : 0 < j) (hlt : h j < h ((j - 1) / 2)) : UpOk (swp h ((j - 1) / 2) j) n ((j - 1) / 2) := by
  obtain ⟨i, hi⟩ : ∃ i, (j - 1) / 2 = i := ⟨_, rfl⟩
  rw [hi] at hlt ⊢
  have hij : i < j := by omega
  refine ⟨fun k k0 kn kne => ?_, fun k k0 kn kp i0 => ?_⟩
  · by_cases e : k = j
    · subst e
      rw [hi, swp_l, swp_r]; exact Nat.le_of_lt hlt
    · rw [swp_ne h kne e]
      by_cases p1 : (k - 1) / 2 = i
      · rw [p1, swp_l]
        have := u.rest k k0 kn e
        rw [p1] at this
        omega
      · by_cases p2 : (k - 1) / 2 = j
        · rw [p2, swp_r]
          have := u.over k k0 kn p2 h0
          rwa [hi] at this
        · rw [swp_ne h p1 p2]; exact u.rest k k0 kn e
  · have q : (i - 1) / 2 ≠ i ∧ (i - 1) / 2 ≠ j := by omega
    rw [swp_ne h q.1 q.2]
    have hi0 := u.rest i i0 (by omega) (by omega)
    by_cases e : k = j
    · subst e; rw [swp_r]; exact hi0
    · rw [swp_ne h (by omega) e]
      have := u.rest k k0 kn e
      rw [kp] at this
      omega
theorem HeapOk.pop (o : HeapOk h (n + 1)) : DownOk (swp h 0 n) n 0 := by
  refine ⟨fun k k0 kn kp => ?_, fun k _ _ _ c => by omega⟩
  rw [swp_ne h (by omega) (by omega), swp_ne h (by omega) (by omega)]
  exact o k k0 (by omega)
theorem DownOk.done {i : Nat} (d : DownOk h n i) (hd : ∀ k, 0 < k → k < n → (k - 1) / 2 = i → h i ≤ h k) : HeapOk h n := fun k k0 kn => by
  by_cases e : (k - 1) / 2 = i
  · rw [e]; exact hd k k0 kn e
  · exact d.rest k k0 kn e
theorem DownOk.step {i j : Nat} (d : DownOk h n i) (hj : j < n) (j0 : 0 < j) (hp : (j - 1) / 2 = i) (hm : ∀ k, 0 < k → k < n → (k - 1) / 2 = i → h j ≤ h k) (hlt : h j < h i) : DownOk (swp h i j) n j := by
  have hij : i < j := by omega
  refine ⟨fun k k0 kn kp => ?_, fun k k0 kn kp _ => ?_⟩
  · by_cases e : k = j
    · subst e
      rw [hp, swp_l, swp_r]; exact Nat.le_of_lt hlt
    · by_cases p1 : (k - 1) / 2 = i
      · rw [p1, swp_l, swp_ne h (by omega) e]
        exact hm k k0 kn p1
      · rw [swp_ne h p1 kp]
        by_cases e2 : k = i
        · subst e2
          rw [swp_l]
          have := d.over j j0 hj hp k0
          exact this
        · rw [swp_ne h e2 e]; exact d.rest k k0 kn p1
  · rw [hp, swp_l, swp_ne h (by omega) (by omega)]
    have := d.rest k k0 kn (by omega)
    rw [kp] at this
    exact this
end
end Go.Proofs.Ytakojoedifhcnaa

/-
  A binary heap as a list of numbers: what rising and sinking keep. Layer 5 (worklist). No program is named here.
-/
import Derived.Test.YthdjgbkooeabfaaFirst
namespace Go.Proofs.Ythdjgbkooeabfaa

/-- y does not come before x. -/
def Le (l : List Int) (x y : Nat) : Prop := ¬ Bef l y x
theorem Le.trans {l : List Int} {x y z : Nat} (h : Le l x y) (k : Le l y z) : Le l x z := by unfold Le Bef at *; omega
theorem Le.of {l : List Int} {x y : Nat} (h : Bef l x y) : Le l x y := by unfold Le Bef at *; omega
theorem Le.refl (l : List Int) (x : Nat) : Le l x x := Bef.irrefl l x

/-- A heap of m numbers. -/
def Hp (l : List Int) (g : Nat → Nat) (m : Nat) : Prop := ∀ i, 0 < i → i < m → Le l (g ((i - 1) / 2)) (g i)
/-- .. but for node, which may come before its parent. -/
def Up (l : List Int) (g : Nat → Nat) (m k : Nat) : Prop :=
  (∀ i, 0 < i → i < m → i ≠ k → Le l (g ((i - 1) / 2)) (g i)) ∧ (∀ i, 0 < i → i < m → (i - 1) / 2 = k → 0 < k → Le l (g ((k - 1) / 2)) (g i))
/-- .. but for node, which may come behind its children. -/
def Dn (l : List Int) (g : Nat → Nat) (m k : Nat) : Prop :=
  (∀ i, 0 < i → i < m → (i - 1) / 2 ≠ k → Le l (g ((i - 1) / 2)) (g i)) ∧ (∀ i, 0 < i → i < m → (i - 1) / 2 = k → 0 < k → Le l (g ((k - 1) / 2)) (g i))
/-- Two places exchanged. -/
def sw (g : Nat → Nat) (a b : Nat) : Nat → Nat := fun i => if i = a then g b else if i = b then g a else g i

theorem Up.done {l : List Int} {g : Nat → Nat} {m k : Nat} (h : Up l g m k) (hk : k = 0 ∨ Le l (g ((k - 1) / 2)) (g k)) : Hp l g m := by
  intro i h0 hm
  by_cases e : i = k
  · subst e
    rcases hk with hk | hk
    · omega
    · exact hk
  · exact h.1 i h0 hm e
theorem Up.step {l : List Int} {g : Nat → Nat} {m k : Nat} (h : Up l g m k) (h0 : 0 < k) (hm : k < m) (hb : Bef l (g k) (g ((k - 1) / 2))) : Up l (sw g k ((k - 1) / 2)) m ((k - 1) / 2) := by
  obtain ⟨h1, h2⟩ := h
  have hpk : (k - 1) / 2 ≠ k := by omega
  refine ⟨fun i hi him hne => ?_, fun i hi him hp hpp => ?_⟩
  · have hip : (i - 1) / 2 ≠ i := by omega
    unfold sw
    by_cases e : i = k
    · subst e
      rw [if_neg hpk, if_pos rfl, if_pos rfl]
      exact Le.of hb
    · rw [if_neg e, if_neg hne]
      by_cases e1 : (i - 1) / 2 = k
      · rw [if_pos e1]
        exact h2 i hi him e1 h0
      · rw [if_neg e1]
        by_cases e2 : (i - 1) / 2 = (k - 1) / 2
        · rw [if_pos e2]
          have := h1 i hi him e
          rw [e2] at this
          exact (Le.of hb).trans this
        · rw [if_neg e2]
          exact h1 i hi him e
  · unfold sw
    have e1 : ((k - 1) / 2 - 1) / 2 ≠ k := by omega
    have e2 : ((k - 1) / 2 - 1) / 2 ≠ (k - 1) / 2 := by omega
    have e3 : i ≠ (k - 1) / 2 := by omega
    rw [if_neg e1, if_neg e2]
    have hq := h1 ((k - 1) / 2) hpp (by omega) hpk
    by_cases e : i = k
    · rw [if_pos e]; exact hq
    · rw [if_neg e, if_neg e3]
      have := h1 i hi him e
      rw [hp] at this
      exact hq.trans this
theorem Dn.done {l : List Int} {g : Nat → Nat} {m k : Nat} (h : Dn l g m k) (hk : ∀ i, 0 < i → i < m → (i - 1) / 2 = k → Le l (g k) (g i)) : Hp l g m := by
  intro i h0 hm
  by_cases e : (i - 1) / 2 = k
  · rw [e]; exact hk i h0 hm e
  · exact h.1 i h0 hm e
theorem Dn.step {l : List Int} {g : Nat → Nat} {m k c : Nat} (h : Dn l g m k) (h0 : 0 < c) (hp : (c - 1) / 2 = k) (hm : c < m) (hb : Bef l (g c) (g k)) (hk : ∀ i, 0 < i → i < m → (i - 1) / 2 = k → Le l (g c) (g i)) : Dn l (sw g k c) m c := by
  obtain ⟨h1, h2⟩ := h
  have hck : c ≠ k := by omega
  refine ⟨fun i hi him hne => ?_, fun i hi him hpi hc => ?_⟩
  · have hip : (i - 1) / 2 ≠ i := by omega
    unfold sw
    by_cases e : i = c
    · subst e
      rw [if_pos hp, if_neg hck, if_pos rfl]
      exact Le.of hb
    · by_cases e1 : i = k
      · subst e1
        rw [if_neg hip, if_neg hne, if_pos rfl]
        exact h2 c h0 hm hp hi
      · rw [if_neg e1, if_neg e]
        by_cases e2 : (i - 1) / 2 = k
        · rw [if_pos e2]
          exact hk i hi him e2
        · rw [if_neg e2, if_neg hne]
          exact h1 i hi him e2
  · unfold sw
    rw [if_pos hp]
    have e1 : i ≠ k := by omega
    have e2 : i ≠ c := by omega
    rw [if_neg e1, if_neg e2]
    have := h1 i hi him (by omega)
    rw [hpi] at this
    exact this
theorem Hp.least {l : List Int} {g : Nat → Nat} {m : Nat} (h : Hp l g m) : ∀ d i, i < m → i ≤ d → Le l (g 0) (g i)
  | 0, i, _, hd => by
    obtain rfl : i = 0 := by omega
    exact Le.refl l _
  | d + 1, i, hm, hd => by
    rcases Nat.eq_zero_or_pos i with rfl | h0
    · exact Le.refl l _
    · exact (Hp.least h d ((i - 1) / 2) (by omega) (by omega)).trans (h i h0 hm)

/-- The list as a function. -/
def nth (h : List Nat) (i : Nat) : Nat := h.getD i 0
theorem nth_get {h : List Nat} {i x : Nat} (e : h[i]? = some x) : nth h i = x := by unfold nth; rw [List.getD_eq_getElem?_getD, e]; rfl
/-- Two places of a list exchanged. -/
def swap (h : List Nat) (a b : Nat) : List Nat := (h.set a (nth h b)).set b (nth h a)
theorem swap_len (h : List Nat) (a b : Nat) : (swap h a b).length = h.length := by simp [swap]
theorem nth_swap {h : List Nat} {a b : Nat} (ha : a < h.length) (hb : b < h.length) (i : Nat) : nth (swap h a b) i = sw (nth h) a b i := by
  show ((h.set a (nth h b)).set b (nth h a)).getD i 0 = if i = a then nth h b else if i = b then nth h a else nth h i
  rw [List.getD_eq_getElem?_getD]
  by_cases e1 : i = b
  · subst e1
    rw [List.getElem?_set_self (by rw [List.length_set]; exact hb), if_pos rfl]
    by_cases e2 : i = a
    · subst e2; rw [if_pos rfl]; rfl
    · rw [if_neg e2]; rfl
  · rw [List.getElem?_set_ne (fun e => e1 e.symm), if_neg e1]
    by_cases e2 : i = a
    · subst e2
      rw [List.getElem?_set_self ha, if_pos rfl]; rfl
    · rw [List.getElem?_set_ne (fun e => e2 e.symm), if_neg e2]
      unfold nth
      rw [List.getD_eq_getElem?_getD]
theorem swap_perm {h : List Nat} {a b : Nat} (ha : a < h.length) (hb : b < h.length) : (swap h a b).Perm h := by
  have := List.set_set_perm ha hb
  unfold swap
  rw [nth_get (List.getElem?_eq_getElem ha), nth_get (List.getElem?_eq_getElem hb)]
  exact this
theorem Hp.congr {l : List Int} {g g' : Nat → Nat} {m : Nat} (h : Hp l g m) (e : ∀ i, i < m → g' i = g i) : Hp l g' m := fun i h0 hm => by
  rw [e i hm, e _ (by omega)]; exact h i h0 hm
theorem Up.congr {l : List Int} {g g' : Nat → Nat} {m k : Nat} (h : Up l g m k) (hk : k < m) (e : ∀ i, i < m → g' i = g i) : Up l g' m k :=
  ⟨fun i h0 hm hne => by rw [e i hm, e _ (by omega)]; exact h.1 i h0 hm hne, fun i h0 hm hp h0k => by rw [e i hm, e _ (by omega)]; exact h.2 i h0 hm hp h0k⟩
theorem Dn.congr {l : List Int} {g g' : Nat → Nat} {m k : Nat} (h : Dn l g m k) (e : ∀ i, i < m → g' i = g i) : Dn l g' m k :=
  ⟨fun i h0 hm hne => by rw [e i hm, e _ (by omega)]; exact h.1 i h0 hm hne, fun i h0 hm hp h0k => by rw [e i hm, e _ (by omega)]; exact h.2 i h0 hm hp h0k⟩
/-- One more, at the end. -/
theorem Up.snoc {l : List Int} {h : List Nat} (hh : Hp l (nth h) h.length) (x : Nat) : Up l (nth (h ++ [x])) (h.length + 1) h.length := by
  have e : ∀ i, i < h.length → nth (h ++ [x]) i = nth h i := fun i hi => by
    unfold nth
    rw [List.getD_eq_getElem?_getD, List.getD_eq_getElem?_getD, List.getElem?_append_left hi]
  refine ⟨fun i h0 hm hne => ?_, fun i h0 hm hp h0k => by omega⟩
  rw [e i (by omega), e _ (by omega)]
  exact hh i h0 (by omega)
/-- The last one in the place of the first. -/
theorem Dn.cut {l : List Int} {h : List Nat} (hh : Hp l (nth h) h.length) (z : Nat) : Dn l (nth ((h.set 0 z).take (h.length - 1))) (h.length - 1) 0 := by
  have e : ∀ i, 0 < i → i < h.length - 1 → nth ((h.set 0 z).take (h.length - 1)) i = nth h i := fun i h0 hi => by
    unfold nth
    rw [List.getD_eq_getElem?_getD, List.getD_eq_getElem?_getD, List.getElem?_take_of_lt hi, List.getElem?_set_ne (by omega)]
  refine ⟨fun i h0 hm hp => ?_, fun i h0 hm hp h0k => by omega⟩
  rw [e i h0 hm, e _ (by omega) (by omega)]
  exact hh i h0 (by omega)
theorem cut_perm {a z : Nat} {h : List Nat} (h0 : h[0]? = some a) (hz : h[h.length - 1]? = some z) : h.Perm (a :: (h.set 0 z).take (h.length - 1)) := by
  cases h with
  | nil => simp at h0
  | cons b t =>
    obtain rfl : b = a := by simpa using h0
    rcases List.eq_nil_or_concat t with rfl | ⟨t', y, rfl⟩
    · simp
    · have : y = z := by simpa using hz
      subst this
      simp only [List.set_cons_zero, List.length_cons, List.concat_eq_append, List.length_append, List.length_nil, Nat.add_sub_cancel, List.take_succ_cons]
      rw [show (t' ++ [y]).take t'.length = t' by simp]
      exact List.Perm.cons _ (List.perm_append_singleton y t')
theorem erase_perm {q : List Nat} {k x : Nat} (h : q[k]? = some x) : q.Perm (x :: q.eraseIdx k) := by
  induction q generalizing k with
  | nil => simp at h
  | cons a r ih =>
    cases k with
    | zero =>
      obtain rfl : a = x := by simpa using h
      simp
    | succ k =>
      rw [List.eraseIdx_cons_succ]
      exact ((ih (by simpa using h)).cons a).trans (List.Perm.swap x a _)
end Go.Proofs.Ythdjgbkooeabfaa

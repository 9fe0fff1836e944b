/-
  Sets of one capacity, each behind the one before it: what each call leaves of them. Layer 3 (bitset).
-/
import Derived.Test.YtpgkeeckncpglaaDoorTwo
namespace Go.Proofs.YtpgkeeckncpglaaDoor
open Go.RowKit

/-- THE SETS: block and words of each, in the order in which they were made. -/
structure Lot (w W : World) (n : Nat) (L : List (Nat × List Nat)) : Prop where
  sets : ∀ (i : Nat) (p : Nat × List Nat), L[i]? = some p → SetAt W p.1 n p.2 ∧ w.heap.size ≤ p.1
  far : ∀ (i j : Nat) (p q : Nat × List Nat), i < j → L[i]? = some p → L[j]? = some q → p.1 + 1 < q.1
  tab : Tab W
  below : Below w.heap.size w W
  pos : 0 < w.heap.size
variable {w W W' : World} {n : Nat} {L : List (Nat × List Nat)} {B C : Nat} {ws vs : List Nat}
theorem Lot.nil (h : Tab W) (hb : Below w.heap.size w W) (hp : 0 < w.heap.size) : Lot w W n [] := by
  refine ⟨fun i p h => ?_, fun i j p q _ h => ?_, h, hb, hp⟩
  · simp at h
  · simp at h
theorem Lot.set (h : Lot w W n L) (i : Nat) (hi : L[i]? = some (B, ws)) : SetAt W B n ws := (h.sets i _ hi).1
theorem Lot.frm (h : Lot w W n L) (hf : Frm W W' []) : Lot w W' n L :=
  ⟨fun i p hp => ⟨(h.sets i p hp).1.frm hf (by simp) (by simp), (h.sets i p hp).2⟩, h.far, h.tab.frm hf (by simp), h.below.trans (hf.toBelow (by simp) h.below.size), h.pos⟩
theorem Lot.more (h : Lot w W n L) (hf : Frm W W' []) (hs : SetAt W' C n vs) (hC : W.heap.size ≤ C) : Lot w W' n (L ++ [(C, vs)]) := by
  have hsz := h.below.size
  refine ⟨fun i p hp => ?_, fun i j p q hij hp hq => ?_, h.tab.frm hf (by simp), h.below.trans (hf.toBelow (by simp) h.below.size), h.pos⟩
  · rw [List.getElem?_append] at hp
    split at hp
    · exact ⟨(h.sets i p hp).1.frm hf (by simp) (by simp), (h.sets i p hp).2⟩
    · have := List.mem_of_getElem? hp
      obtain rfl : p = (C, vs) := by simpa using this
      exact ⟨hs, by show w.heap.size ≤ C; omega⟩
  · rw [List.getElem?_append] at hp hq
    split at hq
    · rename_i hj
      rw [if_pos (by omega)] at hp
      exact h.far i j p q hij hp hq
    · rename_i hj
      have hq' := List.mem_of_getElem? hq
      obtain rfl : q = (C, vs) := by simpa using hq'
      have hl := (List.getElem?_eq_some_iff.1 hq).1
      rw [List.length_singleton] at hl
      rw [if_pos (by omega)] at hp
      have := (h.sets i p hp).1.lt
      show p.1 + 1 < C
      omega
theorem Lot.apart (h : Lot w W n L) (i j : Nat) (hi : L[i]? = some (B, ws)) (hj : L[j]? = some (C, vs)) : (C = B ∧ vs = ws) ∨ (C ≠ B ∧ C ≠ B + 1 ∧ C + 1 ≠ B) := by
  rcases Nat.lt_trichotomy i j with e | e | e
  · have : B + 1 < C := h.far i j _ _ e hi hj
    exact .inr ⟨by omega, by omega, by omega⟩
  · subst e
    rw [hi] at hj
    cases hj
    exact .inl ⟨rfl, rfl⟩
  · have : C + 1 < B := h.far j i _ _ e hj hi
    exact .inr ⟨by omega, by omega, by omega⟩
theorem Lot.turn (h : Lot w W n L) (i : Nat) (hi : L[i]? = some (B, ws)) (hf : Frm W W' [B]) {us : List Nat} (hz : SetAt W' B n us) : Lot w W' n (L.set i (B, us)) := by
  have hlow : w.heap.size ≤ B := (h.sets i _ hi).2
  have hpos := h.pos
  have hil := (List.getElem?_eq_some_iff.1 hi).1
  have key : ∀ (j : Nat) (p : Nat × List Nat), (L.set i (B, us))[j]? = some p → ∃ q : Nat × List Nat, L[j]? = some q ∧ p.1 = q.1 ∧ SetAt W' p.1 n p.2 := fun j p hp => by
    rw [List.getElem?_set] at hp
    by_cases e : i = j
    · subst e
      rw [if_pos rfl, if_pos hil] at hp
      cases hp
      exact ⟨_, hi, rfl, hz⟩
    · rw [if_neg e] at hp
      refine ⟨p, hp, rfl, (h.sets j p hp).1.frm hf ?_ ?_⟩
      · rcases h.apart i j hi hp with ⟨h1, _⟩ | ⟨h1, _, _⟩
        · rcases Nat.lt_or_gt_of_ne e with e2 | e2
          · have := h.far i j _ _ e2 hi hp; simp at this; simp; omega
          · have := h.far j i _ _ e2 hp hi; simp at this; simp; omega
        · simpa using h1
      · rcases Nat.lt_or_gt_of_ne e with e2 | e2
        · have := h.far i j _ _ e2 hi hp; simp at this; simp; omega
        · have := h.far j i _ _ e2 hp hi; simp at this; simp; omega
  refine ⟨fun j p hp => ?_, fun j k p q hjk hp hq => ?_, h.tab.frm hf (by simp; omega), h.below.trans (hf.toBelow (by simpa using hlow) h.below.size), h.pos⟩
  · obtain ⟨q, hq, e, hs⟩ := key j p hp
    exact ⟨hs, by rw [e]; exact (h.sets j q hq).2⟩
  · obtain ⟨p', hp', e1, _⟩ := key j p hp
    obtain ⟨q', hq', e2, _⟩ := key k q hq
    rw [e1, e2]
    exact h.far j k _ _ hjk hp' hq'
theorem Lot.count (h : Lot w W n L) (i : Nat) (hi : L[i]? = some (B, ws)) :
    Calls Tryd.prog 29 #[.pointer (some ⟨B + 1, 0, none⟩)] W fun en W' => en = .returned (.int .i64 (els ws n 0).length) ∧ Lot w W' n L :=
  (callsIn_wide.1 (count_in 3 (Nat.le_refl _) W B n ws (h.set i hi) h.tab)).mono fun _ _ ⟨a, b⟩ => ⟨a, h.frm (Frm.below b)⟩
theorem Lot.has (h : Lot w W n L) (i : Nat) (hi : L[i]? = some (B, ws)) (k : Int) :
    Calls Tryd.prog 16 #[.pointer (some ⟨B + 1, 0, none⟩), .int .i64 k] W fun en W' => en = .returned (.bool (decide (0 ≤ k) && bit ws k.toNat)) ∧ Lot w W' n L :=
  (has_set W B n ws (h.set i hi) k).mono fun _ _ ⟨a, b⟩ => ⟨a, h.frm b⟩
theorem Lot.or (h : Lot w W n L) (i j : Nat) (hi : L[i]? = some (B, ws)) (hj : L[j]? = some (C, vs)) :
    Calls Tryd.prog 18 #[.pointer (some ⟨B + 1, 0, none⟩), .pointer (some ⟨C + 1, 0, none⟩)] W fun en W' => ∃ us, en = .returned (.bool (decide (us ≠ ws))) ∧ Lot w W' n (L.set i (B, us)) ∧ ∀ k, bit us k = (bit ws k || bit vs k) :=
  (or_set W B C n ws vs (h.set i hi) (h.set j hj) (h.apart i j hi hj)).mono fun _ _ ⟨us, a, b, c, d⟩ => ⟨us, a, h.turn i hi d b, c⟩
theorem Lot.sub (h : Lot w W n L) (i j : Nat) (hi : L[i]? = some (B, ws)) (hj : L[j]? = some (C, vs)) :
    Calls Tryd.prog 20 #[.pointer (some ⟨B + 1, 0, none⟩), .pointer (some ⟨C + 1, 0, none⟩)] W fun en W' => ∃ us, en = .returned (.bool (decide (us ≠ ws))) ∧ Lot w W' n (L.set i (B, us)) ∧ ∀ k, bit us k = (bit ws k && !bit vs k) :=
  (sub_set W B C n ws vs (h.set i hi) (h.set j hj) (h.apart i j hi hj)).mono fun _ _ ⟨us, a, b, c, d⟩ => ⟨us, a, h.turn i hi d b, c⟩
theorem Lot.and (h : Lot w W n L) (i j : Nat) (hi : L[i]? = some (B, ws)) (hj : L[j]? = some (C, vs)) :
    Calls Tryd.prog 22 #[.pointer (some ⟨B + 1, 0, none⟩), .pointer (some ⟨C + 1, 0, none⟩)] W fun en W' => ∃ us, en = .returned (.bool (decide (us ≠ ws))) ∧ Lot w W' n (L.set i (B, us)) ∧ ∀ k, bit us k = (bit ws k && bit vs k) :=
  (and_set W B C n ws vs (h.set i hi) (h.set j hj) (h.apart i j hi hj)).mono fun _ _ ⟨us, a, b, c, d⟩ => ⟨us, a, h.turn i hi d b, c⟩
theorem Lot.clone (h : Lot w W n L) (i : Nat) (hi : L[i]? = some (B, ws)) :
    Calls Tryd.prog 24 #[.pointer (some ⟨B + 1, 0, none⟩)] W fun en W' => en = .returned (.pointer (some ⟨W.heap.size + 1, 0, none⟩)) ∧ Lot w W' n (L ++ [(W.heap.size, ws)]) ∧ Frm W W' [] :=
  (clone_set W B n ws (h.set i hi)).mono fun _ _ ⟨a, b, c⟩ => ⟨a, h.more c b (Nat.le_refl _), c⟩
theorem Lot.equal (h : Lot w W n L) (i j : Nat) (hi : L[i]? = some (B, ws)) (hj : L[j]? = some (C, vs)) :
    Calls Tryd.prog 27 #[.pointer (some ⟨B + 1, 0, none⟩), .pointer (some ⟨C + 1, 0, none⟩)] W fun en W' => en = .returned (.bool (decide (ws = vs))) ∧ Lot w W' n L :=
  (equal_set W B C n n ws vs (h.set i hi) (h.set j hj)).mono fun _ _ ⟨a, b⟩ => ⟨by rw [a]; simp, h.frm b⟩
theorem Lot.of (h : Lot w W n L) (v : Value) (l : List Int) (hn : n ≤ 65536) (hl : Rd W .i64 v l) :
    Calls Tryd.prog 10 #[.int .i64 n, v] W fun en W' => en = .returned (.pointer (some ⟨W.heap.size + 1, 0, none⟩)) ∧ ∃ ws, Lot w W' n (L ++ [(W.heap.size, ws)]) ∧ (∀ i, bit ws i = (decide (i < n) && decide ((i : Int) ∈ l))) ∧ Frm W W' [] :=
  (of_any n v l W hn hl).mono fun _ _ ⟨a, ws, b, c, d⟩ => ⟨a, ws, h.more d b (Nat.le_refl _), c, d⟩

/-- What turns beside the sets leaves them. -/
theorem Lot.beside (h : Lot w W n L) {S : List Nat} (hf : Frm W W' S) (hS : ∀ g ∈ S, w.heap.size ≤ g ∧ ∀ p ∈ L, p.1 ≠ g ∧ p.1 + 1 ≠ g) : Lot w W' n L := by
  have hpos := h.pos
  refine ⟨fun i p hp => ⟨(h.sets i p hp).1.frm hf (fun hg => ((hS _ hg).2 p (List.mem_of_getElem? hp)).1 rfl) (fun hg => ((hS _ hg).2 p (List.mem_of_getElem? hp)).2 rfl), (h.sets i p hp).2⟩, h.far, h.tab.frm hf (fun hg => by have := (hS _ hg).1; omega), h.below.trans (hf.toBelow (fun g hg => (hS g hg).1) h.below.size), h.pos⟩
theorem Lot.addNew (h : Lot w W n L) (i : Nat) (hi : L[i]? = some (B, ws)) (k : Nat) (hk : k < n) (hb : bit ws k = false) :
    Calls Tryd.prog 12 #[.pointer (some ⟨B + 1, 0, none⟩), .int .i64 k] W fun en W' => en = .returned (.bool true) ∧ ∃ us, Lot w W' n (L.set i (B, us)) ∧ ∀ j, bit us j = (decide (j = k) || bit ws j) :=
  (add_new W B n ws (h.set i hi) k hk hb).mono fun _ _ ⟨a, us, b, c, d⟩ => ⟨a, us, h.turn i hi d b, c⟩
theorem Lot.addOld (h : Lot w W n L) (i : Nat) (hi : L[i]? = some (B, ws)) (k : Int) (hk : k < 0 ∨ n ≤ k ∨ bit ws k.toNat = true) :
    Calls Tryd.prog 12 #[.pointer (some ⟨B + 1, 0, none⟩), .int .i64 k] W fun en W' => en = .returned (.bool false) ∧ Lot w W' n L :=
  (add_same W B n ws (h.set i hi) k hk).mono fun _ _ ⟨a, b⟩ => ⟨a, h.frm b⟩
theorem Lot.delOld (h : Lot w W n L) (i : Nat) (hi : L[i]? = some (B, ws)) (k : Nat) (hk : k < n) (hb : bit ws k = true) :
    Calls Tryd.prog 14 #[.pointer (some ⟨B + 1, 0, none⟩), .int .i64 k] W fun en W' => en = .returned (.bool true) ∧ ∃ us, Lot w W' n (L.set i (B, us)) ∧ ∀ j, bit us j = (!decide (j = k) && bit ws j) :=
  (remove_old W B n ws (h.set i hi) k hk hb).mono fun _ _ ⟨a, us, b, c, d⟩ => ⟨a, us, h.turn i hi d b, c⟩

theorem Lot.countIs {w W : World} {n : Nat} {L : List (Nat × List Nat)} {B : Nat} {ws : List Nat} (h : Lot w W n L) (i : Nat) (hi : L[i]? = some (B, ws)) {c : Nat} (e : c = (els ws n 0).length) :
    Calls Tryd.prog 29 #[.pointer (some ⟨B + 1, 0, none⟩)] W fun en W' => en = .returned (.int .i64 c) ∧ Lot w W' n L :=
  (h.count i hi).mono fun _ _ ⟨a, b⟩ => ⟨by rw [a, e], b⟩
theorem Lot.hasIs {w W : World} {n : Nat} {L : List (Nat × List Nat)} {B : Nat} {ws : List Nat} (h : Lot w W n L) (i : Nat) (hi : L[i]? = some (B, ws)) (k : Nat) {x : Bool} (e : bit ws k = x) :
    Calls Tryd.prog 16 #[.pointer (some ⟨B + 1, 0, none⟩), .int .i64 k] W fun en W' => en = .returned (.bool x) ∧ Lot w W' n L :=
  (h.has i hi k).mono fun _ _ ⟨a, b⟩ => ⟨by rw [a, Int.toNat_natCast, e, decide_eq_true (by omega)]; simp, b⟩

theorem Lot.equalIs (h : Lot w W n L) (i j : Nat) (hi : L[i]? = some (B, ws)) (hj : L[j]? = some (C, vs)) {x : Bool} (e : decide (ws = vs) = x) :
    Calls Tryd.prog 27 #[.pointer (some ⟨B + 1, 0, none⟩), .pointer (some ⟨C + 1, 0, none⟩)] W fun en W' => en = .returned (.bool x) ∧ Lot w W' n L :=
  (h.equal i j hi hj).mono fun _ _ ⟨a, b⟩ => ⟨by rw [a, e], b⟩

/-- How many are in one list, and in another. -/
theorem els_sum (ws vs us bs : List Nat) (n : Nat) (hu : ∀ k, bit us k = (bit ws k || bit vs k)) (hb : ∀ k, bit bs k = (bit ws k && bit vs k)) : (els us n 0).length + (els bs n 0).length = (els ws n 0).length + (els vs n 0).length := by
  unfold els
  generalize List.range' 0 (n - 0) = l
  induction l with
  | nil => rfl
  | cons a r ih =>
    simp only [List.filter_cons, hu, hb]
    cases bit ws a <;> cases bit vs a <;> simp at ih ⊢ <;> omega
theorem els_parts (ws vs ms bs : List Nat) (n : Nat) (hm : ∀ k, bit ms k = (bit ws k && !bit vs k)) (hb : ∀ k, bit bs k = (bit ws k && bit vs k)) : (els ms n 0).length + (els bs n 0).length = (els ws n 0).length := by
  unfold els
  generalize List.range' 0 (n - 0) = l
  induction l with
  | nil => rfl
  | cons a r ih =>
    simp only [List.filter_cons, hm, hb]
    cases bit ws a <;> cases bit vs a <;> simp at ih ⊢ <;> omega
end Go.Proofs.YtpgkeeckncpglaaDoor

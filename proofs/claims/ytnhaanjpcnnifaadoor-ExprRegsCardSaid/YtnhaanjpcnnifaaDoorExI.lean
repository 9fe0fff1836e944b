/-
  Layer 23 (expr): the text of a node, and that different expressions have different texts (no program is named here).
-/
import Derived.Lib.ItoaNum
import Derived.Test.YtnhaanjpcnnifaaDoorExF
namespace Go.Proofs.YtnhaanjpcnnifaaDoor
open Go.RowKit Go.Lib

/-- The text of a name, or of the number of what has none. -/
def nmE (nm : List UInt8) (i : Int) : List UInt8 := if nm = [] then itoa i else nm
def fmtN (x : NdD) : List UInt8 := if x.op = 4 ∧ x.ty = 0 then 114 :: itoa x.n else nmE (nameM x.op) x.op ++ 58 :: (nmE (tnameM x.ty) x.ty ++ 58 :: itoa x.n)
def digB (b : UInt8) : Bool := decide (48 ≤ b.toNat) && decide (b.toNat < 58)
/-- The number that digits stand for. -/
def valD (l : List UInt8) : Nat := l.foldl (fun a b => a * 10 + (b.toNat - 48)) 0
theorem dig_lt {k : Nat} (h : k < 10) : (UInt8.ofNat (48 + k)).toNat = 48 + k := by
  rw [UInt8.toNat_ofNat']
  exact Nat.mod_eq_of_lt (by omega)
theorem dec_dig (u : Nat) : ∀ b ∈ decDigits u, digB b = true := by
  induction u using Nat.strongRecOn with
  | _ u ih =>
    intro b hb
    rw [decDigits] at hb
    split at hb
    · rename_i h
      rw [List.mem_singleton] at hb
      subst hb
      unfold digB
      rw [dig_lt h]
      simp
      omega
    · rename_i h
      rw [List.mem_append, List.mem_singleton] at hb
      rcases hb with hb | hb
      · exact ih (u / 10) (by omega) b hb
      · subst hb
        unfold digB
        rw [dig_lt (Nat.mod_lt _ (by omega))]
        simp
        omega
theorem dec_val (u : Nat) : valD (decDigits u) = u := by
  induction u using Nat.strongRecOn with
  | _ u ih =>
    rw [decDigits]
    split
    · rename_i h
      unfold valD
      rw [List.foldl_cons, List.foldl_nil, dig_lt h]
      omega
    · rename_i h
      have h1 := ih (u / 10) (by omega)
      unfold valD at h1 ⊢
      rw [List.foldl_append, h1, List.foldl_cons, List.foldl_nil, dig_lt (Nat.mod_lt _ (by omega))]
      omega
theorem dec_ne (u : Nat) : decDigits u ≠ [] := by
  rw [decDigits]
  split <;> simp
theorem dec_inj {u v : Nat} (h : decDigits u = decDigits v) : u = v := by rw [← dec_val u, h, dec_val]
theorem itoa_ne (n : Int) : itoa n ≠ [] := by
  unfold itoa
  split
  · simp
  · exact dec_ne _
theorem itoa_byte (n : Int) : ∀ b ∈ itoa n, digB b = true ∨ b = 45 := by
  intro b hb
  unfold itoa at hb
  split at hb
  · rw [List.mem_cons] at hb
    rcases hb with hb | hb
    · exact .inr hb
    · exact .inl (dec_dig _ b hb)
  · exact .inl (dec_dig _ b hb)
theorem dec_no45 (u : Nat) (l : List UInt8) : decDigits u ≠ 45 :: l := fun h => by
  have := dec_dig u 45 (by rw [h]; exact List.mem_cons_self)
  revert this
  decide
theorem itoa_inj {n m : Int} (h : itoa n = itoa m) : n = m := by
  unfold itoa at h
  split at h <;> split at h
  · injection h with _ h
    have := dec_inj h
    omega
  · exact absurd h.symm (dec_no45 _ _)
  · exact absurd h (dec_no45 _ _)
  · have := dec_inj h
    omega
/-- The names: letters and digits, a letter ahead. -/
def nmOk (l : List UInt8) : Bool := match l with
  | [] => true
  | b :: r => decide (97 ≤ b.toNat) && decide (b.toNat < 123) && r.all fun c => digB c || (decide (97 ≤ c.toNat) && decide (c.toNat < 123))
theorem nms_ok : (opNames.all nmOk && tyNames.all nmOk) = true := by decide
theorem nms_inj : ∀ i : Nat, i < 34 → ∀ j : Nat, j < 34 → opNames.getD i [] = opNames.getD j [] → i = j := by decide
theorem tns_inj : ∀ i : Nat, i < 8 → ∀ j : Nat, j < 8 → tyNames.getD i [] = tyNames.getD j [] → i = j := by decide
theorem nms_ne : ∀ i : Nat, i < 34 → 1 ≤ i → opNames.getD i [] ≠ [] := by decide
theorem tns_ne : ∀ i : Nat, i < 8 → tyNames.getD i [] ≠ [] := by decide
theorem getD_all {p : List UInt8 → Bool} (l : List (List UInt8)) (h : l.all p = true) (h0 : p [] = true) (i : Nat) : p (l.getD i []) = true := by
  rw [List.getD]
  cases hi : l[i]? with
  | none => exact h0
  | some s => exact List.all_eq_true.1 h s (List.mem_of_getElem? hi)
theorem name_ok (op : Int) : nmOk (nameM op) = true := by
  unfold nameM
  split
  · exact getD_all _ (by have := nms_ok; rw [Bool.and_eq_true] at this; exact this.1) rfl _
  · rfl
theorem tname_ok (t : Int) : nmOk (tnameM t) = true := by
  unfold tnameM
  split
  · exact getD_all _ (by have := nms_ok; rw [Bool.and_eq_true] at this; exact this.2) rfl _
  · rfl
/-- A token: neither a space nor a colon, and not empty. -/
def tokB (l : List UInt8) : Prop := l ≠ [] ∧ (32 : UInt8) ∉ l ∧ (58 : UInt8) ∉ l
theorem itoa_tok (n : Int) : tokB (itoa n) := by
  refine ⟨itoa_ne n, fun h => ?_, fun h => ?_⟩ <;>
  · rcases itoa_byte n _ h with h | h
    · revert h; decide
    · revert h; decide
theorem nm_tok {l : List UInt8} (h : nmOk l = true) (hn : l ≠ []) : tokB l := by
  match l, hn with
  | b :: r, hn =>
    unfold nmOk at h
    rw [Bool.and_eq_true, Bool.and_eq_true, List.all_eq_true] at h
    have key : ∀ c : UInt8, (c.toNat = 32 ∨ c.toNat = 58) → c ∉ b :: r := fun c hc hm => by
      rcases List.mem_cons.1 hm with e | hm
      · subst e
        have h1 := h.1.1
        rw [decide_eq_true_eq] at h1
        omega
      · have h1 := h.2 c hm
        unfold digB at h1
        simp only [Bool.or_eq_true, Bool.and_eq_true, decide_eq_true_eq] at h1
        omega
    exact ⟨hn, key 32 (.inl rfl), key 58 (.inr rfl)⟩
theorem nmE_tok {l : List UInt8} {i : Int} (h : nmOk l = true) : tokB (nmE l i) := by
  unfold nmE
  split
  · exact itoa_tok i
  · exact nm_tok h (by assumption)
theorem nm_noitoa {l : List UInt8} {i : Int} (h : nmOk l = true) : l ≠ itoa i := fun e => by
  obtain ⟨b, r, hb⟩ := List.exists_cons_of_ne_nil (itoa_ne i)
  have h1 := itoa_byte i b (by rw [hb]; exact List.mem_cons_self)
  rw [e, hb] at h
  unfold nmOk at h
  rw [Bool.and_eq_true, Bool.and_eq_true] at h
  have h2 := h.1.1
  rw [decide_eq_true_eq] at h2
  rcases h1 with h1 | h1
  · unfold digB at h1
    simp only [Bool.and_eq_true, decide_eq_true_eq] at h1
    omega
  · subst h1
    revert h2
    decide
theorem nmE_op {a b : Int} (h : nmE (nameM a) a = nmE (nameM b) b) : a = b := by
  unfold nmE at h
  split at h <;> split at h
  · exact itoa_inj h
  · exact absurd h.symm (nm_noitoa (name_ok b))
  · exact absurd h (nm_noitoa (name_ok a))
  · rename_i h1 h2
    unfold nameM at h h1 h2
    split at h1
    · split at h2
      · rename_i ha hb
        rw [if_pos ha, if_pos hb] at h
        have := nms_inj a.toNat (by omega) b.toNat (by omega) h
        omega
      · exact absurd rfl h2
    · exact absurd rfl h1
theorem nmE_ty {a b : Int} (h : nmE (tnameM a) a = nmE (tnameM b) b) : a = b := by
  unfold nmE at h
  split at h <;> split at h
  · exact itoa_inj h
  · exact absurd h.symm (nm_noitoa (tname_ok b))
  · exact absurd h (nm_noitoa (tname_ok a))
  · rename_i h1 h2
    unfold tnameM at h h1 h2
    split at h1
    · split at h2
      · rename_i ha hb
        rw [if_pos ha, if_pos hb] at h
        have := tns_inj a.toNat (by omega) b.toNat (by omega) h
        omega
      · exact absurd rfl h2
    · exact absurd rfl h1
/-- Two texts that are split at their first separator. -/
theorem cut_at {c : UInt8} : ∀ {a b r s : List UInt8}, c ∉ a → c ∉ b → a ++ c :: r = b ++ c :: s → a = b ∧ r = s
  | [], [], r, s, _, _, h => by
    injection h with _ h
    exact ⟨rfl, h⟩
  | [], y :: b, r, s, _, hb, h => by
    injection h with h _
    exact absurd (by rw [h]; exact List.mem_cons_self) hb
  | x :: a, [], r, s, ha, _, h => by
    injection h with h _
    exact absurd (by rw [h]; exact List.mem_cons_self) ha
  | x :: a, y :: b, r, s, ha, hb, h => by
    injection h with h1 h2
    obtain ⟨h3, h4⟩ := cut_at (fun hm => ha (List.mem_cons_of_mem _ hm)) (fun hm => hb (List.mem_cons_of_mem _ hm)) h2
    exact ⟨by rw [h1, h3], h4⟩
theorem fmtN_ne (x : NdD) : fmtN x ≠ [] := by
  unfold fmtN
  split <;> simp
theorem fmtN_sp (x : NdD) : (32 : UInt8) ∉ fmtN x := by
  unfold fmtN
  split
  · intro h
    rcases List.mem_cons.1 h with h | h
    · revert h; decide
    · exact (itoa_tok _).2.1 h
  · intro h
    rw [List.mem_append, List.mem_cons, List.mem_append, List.mem_cons] at h
    rcases h with h | h | h | h | h
    · exact (nmE_tok (name_ok _)).2.1 h
    · revert h; decide
    · exact (nmE_tok (tname_ok _)).2.1 h
    · revert h; decide
    · exact (itoa_tok _).2.1 h
theorem fmtN_inj {x y : NdD} (h : fmtN x = fmtN y) : x = y := by
  obtain ⟨a, t, n⟩ := x
  obtain ⟨b, u, m⟩ := y
  unfold fmtN at h
  simp only at h
  have col : ∀ (k : Int) (p q : List UInt8), (114 : UInt8) :: itoa k ≠ p ++ 58 :: q := fun k p q e => by
    have : (58 : UInt8) ∈ (114 : UInt8) :: itoa k := by rw [e]; simp
    rcases List.mem_cons.1 this with h | h
    · revert h; decide
    · exact (itoa_tok _).2.2 h
  split at h <;> split at h
  · rename_i h1 h2
    injection h with _ h
    obtain rfl := itoa_inj h
    obtain ⟨rfl, rfl⟩ := h1
    obtain ⟨rfl, rfl⟩ := h2
    rfl
  · exact absurd h (col _ _ _)
  · exact absurd h.symm (col _ _ _)
  · obtain ⟨h1, h2⟩ := cut_at (nmE_tok (name_ok _)).2.2 (nmE_tok (name_ok _)).2.2 h
    obtain ⟨h3, h4⟩ := cut_at (nmE_tok (tname_ok _)).2.2 (nmE_tok (tname_ok _)).2.2 h2
    obtain rfl := nmE_op h1
    obtain rfl := nmE_ty h3
    obtain rfl := itoa_inj h4
    rfl
theorem tail_inj : ∀ {a b : List NdD}, (a.flatMap fun y => 32 :: fmtN y) = (b.flatMap fun y => 32 :: fmtN y) → a = b
  | [], [], _ => rfl
  | [], y :: b, h => by simp at h
  | x :: a, [], h => by simp at h
  | x :: a, y :: b, h => by
    have h0 : fmtN x ++ (a.flatMap fun y => 32 :: fmtN y) = fmtN y ++ (b.flatMap fun y => 32 :: fmtN y) := by
      rw [List.flatMap_cons, List.flatMap_cons] at h
      injection h with _ h
    have key : fmtN x = fmtN y ∧ (a.flatMap fun y => 32 :: fmtN y) = (b.flatMap fun y => 32 :: fmtN y) := by
      clear h
      match a, b, h0 with
      | [], [], h => exact ⟨by simpa using h, rfl⟩
      | [], z :: b, h =>
        rw [List.flatMap_nil, List.append_nil] at h
        exact absurd (by rw [h]; simp) (fmtN_sp x)
      | z :: a, [], h =>
        rw [List.flatMap_nil, List.append_nil] at h
        exact absurd (by rw [← h]; simp) (fmtN_sp y)
      | z :: a, u :: b, h =>
        have h2 : fmtN x ++ 32 :: (fmtN z ++ a.flatMap fun y => 32 :: fmtN y) = fmtN y ++ 32 :: (fmtN u ++ b.flatMap fun y => 32 :: fmtN y) := h
        obtain ⟨h3, h4⟩ := cut_at (fmtN_sp x) (fmtN_sp y) h2
        exact ⟨h3, congrArg (List.cons 32) h4⟩
    obtain rfl := fmtN_inj key.1
    rw [tail_inj key.2]
/-- Different expressions have different texts. -/
theorem txtE_inj {a b : List NdD} (h : txtE fmtN a = txtE fmtN b) : a = b := by
  match a, b, h with
  | [], [], _ => rfl
  | [], y :: b, h =>
    have h2 : fmtN y = [] := (List.append_eq_nil_iff.1 (Eq.symm h)).1
    exact absurd h2 (fmtN_ne y)
  | x :: a, [], h =>
    have h2 : fmtN x = [] := (List.append_eq_nil_iff.1 h).1
    exact absurd h2 (fmtN_ne x)
  | x :: a, y :: b, h =>
    apply tail_inj
    rw [List.flatMap_cons, List.flatMap_cons, List.cons_append, List.cons_append]
    exact congrArg _ h
theorem dec_len (u : Nat) (h : u < 10 ^ 20) : (decDigits u).length ≤ 20 := by
  have key : ∀ (k u : Nat), u < 10 ^ (k + 1) → (decDigits u).length ≤ k + 1 := by
    intro k
    induction k with
    | zero => intro u h; rw [decDigits, dif_pos (by simpa using h)]; simp
    | succ k ih =>
      intro u h
      rw [decDigits]
      split
      · simp
      · rw [List.length_append]
        have := ih (u / 10) (by rw [Nat.pow_succ] at h; omega)
        simp
        omega
  exact key 19 u h
def In64 (z : Int) : Prop := -9223372036854775808 ≤ z ∧ z ≤ 9223372036854775807
theorem itoa_len {n : Int} (h : In64 n) : (itoa n).length ≤ 21 := by
  unfold In64 at h
  unfold itoa
  split
  · have := dec_len n.natAbs (by omega)
    rw [List.length_cons]
    omega
  · have := dec_len n.toNat (by omega)
    omega
theorem nms_len : (opNames.all (fun l => decide (l.length ≤ 20)) && tyNames.all (fun l => decide (l.length ≤ 20))) = true := by decide
theorem nmE_len {l : List UInt8} {i : Int} (h : In64 i) (hl : l.length ≤ 20) : (nmE l i).length ≤ 21 := by
  unfold nmE
  split
  · exact itoa_len h
  · omega
theorem name_len (op : Int) : (nameM op).length ≤ 20 := by
  unfold nameM
  split
  · have := getD_all (p := fun l => decide (l.length ≤ 20)) opNames (by have := nms_len; rw [Bool.and_eq_true] at this; exact this.1) rfl op.toNat
    simpa using this
  · simp
theorem tname_len (t : Int) : (tnameM t).length ≤ 20 := by
  unfold tnameM
  split
  · have := getD_all (p := fun l => decide (l.length ≤ 20)) tyNames (by have := nms_len; rw [Bool.and_eq_true] at this; exact this.2) rfl t.toNat
    simpa using this
  · simp
def NdD.In (x : NdD) : Prop := In64 x.op ∧ In64 x.ty ∧ In64 x.n
theorem fmtN_len {x : NdD} (h : x.In) : (fmtN x).length ≤ 100 := by
  unfold fmtN
  split
  · have := itoa_len h.2.2
    rw [List.length_cons]
    omega
  · have h1 := itoa_len h.2.2
    have h2 := nmE_len h.1 (name_len x.op)
    have h3 := nmE_len h.2.1 (tname_len x.ty)
    rw [List.length_append, List.length_cons, List.length_append, List.length_cons]
    omega
end Go.Proofs.YtnhaanjpcnnifaaDoor

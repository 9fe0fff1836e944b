/-
  Layer 20 (cfg): what collect gathers. No program is named here.
-/
import Derived.Test.YthnehmfdadgklaaCfS
namespace Go.Proofs.Ythnehmfdadgklaa
open Go.RowKit Go.Deep

/-- Position p mentions register r. -/
def addAt (p : Int × Int) (L : List (List (Int × Int))) (r : Int) : List (List (Int × Int)) := if 0 ≤ r ∧ r < L.length then match L[r.toNat]? with
    | some l => if endsB l p then L else L.set r.toNat (l ++ [p])
    | none => L
  else L
def stepPos (M : Int → Int → List Int) (L : List (List (Int × Int))) (p : Int × Int) : List (List (Int × Int)) := (M p.1 p.2).foldl (addAt p) L
def blkPos (a cnt : Nat) : List (Int × Int) := (List.range cnt).map fun (k : Nat) => ((a : Int), (k : Int) - 1)
def insLen (d : FnD) (i : Nat) : Nat := match d.blocks[i]? with
  | some b => b.ins.length
  | none => 0
def posTo (d : FnD) (a : Nat) : List (Int × Int) := (List.range a).flatMap fun i => blkPos i (insLen d i + 2)
def colL (d : FnD) (M : Int → Int → List Int) (a cnt : Nat) : List (List (Int × Int)) := (posTo d a ++ blkPos a cnt).foldl (stepPos M) (List.replicate d.regs.length [])
/-- Within a position: the first j of its registers. -/
def colIn (d : FnD) (M : Int → Int → List Int) (a cnt j : Nat) : List (List (Int × Int)) := ((M a ((cnt : Int) - 1)).take j).foldl (addAt ((a : Int), (cnt : Int) - 1)) (colL d M a cnt)
theorem colIn_zero (d : FnD) (M : Int → Int → List Int) (a cnt : Nat) : colIn d M a cnt 0 = colL d M a cnt := rfl
theorem blkPos_succ (a cnt : Nat) : blkPos a (cnt + 1) = blkPos a cnt ++ [((a : Int), (cnt : Int) - 1)] := by
  unfold blkPos
  rw [List.range_succ, List.map_append]
  rfl
theorem colIn_all (d : FnD) (M : Int → Int → List Int) (a cnt : Nat) : colIn d M a cnt (M a ((cnt : Int) - 1)).length = colL d M a (cnt + 1) := by
  unfold colIn colL
  rw [List.take_length, blkPos_succ, ← List.append_assoc, List.foldl_append (l' := [((a : Int), (cnt : Int) - 1)])]
  rfl
theorem colIn_next (d : FnD) (M : Int → Int → List Int) (a cnt j : Nat) {r : Int} (h : (M a ((cnt : Int) - 1))[j]? = some r) : colIn d M a cnt (j + 1) = addAt ((a : Int), (cnt : Int) - 1) (colIn d M a cnt j) r := by
  have hj := (List.getElem?_eq_some_iff.1 h).1
  have e1 : (M a ((cnt : Int) - 1))[j] = r := (List.getElem?_eq_some_iff.1 h).2
  unfold colIn
  rw [List.take_succ_eq_append_getElem hj, e1, List.foldl_append]
  rfl
theorem posTo_succ (d : FnD) (a : Nat) : posTo d (a + 1) = posTo d a ++ blkPos a (insLen d a + 2) := by
  unfold posTo
  rw [List.range_succ, List.flatMap_append]
  simp
theorem colL_block {d : FnD} {M : Int → Int → List Int} {a : Nat} {b : BkD} (h : d.blocks[a]? = some b) : colL d M a (b.ins.length + 2) = colL d M (a + 1) 0 := by
  have e1 : insLen d a = b.ins.length := by unfold insLen; rw [h]
  unfold colL
  rw [posTo_succ, e1]
  simp [blkPos]
theorem addAt_len (p : Int × Int) (L : List (List (Int × Int))) (r : Int) : (addAt p L r).length = L.length := by
  unfold addAt
  split
  · split
    · split
      · rfl
      · simp
    · rfl
  · rfl
theorem foldAdd_len (p : Int × Int) : ∀ (rs : List Int) (L : List (List (Int × Int))), (rs.foldl (addAt p) L).length = L.length
  | [], _ => rfl
  | r :: rs, L => by rw [List.foldl_cons, foldAdd_len p rs, addAt_len]
theorem foldStep_len (M : Int → Int → List Int) : ∀ (ps : List (Int × Int)) (L : List (List (Int × Int))), (ps.foldl (stepPos M) L).length = L.length
  | [], _ => rfl
  | p :: ps, L => by
    rw [List.foldl_cons, foldStep_len M ps]
    exact foldAdd_len p _ L
theorem colL_len (d : FnD) (M : Int → Int → List Int) (a cnt : Nat) : (colL d M a cnt).length = d.regs.length := by
  unfold colL
  rw [foldStep_len]
  simp
theorem colIn_len (d : FnD) (M : Int → Int → List Int) (a cnt j : Nat) : (colIn d M a cnt j).length = d.regs.length := by
  unfold colIn
  rw [foldAdd_len, colL_len]
/-- Every row is at most n long; what ends with p may be one longer. -/
def Within (n : Nat) (p : Int × Int) (L : List (List (Int × Int))) : Prop := ∀ l ∈ L, l.length ≤ n ∨ l.length ≤ n + 1 ∧ endsB l p = true
theorem Within.add {n : Nat} {p : Int × Int} {L : List (List (Int × Int))} (h : Within n p L) (r : Int) : Within n p (addAt p L r) := by
  unfold addAt
  split
  · split
    · rename_i l hl
      split
      · exact h
      · rename_i hne
        intro x hx
        rcases List.mem_or_eq_of_mem_set hx with hx | rfl
        · exact h x hx
        · rcases h l (List.mem_of_getElem? hl) with h1 | h1
          · refine .inr ⟨by simp; omega, by simp [endsB]⟩
          · exact absurd h1.2 hne
    · exact h
  · exact h
theorem Within.fold {n : Nat} {p : Int × Int} : ∀ (rs : List Int) {L : List (List (Int × Int))}, Within n p L → Within n p (rs.foldl (addAt p) L)
  | [], _, h => h
  | r :: rs, L, h => by rw [List.foldl_cons]; exact Within.fold rs (h.add r)
theorem col_bound (M : Int → Int → List Int) : ∀ (ps : List (Int × Int)) (L : List (List (Int × Int))) (n : Nat), (∀ l ∈ L, l.length ≤ n) → ∀ l ∈ ps.foldl (stepPos M) L, l.length ≤ n + ps.length
  | [], _, n, h, l, hl => by have := h l hl; simp; omega
  | p :: ps, L, n, h, l, hl => by
    rw [List.foldl_cons] at hl
    have h1 : ∀ l ∈ stepPos M L p, l.length ≤ n + 1 := fun l hl => by
      have hw : Within n p L := fun l hl => .inl (h l hl)
      rcases hw.fold (M p.1 p.2) l hl with h2 | h2
      · omega
      · exact h2.1
    have := col_bound M ps _ (n + 1) h1 l hl
    simp
    omega
theorem blkPos_len (a cnt : Nat) : (blkPos a cnt).length = cnt := by simp [blkPos]
theorem posTo_len (d : FnD) (K : Nat) (hK : ∀ i, insLen d i + 2 ≤ K) : ∀ a, (posTo d a).length ≤ a * K
  | 0 => by simp [posTo]
  | a + 1 => by
    rw [posTo_succ, List.length_append, blkPos_len, Nat.succ_mul]
    have := posTo_len d K hK a
    have := hK a
    omega
theorem insLen_le {d : FnD} (hs : d.small) (i : Nat) : insLen d i + 2 ≤ 1000002 := by
  unfold insLen
  split
  · rename_i b hb
    have := (hs.2 b (List.mem_of_getElem? hb)).1
    omega
  · omega
/-- The rows stay short. -/
theorem colIn_bound {d : FnD} (M : Int → Int → List Int) (hs : d.small) {a cnt j : Nat} (ha : a ≤ d.blocks.length) (hc : cnt ≤ 1000002) : ∀ l ∈ colIn d M a cnt j, l.length ≤ 2000000000000 := by
  intro l hl
  have h1 : ∀ l ∈ colL d M a cnt, l.length ≤ 0 + (posTo d a ++ blkPos a cnt).length := col_bound M _ _ 0 (fun l hl => by rw [(List.mem_replicate.1 hl).2]; simp)
  have h2 := posTo_len d 1000002 (insLen_le hs) a
  have h3 : a * 1000002 ≤ 1000000 * 1000002 := Nat.mul_le_mul_right _ (Nat.le_trans ha hs.1)
  have hw : Within (0 + (posTo d a ++ blkPos a cnt).length) ((a : Int), (cnt : Int) - 1) (colL d M a cnt) := fun l hl => .inl (h1 l hl)
  have h4 := hw.fold ((M a ((cnt : Int) - 1)).take j) l hl
  rw [List.length_append, blkPos_len] at h4
  rcases h4 with h4 | h4
  · omega
  · have := h4.1; omega
theorem addAt_out {p : Int × Int} {L : List (List (Int × Int))} {r : Int} (h : ¬ (0 ≤ r ∧ r < L.length)) : addAt p L r = L := by unfold addAt; rw [if_neg h]
theorem addAt_old {p : Int × Int} {L : List (List (Int × Int))} {r : Nat} {l : List (Int × Int)} (hl : L[r]? = some l) (he : endsB l p = true) : addAt p L r = L := by
  have hr := (List.getElem?_eq_some_iff.1 hl).1
  unfold addAt
  rw [if_pos ⟨by omega, by omega⟩, Int.toNat_natCast, hl]
  simp [he]
theorem addAt_new {p : Int × Int} {L : List (List (Int × Int))} {r : Nat} {l : List (Int × Int)} (hl : L[r]? = some l) (he : endsB l p = false) : addAt p L r = L.set r (l ++ [p]) := by
  have hr := (List.getElem?_eq_some_iff.1 hl).1
  unfold addAt
  rw [if_pos ⟨by omega, by omega⟩, Int.toNat_natCast, hl]
  simp [he]
/-- A row of positions lies in no block of another type. -/
theorem OwnN.ne_whole {w : World} {base m : Nat} {e : TypeId} {v : Value} {rows : List (List Value)} (h : OwnN w base e m v rows) {g : Nat} {t : TypeId} {cs : Array Value} (hw : Whole w g t cs) (hne : e ≠ t) : v.ownBlock ≠ some g := by
  rcases h.1.2 with ⟨rfl, _⟩ | ⟨g', cap, cur, rfl, _, hh, _⟩
  · simp [Value.ownBlock]
  · intro e1
    have e2 : g' = g := by simpa [Value.ownBlock] using e1
    subst e2
    unfold Whole at hw
    rw [hw] at hh
    injection hh with hh
    injection hh with _ hh _
    exact hne hh.symm
end Go.Proofs.Ythnehmfdadgklaa

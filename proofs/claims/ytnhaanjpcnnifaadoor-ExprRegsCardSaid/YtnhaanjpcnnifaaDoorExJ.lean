/-
  Layer 23 (expr): the registers of an expression: sorting and striking what is there twice, and inserting in place, give one list (no program is named here).
-/
import Derived.Test.YtnhaanjpcnnifaaDoorExM
namespace Go.Proofs.YtnhaanjpcnnifaaDoor
open Go.RowKit

def keepAt (l : List Int) (j : Nat) : Bool := decide (j = 0 ∨ l.getD j 0 ≠ l.getD (j - 1) 0)
def ddTo (l : List Int) (k : Nat) : List Int := ((List.range k).filter (keepAt l)).map (fun j => l.getD j 0)
/-- Runs of equal numbers made one. -/
def dd (l : List Int) : List Int := ddTo l l.length
theorem ddTo_succ (l : List Int) (k : Nat) : ddTo l (k + 1) = ddTo l k ++ (if keepAt l k = true then [l.getD k 0] else []) := by
  unfold ddTo
  rw [List.range_succ, List.filter_append, List.map_append]
  congr 1
  cases h : keepAt l k <;> simp [h]
/-- Inserting in place. -/
def insR (x : Int) : List Int → List Int
  | [] => [x]
  | y :: r => if x ≤ y then x :: (y :: r).filter (fun z => decide (z ≠ x)) else y :: insR x r
def regsE (e : List NdD) : List Int := (e.filter fun x => decide (x.op = 4)).map NdD.n
def insE (e : List NdD) : List Int := (regsE e).foldl (fun o x => insR x o) []
theorem insR_mem (x z : Int) : ∀ l : List Int, z ∈ insR x l ↔ z = x ∨ z ∈ l
  | [] => by simp [insR]
  | y :: r => by
    unfold insR
    split
    · simp only [List.mem_cons, List.mem_filter, decide_eq_true_eq]
      constructor
      · rintro (h | ⟨h, _⟩)
        · exact .inl h
        · exact .inr h
      · intro h
        by_cases hz : z = x
        · exact .inl hz
        · exact .inr ⟨h.resolve_left hz, hz⟩
    · rw [List.mem_cons, List.mem_cons, insR_mem x z r]
      constructor
      · rintro (h | h | h)
        · exact .inr (.inl h)
        · exact .inl h
        · exact .inr (.inr h)
      · rintro (h | h | h)
        · exact .inr (.inl h)
        · exact .inl h
        · exact .inr (.inr h)
theorem insR_srt (x : Int) : ∀ l : List Int, l.Pairwise (· < ·) → (insR x l).Pairwise (· < ·)
  | [], _ => by simp [insR]
  | y :: r, h => by
    unfold insR
    split
    · rename_i hxy
      refine List.pairwise_cons.2 ⟨fun z hz => ?_, h.filter _⟩
      rw [List.mem_filter, decide_eq_true_eq] at hz
      have h1 : y ≤ z := by
        rcases List.mem_cons.1 hz.1 with h2 | h2
        · omega
        · have := (List.pairwise_cons.1 h).1 z h2
          omega
      have := hz.2
      omega
    · rename_i hxy
      refine List.pairwise_cons.2 ⟨fun z hz => ?_, insR_srt x r (List.pairwise_cons.1 h).2⟩
      rw [insR_mem] at hz
      rcases hz with h2 | h2
      · omega
      · exact (List.pairwise_cons.1 h).1 z h2
theorem srt_ext : ∀ {a b : List Int}, a.Pairwise (· < ·) → b.Pairwise (· < ·) → (∀ x, x ∈ a ↔ x ∈ b) → a = b
  | [], [], _, _, _ => rfl
  | [], y :: b, _, _, h => absurd ((h y).2 List.mem_cons_self) (by simp)
  | x :: a, [], _, _, h => absurd ((h x).1 List.mem_cons_self) (by simp)
  | x :: a, y :: b, ha, hb, h => by
    have hxy : x = y := by
      rcases List.mem_cons.1 ((h x).1 List.mem_cons_self) with h1 | h1
      · exact h1
      · rcases List.mem_cons.1 ((h y).2 List.mem_cons_self) with h2 | h2
        · exact h2.symm
        · have h3 := (List.pairwise_cons.1 ha).1 y h2
          have h4 := (List.pairwise_cons.1 hb).1 x h1
          omega
    subst hxy
    rw [srt_ext (List.pairwise_cons.1 ha).2 (List.pairwise_cons.1 hb).2 fun z => ?_]
    constructor
    · intro hz
      rcases List.mem_cons.1 ((h z).1 (List.mem_cons_of_mem _ hz)) with h1 | h1
      · have := (List.pairwise_cons.1 ha).1 z hz
        omega
      · exact h1
    · intro hz
      rcases List.mem_cons.1 ((h z).2 (List.mem_cons_of_mem _ hz)) with h1 | h1
      · have := (List.pairwise_cons.1 hb).1 z hz
        omega
      · exact h1
theorem fold_ins : ∀ (l o : List Int), o.Pairwise (· < ·) → (l.foldl (fun o x => insR x o) o).Pairwise (· < ·) ∧ ∀ z, z ∈ l.foldl (fun o x => insR x o) o ↔ z ∈ l ∨ z ∈ o
  | [], o, h => ⟨h, fun z => by simp⟩
  | x :: l, o, h => by
    obtain ⟨h1, h2⟩ := fold_ins l (insR x o) (insR_srt x o h)
    refine ⟨h1, fun z => ?_⟩
    rw [List.foldl_cons, h2, insR_mem, List.mem_cons]
    constructor
    · rintro (h | h | h)
      · exact .inl (.inr h)
      · exact .inl (.inl h)
      · exact .inr h
    · rintro ((h | h) | h)
      · exact .inr (.inl h)
      · exact .inl h
      · exact .inr (.inr h)
theorem dd_inv (l : List Int) (h : l.Pairwise (· ≤ ·)) : ∀ k, k ≤ l.length → (ddTo l k).Pairwise (· < ·) ∧ ∀ x, x ∈ ddTo l k ↔ x ∈ l.take k
  | 0, _ => ⟨by simp [ddTo], fun x => by simp [ddTo]⟩
  | k + 1, hk => by
    obtain ⟨h1, h2⟩ := dd_inv l h k (by omega)
    have hlt : k < l.length := by omega
    have hv : l.getD k 0 = l[k] := by rw [List.getD, List.getElem?_eq_getElem hlt]; rfl
    have hle := List.pairwise_iff_getElem.1 h
    rw [ddTo_succ]
    have ht : l.take (k + 1) = l.take k ++ [l[k]] := by rw [List.take_append_getElem]
    cases hkp : keepAt l k with
    | true =>
      rw [if_pos rfl, hv]
      constructor
      · refine List.pairwise_append.2 ⟨h1, by simp, fun a ha b hb => ?_⟩
        rw [List.mem_singleton] at hb
        subst hb
        obtain ⟨i, hi, hia⟩ := List.mem_iff_getElem.1 ((h2 a).1 ha)
        rw [List.length_take] at hi
        rw [List.getElem_take] at hia
        subst hia
        unfold keepAt at hkp
        rw [decide_eq_true_eq] at hkp
        rcases hkp with h0 | h0
        · omega
        · have hp : l.getD (k - 1) 0 = l[k - 1]'(by omega) := by rw [List.getD, List.getElem?_eq_getElem (by omega)]; rfl
          rw [hv, hp] at h0
          have h3 := hle (k - 1) k (by omega) hlt (by omega)
          rcases Nat.lt_or_ge i (k - 1) with h4 | h4
          · have h5 := hle i (k - 1) (by omega) (by omega) h4
            omega
          · have h6 : i = k - 1 := by omega
            subst h6
            omega
      · intro x
        rw [ht, List.mem_append, List.mem_append, h2]
    | false =>
      rw [if_neg (by simp), List.append_nil]
      refine ⟨h1, fun x => ?_⟩
      rw [ht, List.mem_append, h2, List.mem_singleton]
      constructor
      · exact .inl
      · rintro (h3 | h3)
        · exact h3
        · subst h3
          unfold keepAt at hkp
          rw [decide_eq_false_iff_not, not_or, Classical.not_not] at hkp
          have hp : l.getD (k - 1) 0 = l[k - 1]'(by omega) := by rw [List.getD, List.getElem?_eq_getElem (by omega)]; rfl
          rw [hv, hp] at hkp
          rw [hkp.2]
          exact List.mem_iff_getElem.2 ⟨k - 1, by rw [List.length_take]; omega, by rw [List.getElem_take]⟩
def srtI (l : List Int) : List Int := l.mergeSort fun x y => decide (x ≤ y)
theorem srtI_srt (l : List Int) : (srtI l).Pairwise (· ≤ ·) := by
  have := List.pairwise_mergeSort (le := fun x y : Int => decide (x ≤ y)) (fun a b c h1 h2 => by simp only [decide_eq_true_eq] at *; omega) (fun a b => by simp only [Bool.or_eq_true, decide_eq_true_eq]; omega) l
  exact this.imp fun h => by simpa using h
theorem srtI_mem (l : List Int) (x : Int) : x ∈ srtI l ↔ x ∈ l := (List.mergeSort_perm l _).mem_iff
/-- The two ways give one list. -/
theorem dd_ins (l : List Int) : dd (srtI l) = l.foldl (fun o x => insR x o) [] := by
  obtain ⟨h1, h2⟩ := dd_inv (srtI l) (srtI_srt l) (srtI l).length (Nat.le_refl _)
  obtain ⟨h3, h4⟩ := fold_ins l [] List.Pairwise.nil
  refine srt_ext h1 h3 fun x => ?_
  unfold dd at *
  rw [h2, List.take_length, srtI_mem, h4]
  simp
theorem dd_len (l : List Int) : (dd l).length ≤ l.length := by
  unfold dd ddTo
  rw [List.length_map]
  exact Nat.le_trans (List.length_filter_le _ _) (by simp)
theorem regsE_append (a b : List NdD) : regsE (a ++ b) = regsE a ++ regsE b := by simp [regsE]
theorem regsE_len (e : List NdD) : (regsE e).length ≤ e.length := by
  unfold regsE
  rw [List.length_map]
  exact List.length_filter_le _ _
end Go.Proofs.YtnhaanjpcnnifaaDoor

/-
  The dictionary of a list of keys, layer 4 (intern): what a map that holds each key's place reads as. No program is named here.
-/
import Derived.Test.YtcenbpjkndhlgaaVals
import Derived.Laws.Strings
namespace Go.Proofs.Ytcenbpjkndhlgaa
open Go.RowKit Go.Maps

/-- Bytes, as integers. -/
def Byt (l : List Int) : Prop := ∀ z ∈ l, 0 ≤ z ∧ z ≤ 255
theorem strInts_nums (l : List Int) (h : Byt l) : strInts (strOfNums l) = l := by
  unfold strInts
  rw [strOfNums_data, List.map_map]
  conv => rhs; rw [← List.map_id l]
  refine List.map_congr_left fun x hx => ?_
  have := h x hx
  show ((UInt8.ofNat x.toNat).toNat : Int) = x
  rw [UInt8.toNat_ofNat']
  omega
theorem nums_inj {l m : List Int} (hl : Byt l) (hm : Byt m) (h : strOfNums l = strOfNums m) : l = m := by
  rw [← strInts_nums l hl, ← strInts_nums m hm, h]
theorem str_ne {l m : List Int} (hl : Byt l) (hm : Byt m) (h : l ≠ m) : ((strOfNums l).toList == (strOfNums m).toList) = false := by
  rw [beq_eq_false_iff_ne, Go.ByteArray.toList_eq, Go.ByteArray.toList_eq]
  intro e
  refine h (nums_inj hl hm ?_)
  have := Array.toList_inj.1 e
  cases hx : strOfNums l; cases hy : strOfNums m
  rw [hx, hy] at this
  rw [ByteArray.mk.injEq]; exact this
/-- The key as a map's literal. -/
def kl (l : List Int) : Lit := .string (strOfNums l).data.toList
theorem kl_inj {l m : List Int} (hl : Byt l) (hm : Byt m) (h : kl l = kl m) : l = m := by
  refine nums_inj hl hm ?_
  unfold kl at h
  injection h with h
  have := Array.toList_inj.1 h
  cases hx : strOfNums l; cases hy : strOfNums m
  rw [hx, hy] at this
  rw [ByteArray.mk.injEq]; exact this
theorem kl_key (l : List Int) : WideAt.IsKeyLit (kl l) := by unfold kl WideAt.IsKeyLit; trivial

/-- The list of keys, newest first, as a map. -/
def dictR : List (List Int) → DataW Unit
  | [] => .map []
  | k :: r => (dictR r).put (kl k) (.lit (.int .i64 r.length))
def dict (ks : List (List Int)) : DataW Unit := dictR ks.reverse
theorem dict_nil : dict [] = .map [] := rfl
theorem dict_snoc (ks : List (List Int)) (k : List Int) : dict (ks ++ [k]) = (dict ks).put (kl k) (.lit (.int .i64 ks.length)) := by
  unfold dict; rw [List.reverse_append]; simp [dictR]
theorem isMap_dictR : ∀ ks, IsMap (dictR ks)
  | [] => isMap_empty
  | _ :: r => (isMap_dictR r).put _ _
theorem has_dictR (s : List Int) (hs : Byt s) : ∀ ks : List (List Int), (∀ k ∈ ks, Byt k) → Maps.has (dictR ks) (kl s) = decide (s ∈ ks)
  | [], _ => by simp [dictR, has_eq]
  | k :: r, h => by
    by_cases e : s = k
    · subst e
      rw [dictR, has_put_same (isMap_dictR r) (kl_key _)]
      simp
    · have hne : kl s ≠ kl k := fun h1 => e (kl_inj hs (h k (by simp)) h1)
      rw [dictR, has_put_other hne, has_dictR s hs r (fun x hx => h x (by simp [hx]))]
      simp [e]
theorem has_dict (s : List Int) (hs : Byt s) (ks : List (List Int)) (h : ∀ k ∈ ks, Byt k) : Maps.has (dict ks) (kl s) = decide (s ∈ ks) := by
  unfold dict; rw [has_dictR s hs _ (by simpa using h)]; simp
/-- Where a key stands: its index, or nought. -/
def pos (ks : List (List Int)) (s : List Int) : Int := if s ∈ ks then (ks.idxOf s : Int) else 0
theorem at_dict (s : List Int) (hs : Byt s) : ∀ r : List (List Int), (∀ k ∈ r, Byt k) → r.Nodup → (dictR r).atKey (kl s) (.lit (.int .i64 0)) = .lit (.int .i64 (pos r.reverse s))
  | [], _, _ => by simp [dictR, pos]; rfl
  | k :: r, h, hn => by
    obtain ⟨hk, hn⟩ := List.nodup_cons.1 hn
    by_cases e : s = k
    · subst e
      rw [dictR, atKey_put_same (isMap_dictR r) (kl_key _)]
      unfold pos
      rw [if_pos (by simp), List.reverse_cons, List.idxOf_append]
      simp [hk]
    · have hne : kl s ≠ kl k := fun h1 => e (kl_inj hs (h k (by simp)) h1)
      rw [dictR, atKey_put_other hne, at_dict s hs r (fun x hx => h x (by simp [hx])) hn]
      unfold pos
      by_cases hm : s ∈ r
      · rw [if_pos (by simpa using hm), if_pos (by simp [hm]), List.reverse_cons, List.idxOf_append, if_pos (by simpa using hm)]
      · rw [if_neg (by simpa using hm), if_neg (by simp [hm, e])]
theorem at_dict' (s : List Int) (hs : Byt s) (ks : List (List Int)) (h : ∀ k ∈ ks, Byt k) (hn : ks.Nodup) : (dict ks).atKey (kl s) (.lit (.int .i64 0)) = .lit (.int .i64 (pos ks s)) := by
  unfold dict
  rw [at_dict s hs _ (by simpa using h) (List.pairwise_reverse.2 (hn.imp Ne.symm)), List.reverse_reverse]

/-- The keys that a table may hold. -/
structure Keys (ks : List (List Int)) : Prop where
  nodup : ks.Nodup
  byt : ∀ k ∈ ks, Byt k
  len : ks.length ≤ 65536
theorem Keys.nil : Keys [] := ⟨List.nodup_nil, fun _ h => (by cases h), by simp⟩
theorem Keys.snoc {ks : List (List Int)} {s : List Int} (h : Keys ks) (hs : Byt s) (hn : s ∉ ks) (hl : ks.length < 65536) : Keys (ks ++ [s]) := by
  refine ⟨?_, ?_, ?_⟩
  · rw [List.nodup_append]
    refine ⟨h.nodup, by simp, ?_⟩
    intro a ha b hb e
    simp at hb; subst hb; subst e; exact hn ha
  · intro k hk
    rcases List.mem_append.1 hk with h1 | h1
    · exact h.byt k h1
    · simp at h1; subst h1; exact hs
  · simp; omega
theorem pos_range {ks : List (List Int)} {s : List Int} (h : s ∈ ks) : 0 ≤ pos ks s ∧ pos ks s < ks.length := by
  unfold pos
  rw [if_pos h]
  have := List.idxOf_lt_length_iff.2 h
  omega
end Go.Proofs.Ytcenbpjkndhlgaa

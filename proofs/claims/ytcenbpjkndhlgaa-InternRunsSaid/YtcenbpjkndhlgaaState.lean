/-
  A table and a law's own list of its keys, layer 4 (intern).
-/
import Derived.Test.YtcenbpjkndhlgaaAwake
namespace Go.Proofs.Ytcenbpjkndhlgaa
open Go.RowKit Go.Maps

theorem infoU8 : (Try.prog.info? 5).map (fun i => (i.zero, i.size, i.bytes)) = some (some (.int .u8 0), 1, 1) := by kernel_rfl
theorem bytesE : ElemI Try.prog 29 5 .u8 1 := ⟨Try.underlying29, Try.underlying5, info_parts infoU8⟩

/-- The keys as strings. -/
def strs (ks : List (List Int)) : List Value := ks.map fun k => .string (strOfNums k)
theorem strs_snoc (ks : List (List Int)) (l : List Int) : strs ks ++ [.string (strOfNums l)] = strs (ks ++ [l]) := by simp [strs]

/-- The table, and the list of its keys in a row of the law's own. -/
def St (w : World) (B : Nat) (F : List Nat) (n : Int) (ks : List (List Int)) (kv : Value) : Prop :=
  TblAt w B F n ks ∧ OwnV w B 9 kv (strs ks) ∧ (∀ g ∈ F, kv.ownBlock ≠ some g) ∧ Keys ks ∧ ∀ k ∈ ks, k.length ≤ 200
theorem St.frm {w w' : World} {B : Nat} {F S : List Nat} {n : Int} {ks : List (List Int)} {kv : Value} (h : St w B F n ks kv) (hf : Frm w w' S) (hs : ∀ g ∈ S, g ∉ F ∧ kv.ownBlock ≠ some g) : St w' B F n ks kv := by
  obtain ⟨h1, h2, h3, h4, h5⟩ := h
  exact ⟨h1.frm hf (fun g hg hS => (hs g hS).1 hg), h2.frm hf (fun g hg hS => (hs g hS).2 hg), h3, h4, h5⟩
theorem St.fresh {w w' : World} {B g : Nat} {F : List Nat} {n : Int} {ks : List (List Int)} {kv : Value} (h : St w B F n ks kv) (hf : Frm w w' [g]) (hg : w.heap.size ≤ g) : St w' B F n ks kv := h.frm hf (fun g' hg' => by
  obtain rfl : g' = g := by simpa using hg'
  exact ⟨fun hF => by have := (h.1.lt g' hF).2; omega, fun e => by have := (h.2.1.size g' e).2; omega⟩)
theorem St.below {w w' : World} {B : Nat} {F : List Nat} {n : Int} {ks : List (List Int)} {kv : Value} (h : St w B F n ks kv) (hb : Below w.heap.size w w') : St w' B F n ks kv := h.frm (S := []) (Frm.below hb) (fun _ h => (by cases h))
/-- Behind Add. -/
theorem St.added {w w' : World} {B : Nat} {F F' : List Nat} {n : Int} {ks ks' : List (List Int)} {kv : Value} (h : St w B F n ks kv) (_ht : TblAt w' B F' n ks') (hf : Frm w w' F) (hsub : ∀ g ∈ F', g ∈ F ∨ w.heap.size ≤ g) :
    OwnV w' B 9 kv (strs ks) ∧ ∀ g ∈ F', kv.ownBlock ≠ some g := by
  obtain ⟨_, h2, h3, _⟩ := h
  refine ⟨h2.frm hf (fun g hg hF => h3 g hF hg), fun g hg e => ?_⟩
  rcases hsub g hg with h | h
  · exact h3 g h e
  · have := (h2.size g e).2; omega

theorem addOut_room {n : Int} {ks : List (List Int)} (l : List Int) (h : (ks.length : Int) < n) : addOut n ks l = if l ∈ ks then ((pos ks l, false, 0), ks) else ((ks.length, true, 0), ks ++ [l]) := by
  unfold addOut
  split
  · rfl
  · rw [if_neg (by omega)]
theorem pos_get {ks : List (List Int)} {l : List Int} (h : l ∈ ks) : ∃ p : Nat, pos ks l = p ∧ p < ks.length ∧ ks[p]? = some l := by
  refine ⟨ks.idxOf l, by unfold pos; rw [if_pos h], List.idxOf_lt_length_iff.2 h, ?_⟩
  rw [List.getElem?_eq_getElem (List.idxOf_lt_length_iff.2 h), List.getElem_idxOf]
end Go.Proofs.Ytcenbpjkndhlgaa

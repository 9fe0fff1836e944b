/-
  Layer 8 (domtree): the queries, of the list that Build returned.
-/
import Derived.Test.YtmopnceglnoncaaDomM
import Derived.Test.YtmopnceglnoncaaDomins
import Derived.Test.YtmopnceglnoncaaCommon
import Derived.Test.YtmopnceglnoncaaOut
namespace Go.Proofs.Ytmopnceglnoncaa
open Go.RowKit Go.Shelf

section
variable {g : List (List Int)} {e : Nat} {L P : List Nat} {dm : Nat → Nat}
theorem inT_dom {x : Nat} (hx : x < g.length) : inT g.length (bf L dm) (x : Int) = decide (x ∈ L) := by
  by_cases h : x ∈ L
  · rw [decide_eq_true h]; exact inT_yes hx ((Bt.in_ x).2 h)
  · rw [decide_eq_false h]
    exact decide_eq_false (fun d => h ((Bt.in_ x).1 (by simpa using d.2.2)))
theorem pth_in (B : Bt g e L P dm) {a b : Nat} (hb : b ∈ L) (h : a ∈ pth (bf L dm) (bd L dm) b) : a ∈ L := by
  have := (B.tree.mem _ b rfl (B.sp.tail.bnd b hb) ((Bt.in_ b).2 hb) a h).2.1
  exact (Bt.in_ a).1 this
/-- Does a dominate b? -/
def domB (L : List Nat) (dm : Nat → Nat) (a b : Nat) : Bool := decide (a ∈ L) && decide (b ∈ L) && decide (a ∈ pth (bf L dm) (bd L dm) b)
theorem domB_in (B : Bt g e L P dm) {a b : Nat} (hb : b ∈ L) : domB L dm a b = decide (a ∈ pth (bf L dm) (bd L dm) b) := by
  unfold domB
  by_cases h : a ∈ pth (bf L dm) (bd L dm) b
  · simp [h, hb, pth_in B hb h]
  · simp [h]
theorem dominates_at (B : Bt g e L P dm) (hn : g.length ≤ 65536) (A : Option Addr) (c a b : Nat) (ha : a < g.length) (hb : b < g.length) (w : World) (hI : Rd w .i64 (.slice A g.length c) (fz g.length (bf L dm))) :
    Calls Try.prog 16 #[.slice A g.length c, .int .i64 (a : Nat), .int .i64 (b : Nat)] w fun en w' => en = .returned (.bool (domB L dm a b)) ∧ Below w.heap.size w w' := by
  by_cases h : a ∈ L ∧ b ∈ L
  · have := callsIn_wide.1 (dominates_in B.tree hn 3 (Nat.le_refl _) A c a b ha ((Bt.in_ a).2 h.1) hb ((Bt.in_ b).2 h.2) w hI)
    rw [← domB_in B h.2] at this
    exact this
  · have := callsIn_wide.1 (dominates_out B.tree hn 3 (Nat.le_refl _) A c (a : Nat) (b : Nat) (by
      rw [inT_dom ha, inT_dom hb]
      by_cases h1 : a ∈ L
      · exact .inr (decide_eq_false (fun h2 => h ⟨h1, h2⟩))
      · exact .inl (decide_eq_false h1)) w hI)
    have e : domB L dm a b = false := by
      unfold domB
      by_cases h1 : a ∈ L
      · by_cases h2 : b ∈ L
        · exact absurd ⟨h1, h2⟩ h
        · simp [h2]
      · simp [h1]
    rw [e]; exact this
/-- The nearest common dominator, or -1. -/
def comB (L : List Nat) (dm : Nat → Nat) (a b : Nat) : Int := if a ∈ L ∧ b ∈ L then (cd (bf L dm) (bd L dm) a b : Nat) else -1
theorem common_at (B : Bt g e L P dm) (hn : g.length ≤ 65536) (A : Option Addr) (c a b : Nat) (ha : a < g.length) (hb : b < g.length) (w : World) (hI : Rd w .i64 (.slice A g.length c) (fz g.length (bf L dm))) :
    Calls Try.prog 18 #[.slice A g.length c, .int .i64 (a : Nat), .int .i64 (b : Nat)] w fun en w' => en = .returned (.int .i64 (comB L dm a b)) ∧ Below w.heap.size w w' := by
  by_cases h : a ∈ L ∧ b ∈ L
  · have := callsIn_wide.1 (common_in B.tree hn 3 (Nat.le_refl _) A c a b ha ((Bt.in_ a).2 h.1) hb ((Bt.in_ b).2 h.2) w hI)
    unfold comB
    rw [if_pos h]
    exact this
  · have := callsIn_wide.1 (common_out B.tree hn 3 (Nat.le_refl _) A c (a : Nat) (b : Nat) (by
      rw [inT_dom ha, inT_dom hb]
      by_cases h1 : a ∈ L
      · exact .inr (decide_eq_false (fun h2 => h ⟨h1, h2⟩))
      · exact .inl (decide_eq_false h1)) w hI)
    unfold comB
    rw [if_neg h]
    exact this
/-- What the nearest common dominator is. -/
theorem cd_spec (B : Bt g e L P dm) {a b : Nat} (ha : a ∈ L) (hb : b ∈ L) : ∃ x, cd (bf L dm) (bd L dm) a b = x ∧ x ∈ L ∧ x ∈ pth (bf L dm) (bd L dm) a ∧ x ∈ pth (bf L dm) (bd L dm) b ∧ ∀ d, d ∈ pth (bf L dm) (bd L dm) a → d ∈ pth (bf L dm) (bd L dm) b → d ∈ pth (bf L dm) (bd L dm) x := by
  have T := B.tree
  have ha2 := B.sp.tail.bnd a ha
  have hb2 := B.sp.tail.bnd b hb
  have hfa := (Bt.in_ (L := L) (dm := dm) a).2 ha
  have hfb := (Bt.in_ (L := L) (dm := dm) b).2 hb
  obtain ⟨x, hx⟩ : ∃ x, (pth (bf L dm) (bd L dm) b).find? (fun x => decide (x ∈ pth (bf L dm) (bd L dm) a)) = some x := by
    cases h : (pth (bf L dm) (bd L dm) b).find? (fun x => decide (x ∈ pth (bf L dm) (bd L dm) a)) with
    | some x => exact ⟨x, rfl⟩
    | none => exact absurd (by simpa using T.rootmem _ a rfl ha2 hfa) (List.find?_eq_none.1 h e (T.rootmem _ b rfl hb2 hfb))
  obtain ⟨h1, p, q, h2, h3⟩ := List.find?_eq_some_iff_append.1 hx
  have h1 : x ∈ pth (bf L dm) (bd L dm) a := by simpa using h1
  have hxb : x ∈ pth (bf L dm) (bd L dm) b := by rw [h2]; simp
  refine ⟨x, by unfold cd; rw [hx]; rfl, pth_in B ha h1, h1, hxb, fun d hda hdb => ?_⟩
  rw [(T.suffix p b x q hb2 hfb h2).2.2]
  rw [h2] at hdb
  rcases List.mem_append.1 hdb with h | h
  · have := h3 d h
    simp at this
    exact absurd hda this
  · exact h
end
end Go.Proofs.Ytmopnceglnoncaa

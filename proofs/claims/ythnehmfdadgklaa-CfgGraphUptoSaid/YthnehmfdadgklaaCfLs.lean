/-
  Layer 20 (cfg): lists, of the law: two rows of rows that are the same.
-/
import Derived.Test.YthnehmfdadgklaaCfW
import Derived.Test.YthnehmfdadgklaaCfVd
namespace Go.Proofs.Ythnehmfdadgklaa
open Go.RowKit Go.Deep

set_option maxRecDepth 100000 in
set_option maxHeartbeats 2000000 in
theorem lists_int (A A' : Option Addr) (c c' : Nat) (g : List (List Int)) (w : World) (hu : RdL w A c g) (hv : RdL w A' c' g) :
    Calls Try.prog 11 #[.slice A g.length c, .slice A' g.length c'] w fun e w' => e = .returned (.bool true) ∧ Below w.heap.size w w' := by
  have hc := hu.cap
  have hc' := hv.cap
  have hc9 : c ≤ 9223372036854775807 := by unfold maxLen at hc; omega
  have hc9' : c' ≤ 9223372036854775807 := by unfold maxLen at hc'; omega
  have hcl := hc.1
  have hcl' := hc'.1
  have HU := hide hu
  have HV := hide hv
  clear hu hv hc hc'
  go_enter Try.func11, Try.ntmps11
  go_wp2_with fail
  go_loopw [13] (fun z wr => ∃ k : Nat, k ≤ g.length ∧ z = .int .i64 k ∧ Hid (Below w.heap.size w wr)) (fun z _ => g.length - (intOf z).toNat)
  case atStart => exact ⟨0, Nat.zero_le _, rfl, hide (Below.refl _ _)⟩
  case round =>
    obtain ⟨wq, rfl⟩ : ∃ x, x = wr := ⟨_, rfl⟩
    obtain ⟨k, hk, rfl, hB⟩ := hrel
    by_cases hlt : k < g.length
    · obtain ⟨l, hl⟩ : ∃ l, g[k]? = some l := ⟨_, List.getElem?_eq_getElem hlt⟩
      obtain ⟨b1, o1, B1, d1, rfl, hb1, c1, r1⟩ := (HU.out.below' hB.out).at hl
      obtain ⟨b2, o2, B2, d2, rfl, hb2, c2, r2⟩ := (HV.out.below' hB.out).at hl
      have HC1 := hide c1
      have HC2 := hide c2
      have HR1 := hide r1
      have HR2 := hide r2
      clear hl hb1 hb2 r1 r2 c1 c2
      replace HC1 : Hid (wq.drew.cell? ⟨b1, o1 + k, none⟩ = some (.slice B1 l.length d1)) := hide HC1.out
      replace HC2 : Hid (wq.drew.cell? ⟨b2, o2 + k, none⟩ = some (.slice B2 l.length d2)) := hide HC2.out
      replace HR1 := hide (HR1.out.below' (Below.refl _ _).drew)
      replace HR2 := hide (HR2.out.below' (Below.refl _ _).drew)
      replace hB := hide hB.out.drew
      go_upto_region 6 with fail
      go_region_held3 (fun w' => w'.cell? ⟨b1, o1 + k, none⟩ = some (.slice B1 l.length d1) ∧ w'.cell? ⟨b2, o2 + k, none⟩ = some (.slice B2 l.length d2)) (exact ⟨HC1.out, HC2.out⟩) ((go_at_call 19; refine (equal_int _ _ l l _ HR1.out HR2.out).mono ?_; rintro en wn ⟨rfl, hb⟩; rw [decide_eq_true (rfl : l = l)]; replace HC1 := hide (cell_below hb HC1.out); replace HC2 := hide (cell_below hb HC2.out); replace hB := hide (Below.all hB.out hb); clear hb HR1 HR2))
      all_goals
        go_wp2_with fail
        go_roundw
        case rel => exact ⟨k + 1, by omega, by go_num, hB⟩
        case measure => simp [intOf]; omega
    · go_wp2_with fail
      go_ret
      exact ⟨rfl, hB.out⟩
/-- The rows of a slice of slices of positions. -/
def RdP (w : World) (A : Option Addr) (c : Nat) (g : List (List (Int × Int))) : Prop :=
  ∃ rows : List Value, rows.length = g.length ∧ RdV w (.slice A g.length c) rows ∧ ∀ (i : Nat) (l : List (Int × Int)), g[i]? = some l → ∃ (B : Option Addr) (d : Nat), rows[i]? = some (Value.slice B l.length d) ∧ RdN w 2 (.slice B l.length d) (l.map posC)
theorem RdP.below' {w w' : World} {A : Option Addr} {c : Nat} {g : List (List (Int × Int))} (h : RdP w A c g) (hb : Below w.heap.size w w') : RdP w' A c g := by
  obtain ⟨rows, h1, h2, h3⟩ := h
  exact ⟨rows, h1, h2.below' hb, fun i l hi => by
    obtain ⟨B, d, h4, h5⟩ := h3 i l hi
    exact ⟨B, d, h4, h5.below' hb⟩⟩
theorem RdP.at {w : World} {A : Option Addr} {c : Nat} {g : List (List (Int × Int))} (h : RdP w A c g) {i : Nat} {l : List (Int × Int)} (hi : g[i]? = some l) :
    ∃ b off B d, A = some ⟨b, off, none⟩ ∧ b < w.heap.size ∧ w.cell? ⟨b, off + i, none⟩ = some (Value.slice B l.length d) ∧ RdN w 2 (.slice B l.length d) (l.map posC) := by
  obtain ⟨rows, h1, h2, h3⟩ := h
  obtain ⟨B, d, h4, h5⟩ := h3 i l hi
  obtain ⟨b, off, h6, h7, h8⟩ := h2.at i _ h4
  exact ⟨b, off, B, d, h6, h7, h8, h5⟩
theorem RdP.cap {w : World} {A : Option Addr} {c : Nat} {g : List (List (Int × Int))} (h : RdP w A c g) : g.length ≤ c ∧ c ≤ maxLen := by
  obtain ⟨rows, h1, ⟨A', c', h2, h3, h4, _⟩, _⟩ := h
  injection h2 with e1 e2 e3
  subst e3
  omega

theorem OwnP.rd {w : World} {base D : Nat} {R : List Value} {L : List (List (Int × Int))} (h : OwnP w base D R L) : RdP w (some ⟨D, 0, none⟩) R.length L := by
  refine ⟨R, h.len, ?_, fun i l hl => ?_⟩
  · have := h.own.rd
    rw [← h.len]
    exact this
  · obtain ⟨v, hv⟩ : ∃ v, R[i]? = some v := ⟨_, List.getElem?_eq_getElem (by rw [h.len]; exact (List.getElem?_eq_some_iff.1 hl).1)⟩
    have h1 := (h.row i v l hv hl).rd
    have h2 := h1
    obtain ⟨_, B, d, h3, -⟩ := h1
    rw [List.length_map] at h3
    subst h3
    exact ⟨B, d, hv, h2⟩
set_option maxRecDepth 100000 in
set_option maxHeartbeats 2000000 in
theorem lists_pos (A A' : Option Addr) (c c' : Nat) (g : List (List (Int × Int))) (w : World) (hu : RdP w A c g) (hv : RdP w A' c' g) :
    Calls Try.prog 14 #[.slice A g.length c, .slice A' g.length c'] w fun e w' => e = .returned (.bool true) ∧ Below w.heap.size w w' := by
  have hc := hu.cap
  have hc' := hv.cap
  have hc9 : c ≤ 9223372036854775807 := by unfold maxLen at hc; omega
  have hc9' : c' ≤ 9223372036854775807 := by unfold maxLen at hc'; omega
  have hcl := hc.1
  have hcl' := hc'.1
  have HU := hide hu
  have HV := hide hv
  clear hu hv hc hc'
  go_enter Try.func14, Try.ntmps14
  go_wp2_with fail
  go_loopw [13] (fun z wr => ∃ k : Nat, k ≤ g.length ∧ z = .int .i64 k ∧ Hid (Below w.heap.size w wr)) (fun z _ => g.length - (intOf z).toNat)
  case atStart => exact ⟨0, Nat.zero_le _, rfl, hide (Below.refl _ _)⟩
  case round =>
    obtain ⟨wq, rfl⟩ : ∃ x, x = wr := ⟨_, rfl⟩
    obtain ⟨k, hk, rfl, hB⟩ := hrel
    by_cases hlt : k < g.length
    · obtain ⟨l, hl⟩ : ∃ l, g[k]? = some l := ⟨_, List.getElem?_eq_getElem hlt⟩
      obtain ⟨b1, o1, B1, d1, rfl, hb1, c1, r1⟩ := (HU.out.below' hB.out).at hl
      obtain ⟨b2, o2, B2, d2, rfl, hb2, c2, r2⟩ := (HV.out.below' hB.out).at hl
      have HC1 := hide c1
      have HC2 := hide c2
      have HR1 := hide r1
      have HR2 := hide r2
      clear hl hb1 hb2 r1 r2 c1 c2
      replace HC1 : Hid (wq.drew.cell? ⟨b1, o1 + k, none⟩ = some (.slice B1 l.length d1)) := hide HC1.out
      replace HC2 : Hid (wq.drew.cell? ⟨b2, o2 + k, none⟩ = some (.slice B2 l.length d2)) := hide HC2.out
      replace HR1 := hide (HR1.out.below' (Below.refl _ _).drew)
      replace HR2 := hide (HR2.out.below' (Below.refl _ _).drew)
      replace hB := hide hB.out.drew
      go_upto_region 6 with fail
      go_region_held3 (fun w' => w'.cell? ⟨b1, o1 + k, none⟩ = some (.slice B1 l.length d1) ∧ w'.cell? ⟨b2, o2 + k, none⟩ = some (.slice B2 l.length d2)) (exact ⟨HC1.out, HC2.out⟩) ((go_at_call 32; refine (equal_pos _ _ l _ HR1.out HR2.out).mono ?_; rintro en wn ⟨rfl, hb⟩; replace HC1 := hide (cell_below hb HC1.out); replace HC2 := hide (cell_below hb HC2.out); replace hB := hide (Below.all hB.out hb); clear hb HR1 HR2))
      all_goals
        go_wp2_with fail
        go_roundw
        case rel => exact ⟨k + 1, by omega, by go_num, hB⟩
        case measure => simp [intOf]; omega
    · go_wp2_with fail
      go_ret
      exact ⟨rfl, hB.out⟩
end Go.Proofs.Ythnehmfdadgklaa

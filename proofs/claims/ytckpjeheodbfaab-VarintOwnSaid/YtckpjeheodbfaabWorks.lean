import Derived.Test.YtckpjeheodbfaabRStr
import Derived.Test.YtckpjeheodbfaabEq
namespace Go.Proofs.Ytckpjeheodbfaab
open Go.RowKit

theorem strInts_inj {s t : ByteArray} (h : strInts s = strInts t) : s = t := by
  unfold strInts at h
  have h2 : s.data.toList = t.data.toList := by
    have := List.map_inj_right (f := fun c : UInt8 => (c.toNat : Int)) (l := s.data.toList) (l' := t.data.toList) (fun a b hab => by
      have : a.toNat = b.toNat := by have h3 : (a.toNat : Int) = (b.toNat : Int) := hab
                                     omega
      exact UInt8.toNat_inj.1 this)
    exact this.1 h
  cases s; cases t
  simp only [ByteArray.mk.injEq]
  exact Array.toList_inj.1 h2
/-- The bytes of a row of the call's own as a string. -/
theorem conv_own {w : World} {base : Nat} {v : Value} {l : List Int} (h : Own w base 5 .u8 v l) : (convert 22 9 v).run Try.prog w = .ok (.string (strOfNums l)) w := by
  have hr := h.rd
  rcases h.2 with ⟨rfl, h0⟩ | ⟨g, cap, cur, rfl, _⟩
  · obtain rfl : l = [] := List.eq_nil_of_length_eq_zero h0
    exact run_convert_bytes_nil (P := Try.prog) w 22 5 Try.underlying22 Try.underlying5 0 0 _ Try.underlying9
  · refine run_convert_bytes_arg (P := Try.prog) w 22 5 Try.underlying22 Try.underlying5 g 0 l.length cap l rfl ?_ _ Try.underlying9
    intro i hi
    obtain ⟨A, c, e1, _, _, hcell⟩ := hr
    injection e1 with e1 _ _
    subst e1
    obtain ⟨b, off, e2, _, hx⟩ := hcell (by omega)
    injection e2 with e2
    injection e2 with e2 e3
    subst e2 e3
    rw [hx i _ (List.getElem?_eq_getElem hi)]
    simp [List.getD, List.getElem?_eq_getElem hi]

theorem ex_ints : rLi [4, 2, 0, 4, 97, 98] 0 = ([1, 0], [4, 97, 98], 0) := by decide
theorem ex_str : rS [4, 97, 98] 0 = ([97, 98], [], 0) := by decide
theorem ex_app : [9] ++ enc (-64) = [9, 127] := by decide

/-- The examples of the chapter. -/
theorem works_any (w : World) : Calls Try.prog 9 #[] w (LawDone w) := by
  have hv := rd_block (k := .u8) w 5 [4, 2, 0, 4, 97, 98] (by decide)
  have HV := hide hv
  clear hv
  go_enter Try.func9, Try.ntmps9
  go_wp2_with fail
  refine (newReader_any _ [4, 2, 0, 4, 97, 98] _ HV.out (by decide)).mono ?_
  rintro en w1 ⟨g, rfl, hR, hb1, hg⟩
  have HR := hide hR
  have hB1 : Below w.heap.size w w1 := ((Below.refl _ _).alloc (Nat.le_refl _) _).trans (hb1.mono (by simp))
  have hgw : w.heap.size ≤ g := by simp at hg; omega
  have hgl : g < w1.heap.size := by obtain ⟨_, hw, _⟩ := hR; exact hw.lt
  clear hR hb1 hg HV
  go_wp2_with fail
  refine (ints_any g _ _ 0 w1 HR.out (by intro x hx; revert x; decide) (by decide) (Nat.le_of_lt hgl)).mono ?_
  rintro en w2 ⟨v2, rfl, hi2, ha2, hR2, hg2⟩
  rw [ex_ints] at hi2 hR2
  have HI := hide hi2
  have HA2 := hide (ha2 g hgl)
  have HR2 := hide hR2
  have hB2 := hB1.trans (below_only hg2 hgw hB1.size)
  clear hi2 hR2 HR ha2 hB1 hg2
  go_wp2_with fail
  refine (str_any g _ _ 0 w2 HR2.out (by intro x hx; revert x; decide)).mono ?_
  rintro en w3 ⟨s, rfl, hs, hR3, hg3⟩
  rw [ex_str] at hs hR3
  obtain rfl : s = ⟨#[97, 98]⟩ := strInts_inj (hs.trans rfl)
  have HR3 := hide hR3
  have hB3 := hB2.trans (below_only hg3 hgw hB2.size)
  have HI3 := hide (HI.out.only HA2.out hg3)
  have hg3s : g < w3.heap.size := by obtain ⟨_, hw, _⟩ := HR3.out; exact hw.lt
  clear hs hR3 hg3 HI HA2 HR2 hB2
  go_wp2_with fail
  refine (appInt_any _ [9] (-64) _ (rd_block (k := .u8) w3 5 [9] (by decide)) (by omega) (by decide)).mono ?_
  rintro en w4 ⟨v4, rfl, ho4, hb4⟩
  rw [ex_app] at ho4
  have hcv : (convert 22 9 v4).run Try.prog w4 = .ok (.string ⟨#[9, 127]⟩) w4 := conv_own ho4
  have hB34 : Below w3.heap.size w3 w4 := ((Below.refl _ _).alloc (Nat.le_refl _) _).trans (hb4.mono (by simp))
  have hB4 := hB3.trans (hB34.mono hB3.size)
  have HI4 := hide (HI3.out.below' hB34)
  have HR4 := hide (HR3.out.below hB34 hg3s (Nat.le_of_lt hg3s))
  have hg4s : g < w4.heap.size := Nat.lt_of_lt_of_le hg3s hB34.size
  clear ho4 hb4 hB34 HI3 HR3 hB3
  go_wp2_with fail
  refine (eqInts_any _ _ [1, 0] [1, 0] _ (HI4.out.alloc _) (rd_block (k := .i64) w4 3 [1, 0] (by decide))).mono ?_
  rintro en w5 ⟨rfl, hb5⟩
  have hB45 : Below w4.heap.size w4 w5 := ((Below.refl _ _).alloc (Nat.le_refl _) _).trans (hb5.mono (by simp))
  have hB5 := hB4.trans (hB45.mono hB4.size)
  have HR5 := hide (HR4.out.below hB45 hg4s (Nat.le_of_lt hg4s))
  have htrue : decide (([1, 0] : List Int) = [1, 0]) = true := by decide
  rw [htrue]
  clear hb5 hB45 HI4 HR4 hB4 htrue hcv
  go_wp2_with (first | (go_at_call 26; refine (err_any g _ _ 0 _ HR5.out).mono ?_; rintro en w' ⟨rfl, rfl⟩) | (go_at_call 28; refine (len_any g _ _ 0 _ HR5.out).mono ?_; rintro en w' ⟨rfl, rfl⟩))
  refine (newReader_any _ [128] _ (rd_block (k := .u8) w5 5 [128] (by decide)) (by decide)).mono ?_
  rintro en w6 ⟨g6, rfl, hR6, hb6, _⟩
  have HR6 := hide hR6
  have hB6 := hB5.trans (((Below.refl w.heap.size w5).alloc hB5.size _).trans (hb6.mono (by have := hB5.size; simp; omega)))
  clear hR6 hb6 HR5 hB5
  go_wp2_with (go_at_call 26; refine (err_any g6 _ _ 0 _ HR6.out).mono ?_; rintro en w' ⟨rfl, rfl⟩)
  go_ret
  exact ⟨rfl, hB6⟩
end Go.Proofs.Ytckpjeheodbfaab

import Derived.Test.YtckpjeheodbfaaaDoorLaws
namespace Go.Proofs.YtckpjeheodbfaaaDoor
open Go.RowKit

theorem wraps_any (t n : Int) (w : World) (hT : Tab w) : Calls Tryd.prog 3 #[.int .i64 t, .int .i64 n] w (LawDone w) := by
  have f1 : (wrapI t (wrapI t n) == wrapI t n) = true := by simpa using wrap_id (wrap_in t n)
  have f2 : (unsI t (wrapI t n) == unsI t n) = true := beq_iff_eq.2 (wrap_mod t n)
  obtain ⟨f3, f4⟩ := wrap_in t n
  go_enter Tryd.func3, Tryd.ntmps3
  go_wp2_with fail
  refine (wrap_any _ _ _ hT).mono ?_
  rintro e w' ⟨rfl, rfl⟩
  go_wp2_with fail
  refine (uns_any _ _ _ hT).mono ?_
  rintro e w' ⟨rfl, rfl⟩
  go_wp2_with fail
  refine (bits_any _ _ hT).mono ?_
  rintro e w' ⟨rfl, rfl⟩
  go_wp2_with fail
  refine (rwrap_any _ _ _).mono ?_
  rintro e w' ⟨rfl, rfl⟩
  go_wp2_with fail
  refine (runs_any _ _ _).mono ?_
  rintro e w' ⟨rfl, rfl⟩
  go_wp2_with fail
  refine (rbits_any _ _).mono ?_
  rintro e w' ⟨rfl, rfl⟩
  go_wp2_with fail
  refine (awake_any _ hT).mono ?_
  rintro e w1 ⟨rfl, hb1⟩
  have hT1 := hT.below hb1
  have hB1 := hb1
  clear hb1
  go_wp2_with fail
  refine (wrap_any _ _ _ hT1).mono ?_
  rintro e w' ⟨rfl, rfl⟩
  go_wp2_with fail
  refine (uns_any _ _ _ hT1).mono ?_
  rintro e w' ⟨rfl, rfl⟩
  go_wp2_with fail
  refine (rmin_any _ _).mono ?_
  rintro e w' ⟨rfl, rfl⟩
  go_wp2_with fail
  refine (rmax_any _ _).mono ?_
  rintro e w' ⟨rfl, rfl⟩
  go_wp2_with fail
  go_ret
  exact ⟨rfl, hB1⟩

theorem sums_any (t a b : Int) (w : World) (hT : Tab w) : Calls Tryd.prog 4 #[.int .i64 t, .int .i64 a, .int .i64 b] w (LawDone w) := by
  go_enter Tryd.func4, Tryd.ntmps4
  go_wp2_with fail
  refine (wrap_any _ _ _ hT).mono ?_
  rintro e w' ⟨rfl, rfl⟩
  go_wp2_with fail
  refine (wrap_any _ _ _ hT).mono ?_
  rintro e w' ⟨rfl, rfl⟩
  go_wp2_with fail
  refine (add_any _ _ _ _ hT).mono ?_
  rintro e w1 ⟨rfl, hb1⟩
  have hT1 := hT.below hb1
  have hB1 := hb1
  clear hb1
  go_wp2_with fail
  refine (radd_any _ _ _ _).mono ?_
  rintro e w' ⟨rfl, rfl⟩
  go_wp2_with fail
  refine (add_at _ _ _ _ _ (add_again t a b) _ hT1).mono ?_
  rintro e w2 ⟨rfl, hb2⟩
  have hT2 := hT1.below hb2
  have hB2 := hB1.trans (hb2.mono hB1.size)
  clear hb2 hB1 hT1
  go_wp2_with fail
  refine (sub_any _ _ _ _ hT2).mono ?_
  rintro e w3 ⟨rfl, hb3⟩
  have hT3 := hT2.below hb3
  have hB3 := hB2.trans (hb3.mono hB2.size)
  clear hb3 hB2 hT2
  go_wp2_with fail
  refine (rsub_any _ _ _ _).mono ?_
  rintro e w' ⟨rfl, rfl⟩
  go_wp2_with fail
  refine (sub_at _ _ _ _ _ (sub_again t a b) _ hT3).mono ?_
  rintro e w4 ⟨rfl, hb4⟩
  have hT4 := hT3.below hb4
  have hB4 := hB3.trans (hb4.mono hB3.size)
  clear hb4 hB3 hT3
  go_wp2_with fail
  refine (mul_any _ _ _ _ hT4).mono ?_
  rintro e w5 ⟨rfl, hb5⟩
  have hT5 := hT4.below hb5
  have hB5 := hB4.trans (hb5.mono hB4.size)
  clear hb5 hB4 hT4
  go_wp2_with fail
  refine (rmul_any _ _ _ _).mono ?_
  rintro e w' ⟨rfl, rfl⟩
  go_wp2_with fail
  refine (mul_at _ _ _ _ _ (mul_again t a b) _ hT5).mono ?_
  rintro e w6 ⟨rfl, hb6⟩
  have hT6 := hT5.below hb6
  have hB6 := hB5.trans (hb6.mono hB5.size)
  clear hb6 hB5 hT5
  go_wp2_with fail
  refine (awake_any _ hT6).mono ?_
  rintro e w7 ⟨rfl, hb7⟩
  have hT7 := hT6.below hb7
  have hB7 := hB6.trans (hb7.mono hB6.size)
  clear hb7 hB6 hT6
  go_wp2_with fail
  go_ret
  exact ⟨rfl, hB7⟩

end Go.Proofs.YtckpjeheodbfaaaDoor

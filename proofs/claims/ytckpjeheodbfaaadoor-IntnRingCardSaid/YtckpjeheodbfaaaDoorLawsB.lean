import Derived.Test.YtckpjeheodbfaaaDoorLaws
namespace Go.Proofs.YtckpjeheodbfaaaDoor
open Go.RowKit

theorem alloc_drewN (w : World) (c : Array Value) (t : TypeId) (n : Nat) : Below w.heap.size w ((w.alloc (.cells c t)).drewN n) :=
  have h := (Below.refl w.heap.size w).alloc (Nat.le_refl _) (.cells c t)
  ⟨h.os, h.tape, h.output, h.size, h.block⟩

theorem shifts_yes_any (t a n : Int) (w : World) (hT : Tab w) (h : unsI t n < bitsI t) : Calls Tryd.prog 5 #[.int .i64 t, .int .i64 a, .int .i64 n] w (LawDone w) := by
  have H := hide h
  clear h
  go_enter Tryd.func5, Tryd.ntmps5
  go_wp2_with fail
  refine (shl_yes _ _ _ _ hT H.out).mono ?_
  rintro e w' ⟨rfl, rfl⟩
  go_wp2_with fail
  refine (rshl_yes _ _ _ _ H.out).mono ?_
  rintro e w' ⟨rfl, rfl⟩
  go_wp2_with fail
  refine (lshr_yes _ _ _ _ hT H.out).mono ?_
  rintro e w' ⟨rfl, rfl⟩
  go_wp2_with fail
  refine (rlshr_yes _ _ _ _ H.out).mono ?_
  rintro e w' ⟨rfl, rfl⟩
  go_wp2_with fail
  refine (ashr_yes _ _ _ _ hT H.out).mono ?_
  rintro e w' ⟨rfl, rfl⟩
  go_wp2_with fail
  refine (rashr_yes _ _ _ _ H.out).mono ?_
  rintro e w' ⟨rfl, rfl⟩
  go_wp2_with fail
  refine (awake_any _ hT).mono ?_
  rintro e w1 ⟨rfl, hb1⟩
  have hT1 := hT.below hb1
  have hB1 := hb1
  clear hb1
  go_wp2_with fail
  go_ret
  exact ⟨rfl, hB1⟩

theorem shifts_no_any (t a n : Int) (w : World) (hT : Tab w) (h : bitsI t ≤ unsI t n) : Calls Tryd.prog 5 #[.int .i64 t, .int .i64 a, .int .i64 n] w (LawDone w) := by
  have H := hide h
  clear h
  go_enter Tryd.func5, Tryd.ntmps5
  go_wp2_with fail
  refine (shl_no _ _ _ _ hT H.out).mono ?_
  rintro e w' ⟨rfl, rfl⟩
  go_wp2_with fail
  refine (rshl_no _ _ _ _ H.out).mono ?_
  rintro e w' ⟨rfl, rfl⟩
  go_wp2_with fail
  refine (lshr_no _ _ _ _ hT H.out).mono ?_
  rintro e w' ⟨rfl, rfl⟩
  go_wp2_with fail
  refine (rlshr_no _ _ _ _ H.out).mono ?_
  rintro e w' ⟨rfl, rfl⟩
  go_wp2_with fail
  refine (ashr_no _ _ _ _ hT H.out).mono ?_
  rintro e w' ⟨rfl, rfl⟩
  go_wp2_with fail
  refine (rashr_no _ _ _ _ H.out).mono ?_
  rintro e w' ⟨rfl, rfl⟩
  go_wp2_with fail
  refine (awake_any _ hT).mono ?_
  rintro e w1 ⟨rfl, hb1⟩
  have hT1 := hT.below hb1
  have hB1 := hb1
  clear hb1
  go_wp2_with fail
  go_ret
  exact ⟨rfl, hB1⟩

theorem divides_yes_any (t a b : Int) (w : World) (hT : Tab w) (hb : (wrapI t b == 0) = false) : Calls Tryd.prog 6 #[.int .i64 t, .int .i64 a, .int .i64 b] w (LawDone w) := by
  have hb1 : (wrapI t b != 0) = true := by simpa using hb
  have hb2 : ¬ wrapI t b = 0 := by simpa using hb
  have f : (addS t (mulS t (divS t a b) b) (remS t a b) == wrapI t a) = true := beq_iff_eq.2 (div_back t a b)
  go_enter Tryd.func6, Tryd.ntmps6
  go_wp2_with fail
  refine (sdiv_yes _ _ _ _ hT hb).mono ?_
  rintro e w1 ⟨rfl, hb1⟩
  have hT1 := hT.below hb1
  have hB1 := hb1
  clear hb1
  go_wp2_with fail
  refine (srem_yes _ _ _ _ hT1 hb).mono ?_
  rintro e w2 ⟨rfl, hb2⟩
  have hT2 := hT1.below hb2
  have hB2 := hB1.trans (hb2.mono hB1.size)
  clear hb2 hB1 hT1
  go_wp2_with fail
  refine (rsdiv_yes _ _ _ _ hb).mono ?_
  rintro e w' ⟨rfl, rfl⟩
  go_wp2_with fail
  refine (rsrem_yes _ _ _ _ hb).mono ?_
  rintro e w' ⟨rfl, rfl⟩
  go_wp2_with fail
  refine (wrap_any _ _ _ hT2).mono ?_
  rintro e w' ⟨rfl, rfl⟩
  go_wp2_with fail
  refine (mul_any _ _ _ _ hT2).mono ?_
  rintro e w3 ⟨rfl, hb3⟩
  have hT3 := hT2.below hb3
  have hB3 := hB2.trans (hb3.mono hB2.size)
  clear hb3 hB2 hT2
  go_wp2_with fail
  refine (add_any _ _ _ _ hT3).mono ?_
  rintro e w4 ⟨rfl, hb4⟩
  have hT4 := hT3.below hb4
  have hB4 := hB3.trans (hb4.mono hB3.size)
  clear hb4 hB3 hT3
  go_wp2_with fail
  refine (awake_any _ hT4).mono ?_
  rintro e w5 ⟨rfl, hb5⟩
  have hT5 := hT4.below hb5
  have hB5 := hB4.trans (hb5.mono hB4.size)
  clear hb5 hB4 hT4
  go_wp2_with fail
  refine (wrap_any _ _ _ hT5).mono ?_
  rintro e w' ⟨rfl, rfl⟩
  go_wp2_with fail
  go_ret
  exact ⟨rfl, hB5⟩

theorem divides_no_any (t a b : Int) (w : World) (hT : Tab w) (hb : (wrapI t b == 0) = true) : Calls Tryd.prog 6 #[.int .i64 t, .int .i64 a, .int .i64 b] w (LawDone w) := by
  have hb1 : (wrapI t b != 0) = false := by simpa using hb
  go_enter Tryd.func6, Tryd.ntmps6
  go_wp2_with fail
  refine (sdiv_no _ _ _ _ hT hb).mono ?_
  rintro e w1 ⟨rfl, hb1⟩
  have hT1 := hT.below hb1
  have hB1 := hb1
  clear hb1
  go_wp2_with fail
  refine (srem_no _ _ _ _ hT1 hb).mono ?_
  rintro e w2 ⟨rfl, hb2⟩
  have hT2 := hT1.below hb2
  have hB2 := hB1.trans (hb2.mono hB1.size)
  clear hb2 hB1 hT1
  go_wp2_with fail
  refine (rsdiv_no _ _ _ _ hb).mono ?_
  rintro e w' ⟨rfl, rfl⟩
  go_wp2_with fail
  refine (rsrem_no _ _ _ _ hb).mono ?_
  rintro e w' ⟨rfl, rfl⟩
  go_wp2_with fail
  refine (wrap_any _ _ _ hT2).mono ?_
  rintro e w' ⟨rfl, rfl⟩
  go_wp2_with fail
  refine (awake_any _ hT2).mono ?_
  rintro e w3 ⟨rfl, hb3⟩
  have hT3 := hT2.below hb3
  have hB3 := hB2.trans (hb3.mono hB2.size)
  clear hb3 hB2 hT2
  go_wp2_with fail
  go_ret
  exact ⟨rfl, hB3⟩

theorem compares_lt (t u a b : Int) (w : World) (hT : Tab w) (h : unsI t a < unsI t b) : Calls Tryd.prog 7 #[.agg #[.int .i64 t, .int .i64 u], .int .i64 a, .int .i64 b] w (LawDone w) := by
  have n1 : ¬ unsI t b < unsI t a := by omega
  have f : (wrapI t a != wrapI t b) = true := bne_iff_ne.2 (fun e => by have := uns_of_wrap e; omega)
  go_enter Tryd.func7, Tryd.ntmps7
  go_wp2_with fail
  go_quiet (fail)
  have hb0 : Below w.heap.size w ((w.alloc (.cells #[.int .i64 t, .int .i64 u] 33)).drewN nq) := alloc_drewN _ _ _ _
  generalize (w.alloc (.cells #[.int .i64 t, .int .i64 u] 33)).drewN nq = w0 at *
  replace hT := hT.below hb0
  have hB0 := hb0
  clear hb0
  go_wp2_with fail
  refine (ult_any _ _ _ _ hT).mono ?_
  rintro e w' ⟨rfl, rfl⟩
  go_wp2_with fail
  refine (rult_any _ _ _ _).mono ?_
  rintro e w' ⟨rfl, rfl⟩
  go_wp2_with fail
  refine (zext_any _ _ _ _ hT).mono ?_
  rintro e w' ⟨rfl, rfl⟩
  go_wp2_with fail
  refine (rzext_any _ _ _ _).mono ?_
  rintro e w' ⟨rfl, rfl⟩
  go_wp2_with fail
  refine (ult_any _ _ _ _ hT).mono ?_
  rintro e w' ⟨rfl, rfl⟩
  go_wp2_with fail
  refine (ult_any _ _ _ _ hT).mono ?_
  rintro e w' ⟨rfl, rfl⟩
  go_wp2_with fail
  refine (awake_any _ hT).mono ?_
  rintro e w1 ⟨rfl, hb1⟩
  have hT1 := hT.below hb1
  have hB1 := hB0.trans (hb1.mono hB0.size)
  clear hb1 hB0 hT
  go_wp2_with fail
  refine (wrap_any _ _ _ hT1).mono ?_
  rintro e w' ⟨rfl, rfl⟩
  go_wp2_with fail
  refine (wrap_any _ _ _ hT1).mono ?_
  rintro e w' ⟨rfl, rfl⟩
  go_wp2_with fail
  go_ret
  exact ⟨rfl, hB1⟩

theorem compares_gt (t u a b : Int) (w : World) (hT : Tab w) (h : unsI t b < unsI t a) : Calls Tryd.prog 7 #[.agg #[.int .i64 t, .int .i64 u], .int .i64 a, .int .i64 b] w (LawDone w) := by
  have n1 : ¬ unsI t a < unsI t b := by omega
  have f : (wrapI t a != wrapI t b) = true := bne_iff_ne.2 (fun e => by have := uns_of_wrap e; omega)
  go_enter Tryd.func7, Tryd.ntmps7
  go_wp2_with fail
  go_quiet (fail)
  have hb0 : Below w.heap.size w ((w.alloc (.cells #[.int .i64 t, .int .i64 u] 33)).drewN nq) := alloc_drewN _ _ _ _
  generalize (w.alloc (.cells #[.int .i64 t, .int .i64 u] 33)).drewN nq = w0 at *
  replace hT := hT.below hb0
  have hB0 := hb0
  clear hb0
  go_wp2_with fail
  refine (ult_any _ _ _ _ hT).mono ?_
  rintro e w' ⟨rfl, rfl⟩
  go_wp2_with fail
  refine (rult_any _ _ _ _).mono ?_
  rintro e w' ⟨rfl, rfl⟩
  go_wp2_with fail
  refine (zext_any _ _ _ _ hT).mono ?_
  rintro e w' ⟨rfl, rfl⟩
  go_wp2_with fail
  refine (rzext_any _ _ _ _).mono ?_
  rintro e w' ⟨rfl, rfl⟩
  go_wp2_with fail
  refine (ult_any _ _ _ _ hT).mono ?_
  rintro e w' ⟨rfl, rfl⟩
  go_wp2_with fail
  refine (ult_any _ _ _ _ hT).mono ?_
  rintro e w' ⟨rfl, rfl⟩
  go_wp2_with fail
  refine (awake_any _ hT).mono ?_
  rintro e w1 ⟨rfl, hb1⟩
  have hT1 := hT.below hb1
  have hB1 := hB0.trans (hb1.mono hB0.size)
  clear hb1 hB0 hT
  go_wp2_with fail
  refine (wrap_any _ _ _ hT1).mono ?_
  rintro e w' ⟨rfl, rfl⟩
  go_wp2_with fail
  refine (wrap_any _ _ _ hT1).mono ?_
  rintro e w' ⟨rfl, rfl⟩
  go_wp2_with fail
  go_ret
  exact ⟨rfl, hB1⟩

theorem compares_eq (t u a b : Int) (w : World) (hT : Tab w) (h : unsI t a = unsI t b) : Calls Tryd.prog 7 #[.agg #[.int .i64 t, .int .i64 u], .int .i64 a, .int .i64 b] w (LawDone w) := by
  have n1 : ¬ unsI t a < unsI t b := by omega
  have n2 : ¬ unsI t b < unsI t a := by omega
  have f : (wrapI t a != wrapI t b) = false := by simpa using wrap_of_uns h
  clear h
  go_enter Tryd.func7, Tryd.ntmps7
  go_wp2_with fail
  go_quiet (fail)
  have hb0 : Below w.heap.size w ((w.alloc (.cells #[.int .i64 t, .int .i64 u] 33)).drewN nq) := alloc_drewN _ _ _ _
  generalize (w.alloc (.cells #[.int .i64 t, .int .i64 u] 33)).drewN nq = w0 at *
  replace hT := hT.below hb0
  have hB0 := hb0
  clear hb0
  go_wp2_with fail
  refine (ult_any _ _ _ _ hT).mono ?_
  rintro e w' ⟨rfl, rfl⟩
  go_wp2_with fail
  refine (rult_any _ _ _ _).mono ?_
  rintro e w' ⟨rfl, rfl⟩
  go_wp2_with fail
  refine (zext_any _ _ _ _ hT).mono ?_
  rintro e w' ⟨rfl, rfl⟩
  go_wp2_with fail
  refine (rzext_any _ _ _ _).mono ?_
  rintro e w' ⟨rfl, rfl⟩
  go_wp2_with fail
  refine (ult_any _ _ _ _ hT).mono ?_
  rintro e w' ⟨rfl, rfl⟩
  go_wp2_with fail
  refine (ult_any _ _ _ _ hT).mono ?_
  rintro e w' ⟨rfl, rfl⟩
  go_wp2_with fail
  refine (awake_any _ hT).mono ?_
  rintro e w1 ⟨rfl, hb1⟩
  have hT1 := hT.below hb1
  have hB1 := hB0.trans (hb1.mono hB0.size)
  clear hb1 hB0 hT
  go_wp2_with fail
  refine (wrap_any _ _ _ hT1).mono ?_
  rintro e w' ⟨rfl, rfl⟩
  go_wp2_with fail
  refine (wrap_any _ _ _ hT1).mono ?_
  rintro e w' ⟨rfl, rfl⟩
  go_wp2_with fail
  go_ret
  exact ⟨rfl, hB1⟩

theorem ring_any (t a b c : Int) (w : World) (hT : Tab w) : Calls Tryd.prog 8 #[.int .i64 t, .agg #[.int .i64 a, .int .i64 b, .int .i64 c]] w (LawDone w) := by
  have f1 : (subS t (addS t a b) b == wrapI t a) = true := beq_iff_eq.2 (sub_back t a b)
  have f2 : (mulS t (addS t a b) c == addS t (mulS t a c) (mulS t b c)) = true := beq_iff_eq.2 (mul_dist t a b c)
  go_enter Tryd.func8, Tryd.ntmps8
  go_wp2_with fail
  go_quiet (fail)
  have hb0 : Below w.heap.size w ((w.alloc (.cells #[.int .i64 a, .int .i64 b, .int .i64 c] 36)).drewN nq) := alloc_drewN _ _ _ _
  generalize (w.alloc (.cells #[.int .i64 a, .int .i64 b, .int .i64 c] 36)).drewN nq = w0 at *
  replace hT := hT.below hb0
  have hB0 := hb0
  clear hb0
  go_wp2_with fail
  refine (add_any _ _ _ _ hT).mono ?_
  rintro e w1 ⟨rfl, hb1⟩
  have hT1 := hT.below hb1
  have hB1 := hB0.trans (hb1.mono hB0.size)
  clear hb1 hB0 hT
  go_wp2_with fail
  refine (add_at _ _ _ _ _ (add_swap t a b) _ hT1).mono ?_
  rintro e w2 ⟨rfl, hb2⟩
  have hT2 := hT1.below hb2
  have hB2 := hB1.trans (hb2.mono hB1.size)
  clear hb2 hB1 hT1
  go_wp2_with fail
  refine (mul_any _ _ _ _ hT2).mono ?_
  rintro e w3 ⟨rfl, hb3⟩
  have hT3 := hT2.below hb3
  have hB3 := hB2.trans (hb3.mono hB2.size)
  clear hb3 hB2 hT2
  go_wp2_with fail
  refine (mul_at _ _ _ _ _ (mul_swap t a b) _ hT3).mono ?_
  rintro e w4 ⟨rfl, hb4⟩
  have hT4 := hT3.below hb4
  have hB4 := hB3.trans (hb4.mono hB3.size)
  clear hb4 hB3 hT3
  go_wp2_with fail
  refine (sub_any _ _ _ _ hT4).mono ?_
  rintro e w5 ⟨rfl, hb5⟩
  have hT5 := hT4.below hb5
  have hB5 := hB4.trans (hb5.mono hB4.size)
  clear hb5 hB4 hT4
  go_wp2_with fail
  refine (mul_any _ _ _ _ hT5).mono ?_
  rintro e w6 ⟨rfl, hb6⟩
  have hT6 := hT5.below hb6
  have hB6 := hB5.trans (hb6.mono hB5.size)
  clear hb6 hB5 hT5
  go_wp2_with fail
  refine (mul_any _ _ _ _ hT6).mono ?_
  rintro e w7 ⟨rfl, hb7⟩
  have hT7 := hT6.below hb7
  have hB7 := hB6.trans (hb7.mono hB6.size)
  clear hb7 hB6 hT6
  go_wp2_with fail
  refine (mul_any _ _ _ _ hT7).mono ?_
  rintro e w8 ⟨rfl, hb8⟩
  have hT8 := hT7.below hb8
  have hB8 := hB7.trans (hb8.mono hB7.size)
  clear hb8 hB7 hT7
  go_wp2_with fail
  refine (add_any _ _ _ _ hT8).mono ?_
  rintro e w9 ⟨rfl, hb9⟩
  have hT9 := hT8.below hb9
  have hB9 := hB8.trans (hb9.mono hB8.size)
  clear hb9 hB8 hT8
  go_wp2_with fail
  refine (awake_any _ hT9).mono ?_
  rintro e w10 ⟨rfl, hb10⟩
  have hT10 := hT9.below hb10
  have hB10 := hB9.trans (hb10.mono hB9.size)
  clear hb10 hB9 hT9
  go_wp2_with fail
  refine (wrap_any _ _ _ hT10).mono ?_
  rintro e w' ⟨rfl, rfl⟩
  go_wp2_with fail
  go_ret
  exact ⟨rfl, hB10⟩

end Go.Proofs.YtckpjeheodbfaaaDoor

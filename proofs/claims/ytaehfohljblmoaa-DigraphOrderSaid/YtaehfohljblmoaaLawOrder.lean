/-
  DigraphOrder, layer 6 (digraph).
-/
import Derived.Deep.RegionHeld3
import Derived.Test.YtaehfohljblmoaaAwake2
import Derived.Test.YtaehfohljblmoaaSmall
import Derived.Test.YtaehfohljblmoaaRevPost
import Derived.Test.YtaehfohljblmoaaOrderLaw
namespace Go.Proofs.Ytaehfohljblmoaa
open Go.RowKit

/-- What the law holds: the graph, the order, and who is reached. -/
structure Ods (w0 w : World) (tb : Nat) (A : Option Addr) (c : Nat) (g : List (List Int)) (p : Value) (O : List Nat) (base D n : Nat) (f : Nat → Bool) : Prop where
  gr : RdL w A c g
  cell : w.cell? ⟨tb, 0, none⟩ = some (.slice A g.length c)
  path : Rd w .i64 p (ints O)
  reach : OwnV w base 4 (.slice (some ⟨D, 0, none⟩) n n) (bl n f)
  below : Below w0.heap.size w0 w
theorem Ods.next {w0 w w' : World} {tb : Nat} {A : Option Addr} {c : Nat} {g : List (List Int)} {p : Value} {O : List Nat} {base D n : Nat} {f : Nat → Bool} (h : Ods w0 w tb A c g p O base D n f) (hb : Below w.heap.size w w') : Ods w0 w' tb A c g p O base D n f :=
  ⟨h.gr.below' hb, (hb.cell (p := ⟨tb, 0, none⟩) (lt_of_cell h.cell)).trans h.cell, h.path.below' hb, h.reach.below' hb, h.below.trans (hb.mono h.below.size)⟩

theorem int_beq (x a : Nat) : ((x : Int) == (a : Int)) = decide (x = a) := by
  rw [Bool.eq_iff_iff]
  simp
  omega
theorem or_step (X A q P : Bool) : (X || ((A || q) && P)) = ((X || (A && P)) || (q && P)) := by cases X <;> cases A <;> cases q <;> cases P <;> rfl

set_option maxRecDepth 200000 in
set_option maxHeartbeats 8000000 in
theorem lawOrder (A : Option Addr) (c : Nat) (g : List (List Int)) (a : Int) (w : World) (hg : RdL w A c g) (hbig : ∀ l ∈ g, l.length ≤ 17592186044416) :
    Calls Try.prog 4 #[.agg #[.slice A g.length c], .int .i64 a] w (LawDone w) := by
  have hfld := run_field
  have HA : Hid (Below w.heap.size w (w.alloc (.cells #[.slice A g.length c] 24))) := hide ((Below.refl _ _).alloc (Nat.le_refl _) _)
  have HG : Hid (RdL (w.alloc (.cells #[.slice A g.length c] 24)) A c g) := hide (hg.below' HA.out)
  have HBIG := hide hbig
  clear hg hbig
  go_enter Try.func4, Try.ntmps4
  go_wp2_with fail
  refine (awake_any _).mono ?_
  rintro en w1 ⟨rfl, hb⟩
  have HB1 : Hid (Below w.heap.size w w1) := hide (HA.out.trans (hb.mono HA.out.size))
  have HG1 : Hid (RdL w1 A c g) := hide (HG.out.below' hb)
  have hx : w1.cell? ⟨w.heap.size, 0, none⟩ = some (.slice A g.length c) := (hb.cell (p := ⟨w.heap.size, 0, none⟩) (by simp)).trans (by simp [go_sem])
  clear hb HA HG
  go_wp2_with fail
  refine (small_any A c g _ HG1.out HBIG.out).mono ?_
  rintro en w2 ⟨rfl, hb⟩
  have HB2 : Hid (Below w.heap.size w w2) := hide (HB1.out.trans (hb.mono HB1.out.size))
  have HG2 : Hid (RdL w2 A c g) := hide (HG1.out.below' hb)
  have hx2 : w2.cell? ⟨w.heap.size, 0, none⟩ = some (.slice A g.length c) := (hb.cell (p := ⟨w.heap.size, 0, none⟩) (lt_of_cell hx)).trans hx
  clear hb HB1 HG1 hx
  by_cases hs : g.length ≤ 60 ∧ edges g ≤ 300
  · rw [decide_eq_true hs]
    go_wp2_with fail
    refine (check_any A c g _ HG2.out).mono ?_
    rintro en w3 ⟨rfl, hb⟩
    have HB3 : Hid (Below w.heap.size w w3) := hide (HB2.out.trans (hb.mono HB2.out.size))
    have HG3 : Hid (RdL w3 A c g) := hide (HG2.out.below' hb)
    have hx3 : w3.cell? ⟨w.heap.size, 0, none⟩ = some (.slice A g.length c) := (hb.cell (p := ⟨w.heap.size, 0, none⟩) (lt_of_cell hx2)).trans hx2
    clear hb HB2 HG2 hx2
    by_cases hok : codeG g = 0
    · rw [hok]
      by_cases ha : 0 ≤ a ∧ a < g.length
      · obtain ⟨a, rfl⟩ : ∃ n : Nat, a = n := ⟨a.toNat, by omega⟩
        have han : a < g.length := by omega
        have a0 : ¬ ((a : Int) < 0) := by omega
        have a1 : ¬ ((a : Int) ≥ g.length) := by omega
        have ad : decide ((a : Int) < 0) = false := decide_eq_false a0
        clear ha
        go_wp2_with fail
        have HK := hide hok
        clear hs hok
        go_upto_region 5 with fail
        have HB4 := hide (HB3.out.trans ((Below.refl w3.heap.size w3).drew.mono HB3.out.size))
        have HG4 := hide (HG3.out.below' (Below.refl w3.heap.size w3).drew)
        have c1 : w3.drew.cell? ⟨w.heap.size, 0, none⟩ = some (.slice A g.length c) := hx3
        clear HB3 HG3 hx3
        go_region_held3 (fun w' => w'.cell? ⟨w.heap.size, 0, none⟩ = some (.slice A g.length c)) (first | exact c1 | exact f1 | exact k1) (first | (go_at_call 22; refine (revpost_any A c g a _ HG4.out HK.out han).mono ?_; rintro en w4 ⟨⟨ov, rfl, ho⟩, hb4⟩; have f1 := (hb4.cell (p := ⟨w.heap.size, 0, none⟩) (lt_of_cell c1)).trans c1) | (go_at_call 17; refine (reach_any A c g a _ (HG4.out.below' hb4) HK.out han).mono ?_; rintro en w5 ⟨⟨D3, rfl, hr3⟩, hb5⟩; have k1 := (hb5.cell (p := ⟨w.heap.size, 0, none⟩) (lt_of_cell f1)).trans f1))
        have HS : Hid (Ods w w5 w.heap.size A c g ov (post g a).reverse w4.heap.size D3 g.length (fun i => decide (i ∈ post g a))) := hide ⟨(HG4.out.below' hb4).below' hb5, k1, (ho.below' hb5).rd, hr3, (HB4.out.trans (hb4.mono HB4.out.size)).trans (hb5.mono (Nat.le_trans HB4.out.size hb4.size))⟩
        obtain ⟨O, hO⟩ : ∃ O, (post g a).reverse = O := ⟨_, rfl⟩
        have hON : O.Nodup := by rw [← hO]; exact rpost_nodup (code_ok HK.out).1 han
        have hO0 : O.head? = some a := by rw [← hO]; exact rpost_first (code_ok HK.out).1 han
        have hOm : ∀ x, x ∈ O ↔ x ∈ post g a := fun x => by rw [← hO]; simp
        have hOl : ∀ x ∈ O, x < g.length := fun x hx => post_lt (code_ok HK.out).1 han x ((hOm x).1 hx)
        have hOa : ∀ x ∈ O, (decide (x = a) || anyTo g (fwd O x) x g.length) = true := fun x hx => by rw [← hO]; exact order_after (code_ok HK.out).1 han ((hOm x).1 hx)
        have hOc : backs g O g.length = cycs g O g.length := by rw [← hO]; exact order_cycle (code_ok HK.out).1 han
        have hOf : (fun i => decide (i ∈ post g a)) = fun i => decide (i ∈ O) := funext fun i => decide_eq_decide.2 (hOm i).symm
        rw [hO, hOf] at HS
        rw [hO] at ho
        obtain ⟨Bp, cp, rfl, hcp, hmp, -⟩ := ho.rd
        have hc9 : cp ≤ 9223372036854775807 := by unfold maxLen at hmp; omega
        rw [ints_len] at hcp
        rw [ints_len]
        have HON := hide hON
        have HO0 := hide hO0
        have HOL := hide hOl
        have HOA := hide hOa
        have HOC := hide hOc
        have c1 := HS.out.cell
        have hN := (code_ok HK.out).2
        have hmk := run_made w5 36 3 (.int .i64 0) 8 Try.underlying36 infoInt rfl (by omega) g.length (by omega)
        have HD : Hid (Own (w5.alloc (.cells (madeCells #[.int .i64 0] g.length) 3)) w5.heap.size 3 .i64 (.slice (some ⟨w5.heap.size, 0, none⟩) g.length g.length) (fillTo g.length 0) ∧ Below w5.heap.size w5 (w5.alloc (.cells (madeCells #[.int .i64 0] g.length) 3))) := hide ⟨by
          rw [fillTo_zero]
          have := own_madeV w5 3 (.int .i64 0) g.length w5.heap.size (by unfold maxLen; omega) (Nat.le_refl _)
          exact OwnV.toI (by simpa using this), (Below.refl _ _).alloc (Nat.le_refl _) _⟩
        clear HB4 HG4 f1 k1 ho hb4 hb5 hr3 hmp hON hO0 hOm hOl hOa hOc hOf hO
        go_wp2_with fail
        go_loopw [62] (fun z wr => ∃ i : Nat, i ≤ g.length ∧ z = .int .i64 i ∧ Own wr w5.heap.size 3 .i64 (.slice (some ⟨w5.heap.size, 0, none⟩) g.length g.length) (fillTo g.length i) ∧ Below w5.heap.size w5 wr) (fun z _ => g.length - (intOf z).toNat)
        case atStart => exact ⟨0, Nat.zero_le _, rfl, HD.out.1, HD.out.2⟩
        case round =>
          clear HD hmk c1
          obtain ⟨wq, rfl⟩ : ∃ x, x = wr := ⟨_, rfl⟩
          obtain ⟨i, hi, rfl, hO, hb⟩ := hrel
          by_cases hlt : i < g.length
          · have hlt' : (i : Int) < g.length := by omega
            have c1 : wq.cell? ⟨w5.heap.size, i, none⟩ = some (.int .i64 0) := hO.cellAt (by rw [fillTo_get _ _ hlt, if_neg (Nat.lt_irrefl _)])
            have f1 : wq.frozen? ⟨w5.heap.size, i, none⟩ = false := hO.freeAt i
            have HS2 := hide (And.intro hO hb)
            clear hO hb
            go_wp2_with fail
            go_roundw
            case rel => exact ⟨i + 1, by omega, by go_num, by
              have := HS2.out.1.set i (-1)
              rw [fillTo_step _ _ hlt] at this
              exact this, HS2.out.2.setCell (p := ⟨w5.heap.size, i, none⟩) (Nat.le_refl _) _⟩
            case measure => simp [intOf]; omega
          · obtain rfl : i = g.length := by omega
            rw [fillTo_end, ← atl_zero g.length O] at hO
            have HD := hide (And.intro hO hb)
            clear hO hb hlt hi
            go_wp2_with fail
            go_loopw [71] (fun z wr => ∃ i : Nat, i ≤ O.length ∧ z = .int .i64 i ∧ Own wr w5.heap.size 3 .i64 (.slice (some ⟨w5.heap.size, 0, none⟩) g.length g.length) (atl g.length O i) ∧ Below w5.heap.size w5 wr) (fun z _ => O.length - (intOf z).toNat)
            case atStart => exact ⟨0, Nat.zero_le _, rfl, HD.out.1, HD.out.2⟩
            case round =>
              clear HD
              obtain ⟨wp, rfl⟩ : ∃ x, x = wr := ⟨_, rfl⟩
              obtain ⟨i, hi, rfl, hO, hb⟩ := hrel
              by_cases hlt : i < O.length
              · have hlt' : (i : Int) < O.length := by omega
                obtain ⟨x, hx⟩ : ∃ x, O[i]? = some x := ⟨_, List.getElem?_eq_getElem hlt⟩
                have hxO := List.mem_of_getElem? hx
                have hxn := HOL.out x hxO
                have HS2 := hide (HS.out.next hb)
                obtain ⟨pb, po, rfl, hbl, cx⟩ := rd_at (k := i) (x := (x : Int)) HS2.out.path (by rw [ints_get, hx]; rfl)
                have c1 : wp.cell? ⟨w5.heap.size, x, none⟩ = some (.int .i64 (-1)) := hO.cellAt (by rw [atl_get O i hxn, if_neg (take_not HON.out hx)])
                have f1 : wp.frozen? ⟨w5.heap.size, x, none⟩ = false := hO.freeAt x
                have d1 := HS2.out.reach.cellAt (bl_get (fun i => decide (i ∈ O)) hxn)
                rw [decide_eq_true hxO] at d1
                have hx1 : decide ((x : Int) < 0) = false := decide_eq_false (by omega)
                have hx2 : decide ((x : Int) ≥ g.length) = false := decide_eq_false (by omega)
                have hx3 : decide (g.length ≤ x) = false := decide_eq_false (by omega)
                have hxn' : (x : Int) < g.length := by omega
                have HT := hide (And.intro hO (And.intro hb hx))
                clear hO hb hx hxO HS2
                go_wp2_with fail
                go_roundw
                case rel => exact ⟨i + 1, by omega, by go_num, by
                  have := HT.out.1.set x (i : Int)
                  rw [atl_step HON.out HT.out.2.2 hxn] at this
                  exact this, HT.out.2.1.setCell (p := ⟨w5.heap.size, x, none⟩) (Nat.le_refl _) _⟩
                case measure => simp [intOf]; omega
              · obtain rfl : i = O.length := by omega
                have HS2 := hide (HS.out.next hb)
                have HAT := hide hO
                clear hO hb hlt hi HS
                go_wp2_with fail
                go_loopw [105, 11] (fun z q wr => ∃ x : Nat, x ≤ g.length ∧ z = .int .i64 x ∧ q = .bool (backs g O x) ∧ Below wp.heap.size wp wr) (fun z _ _ => g.length - (intOf z).toNat)
                case atStart => exact ⟨0, Nat.zero_le _, rfl, rfl, by repeat (first | exact Below.refl _ _ | refine Below.drewN' ?_ _ | refine Below.drew ?_)⟩
                case round =>
                  obtain ⟨wm, rfl⟩ : ∃ x, x = wr := ⟨_, rfl⟩
                  obtain ⟨x, hx, rfl, rfl, hb⟩ := hrel
                  have HB2 := hide hb
                  have HS3 := hide (HS2.out.next hb)
                  have HAT3 := hide (HAT.out.below' hb)
                  clear hb
                  by_cases hlt : x < g.length
                  · have hlt' : (x : Int) < g.length := by omega
                    have d1 := HS3.out.reach.cellAt (bl_get (fun i => decide (i ∈ O)) hlt)
                    rw [← plc_in] at d1
                    have c1 : wm.cell? ⟨w5.heap.size, x, none⟩ = some (.int .i64 (plc O x)) := HAT3.out.cellAt (atl_end O hlt)
                    have c2 := HS3.out.cell
                    obtain ⟨B0, hB0⟩ : ∃ z, backs g O x = z := ⟨_, rfl⟩
                    have HB0 := hide hB0
                    rw [hB0]
                    clear hB0
                    go_wp2_with fail
                    go_quiet (fail)
                    go_wp2_with fail
                    clear d1 c1 c2
                    go_loopw [124, 13, 11] (fun z p q wr => ∃ m : Nat, m ≤ g.length ∧ z = .int .i64 m ∧ p = .bool (decide (x = a) || anyTo g (fwd O x) x m) ∧ q = .bool (B0 || anyTo g (bwd O x) x m) ∧ Below wm.heap.size wm wr) (fun z _ _ _ => g.length - (intOf z).toNat)
                    case atStart => exact ⟨0, Nat.zero_le _, rfl, by rw [int_beq]; simp [anyTo], by simp [anyTo], by repeat (first | exact Below.refl _ _ | refine Below.drewN' ?_ _ | refine Below.drew ?_)⟩
                    case round =>
                      obtain ⟨wn, rfl⟩ : ∃ x, x = wr := ⟨_, rfl⟩
                      obtain ⟨m, hm, rfl, rfl, rfl, hb⟩ := hrel
                      have HB3 := hide hb
                      have HS4 := hide (HS3.out.next hb)
                      have HAT4 := hide (HAT3.out.below' hb)
                      clear hb
                      by_cases hmt : m < g.length
                      · have hmt' : (m : Int) < g.length := by omega
                        obtain ⟨l, hl⟩ : ∃ l, g[m]? = some l := ⟨_, List.getElem?_eq_getElem hmt⟩
                        obtain ⟨Ab, Ao, B, d, rfl, hAb, hcell, hrow⟩ := HS4.out.gr.at hl
                        have HL := hide hl
                        have HR := hide hrow
                        obtain ⟨_, _, e3, hd, hdm, -⟩ := hrow
                        injection e3 with e3 e4 e5
                        subst e3 e5
                        have hd9 : d ≤ 9223372036854775807 := by unfold maxLen at hdm; omega
                        obtain ⟨X, hX⟩ : ∃ z, (decide (x = a) || anyTo g (fwd O x) x m) = z := ⟨_, rfl⟩
                        obtain ⟨Y, hY⟩ : ∃ z, (B0 || anyTo g (bwd O x) x m) = z := ⟨_, rfl⟩
                        have HX := hide hX
                        have HY := hide hY
                        rw [hX, hY]
                        clear hX hY hl hdm e4
                        go_wp2_with fail
                        clear hcell
                        go_loopw [131, 13, 11] (fun z p q wr => ∃ j : Nat, j ≤ l.length ∧ z = .int .i64 j ∧ p = .bool (X || (has (l.take j) x && fwd O x m)) ∧ q = .bool (Y || (has (l.take j) x && bwd O x m)) ∧ Below wn.heap.size wn wr) (fun z _ _ _ => l.length - (intOf z).toNat)
                        case atStart => exact ⟨0, Nat.zero_le _, rfl, by simp [has], by simp [has], by repeat (first | exact Below.refl _ _ | refine Below.drewN' ?_ _ | refine Below.drew ?_)⟩
                        case round =>
                          obtain ⟨wk, rfl⟩ : ∃ x, x = wr := ⟨_, rfl⟩
                          obtain ⟨j, hj, rfl, rfl, rfl, hb⟩ := hrel
                          have HB4 := hide hb
                          by_cases hjt : j < l.length
                          · have hjt' : (j : Int) < l.length := by omega
                            obtain ⟨k, hk⟩ : ∃ x, l[j]? = some x := ⟨_, List.getElem?_eq_getElem hjt⟩
                            obtain ⟨b2, off2, rfl, hbl, cx⟩ := rd_at (HR.out.below' hb) hk
                            have c1 : wk.cell? ⟨w5.heap.size, x, none⟩ = some (.int .i64 (plc O x)) := (HAT4.out.below' hb).cellAt (atl_end O hlt)
                            have c2 : wk.cell? ⟨w5.heap.size, m, none⟩ = some (.int .i64 (plc O m)) := (HAT4.out.below' hb).cellAt (atl_end O hmt)
                            have HH := hide (has_take hk x)
                            obtain ⟨px, hpx⟩ : ∃ z, plc O x = z := ⟨_, rfl⟩
                            obtain ⟨pm, hpm⟩ : ∃ z, plc O m = z := ⟨_, rfl⟩
                            have hfw : fwd O x m = (decide (0 ≤ pm) && decide (pm < px)) := by unfold fwd; rw [hpx, hpm]
                            have hbw : bwd O x m = (decide (0 ≤ pm) && decide (px ≤ pm)) := by unfold bwd; rw [hpx, hpm]
                            rw [hpx] at c1
                            rw [hpm] at c2
                            rw [hfw, hbw]
                            obtain ⟨U, hU⟩ : ∃ z, (X || (has (l.take j) x && (decide (0 ≤ pm) && decide (pm < px)))) = z := ⟨_, rfl⟩
                            obtain ⟨V, hV⟩ : ∃ z, (Y || (has (l.take j) x && (decide (0 ≤ pm) && decide (px ≤ pm)))) = z := ⟨_, rfl⟩
                            have HU : Hid ((X || (has (l.take (j + 1)) x && (decide (0 ≤ pm) && decide (pm < px)))) = (U || ((k == (x : Int)) && (decide (0 ≤ pm) && decide (pm < px))))) := hide (by rw [HH.out, ← hU]; exact or_step _ _ _ _)
                            have HV : Hid ((Y || (has (l.take (j + 1)) x && (decide (0 ≤ pm) && decide (px ≤ pm)))) = (V || ((k == (x : Int)) && (decide (0 ≤ pm) && decide (px ≤ pm))))) := hide (by rw [HH.out, ← hV]; exact or_step _ _ _ _)
                            rw [hU, hV]
                            clear hb hk hU hV hfw hbw hpx hpm
                            by_cases hkx : k = (x : Int)
                            · have hkx1 : (k == (x : Int)) = true := by simpa using hkx
                              rw [hkx1] at HU HV
                              clear hkx
                              by_cases h0 : 0 ≤ pm
                              · have h0d : decide (0 ≤ pm) = true := decide_eq_true h0
                                have K0 := hide h0d
                                by_cases h1 : pm < px
                                · have h1d : decide (pm < px) = true := decide_eq_true h1
                                  have h2d : decide (px ≤ pm) = false := decide_eq_false (by omega)
                                  have K1 := hide h1d
                                  have K2 := hide h2d
                                  rw [h0d, h1d] at HU
                                  rw [h0d, h2d] at HV
                                  cases U <;> cases V
                                  all_goals
                                    go_wp2_with fail
                                    go_quiet (fail)
                                    go_wp2_with fail
                                    go_quiet (fail)
                                    go_wp2_with fail
                                    go_roundw
                                    case rel => exact ⟨j + 1, by omega, by go_num, by first | (rw [HU.out]; simp) | (rw [K0.out, K1.out, HU.out]; simp) | (rw [K0.out, HU.out]; simp), by first | (rw [HV.out]; simp) | (rw [K0.out, K2.out, HV.out]; simp) | (rw [K0.out, HV.out]; simp), by repeat (first | exact HB4.out | refine Below.drewN' ?_ _ | refine Below.drew ?_)⟩
                                    case measure => simp [intOf]; omega
                                · have h1d : decide (pm < px) = false := decide_eq_false h1
                                  have h2 : px ≤ pm := by omega
                                  have h2d : decide (px ≤ pm) = true := decide_eq_true h2
                                  have K1 := hide h1d
                                  have K2 := hide h2d
                                  rw [h0d, h1d] at HU
                                  rw [h0d, h2d] at HV
                                  clear h1
                                  cases U <;> cases V
                                  all_goals
                                    go_wp2_with fail
                                    go_quiet (fail)
                                    go_wp2_with fail
                                    go_quiet (fail)
                                    go_wp2_with fail
                                    go_roundw
                                    case rel => exact ⟨j + 1, by omega, by go_num, by first | (rw [HU.out]; simp) | (rw [K0.out, K1.out, HU.out]; simp) | (rw [K0.out, HU.out]; simp), by first | (rw [HV.out]; simp) | (rw [K0.out, K2.out, HV.out]; simp) | (rw [K0.out, HV.out]; simp), by repeat (first | exact HB4.out | refine Below.drewN' ?_ _ | refine Below.drew ?_)⟩
                                    case measure => simp [intOf]; omega
                              · have h0d : decide (0 ≤ pm) = false := decide_eq_false h0
                                have K0 := hide h0d
                                rw [h0d] at HU HV
                                clear h0
                                cases U <;> cases V
                                all_goals
                                  go_wp2_with fail
                                  go_quiet (fail)
                                  go_wp2_with fail
                                  go_quiet (fail)
                                  go_wp2_with fail
                                  go_roundw
                                  case rel => exact ⟨j + 1, by omega, by go_num, by first | (rw [HU.out]; simp) | (rw [K0.out, K1.out, HU.out]; simp) | (rw [K0.out, HU.out]; simp), by first | (rw [HV.out]; simp) | (rw [K0.out, K2.out, HV.out]; simp) | (rw [K0.out, HV.out]; simp), by repeat (first | exact HB4.out | refine Below.drewN' ?_ _ | refine Below.drew ?_)⟩
                                  case measure => simp [intOf]; omega
                            · have hkx1 : (k == (x : Int)) = false := by simpa using hkx
                              rw [hkx1] at HU HV
                              clear hkx
                              cases U <;> cases V
                              all_goals
                                go_wp2_with fail
                                go_quiet (fail)
                                go_wp2_with fail
                                go_quiet (fail)
                                go_wp2_with fail
                                go_roundw
                                case rel => exact ⟨j + 1, by omega, by go_num, by first | (rw [HU.out]; simp) | (rw [K0.out, K1.out, HU.out]; simp) | (rw [K0.out, HU.out]; simp), by first | (rw [HV.out]; simp) | (rw [K0.out, K2.out, HV.out]; simp) | (rw [K0.out, HV.out]; simp), by repeat (first | exact HB4.out | refine Below.drewN' ?_ _ | refine Below.drew ?_)⟩
                                case measure => simp [intOf]; omega
                          · obtain rfl : j = l.length := by omega
                            rw [List.take_length]
                            have HB5 := hide (HB3.out.trans (hb.mono HB3.out.size))
                            clear hb
                            go_wp2_with fail
                            go_roundw
                            case rel => exact ⟨m + 1, by omega, by go_num, by rw [anyTo_succ, getD_of HL.out, ← Bool.or_assoc, HX.out], by rw [anyTo_succ, getD_of HL.out, ← Bool.or_assoc, HY.out], HB5.out⟩
                            case measure => simp [intOf]; omega
                      · obtain rfl : m = g.length := by omega
                        have d1 := HS4.out.reach.cellAt (bl_get (fun i => decide (i ∈ O)) hlt)
                        have HB5 := hide (HB2.out.trans (HB3.out.mono HB2.out.size))
                        have HE : Hid (backs g O (x + 1) = (B0 || anyTo g (bwd O x) x g.length)) := hide (by rw [backs_succ, HB0.out])
                        by_cases hxO : x ∈ O
                        · rw [HOA.out x hxO]
                          rw [decide_eq_true hxO] at d1
                          go_wp2_with fail
                          go_roundw
                          case rel => exact ⟨x + 1, by omega, by go_num, by rw [HE.out], HB5.out⟩
                          case measure => simp [intOf]; omega
                        · rw [decide_eq_false hxO] at d1
                          go_wp2_with fail
                          go_roundw
                          case rel => exact ⟨x + 1, by omega, by go_num, by rw [HE.out], HB5.out⟩
                          case measure => simp [intOf]; omega
                  · obtain rfl : x = g.length := by omega
                    rw [HOC.out]
                    clear hlt hx HB2 HS2 HAT
                    go_wp2_with fail
                    go_loopw [196, 18] (fun z q wr => ∃ x : Nat, x ≤ g.length ∧ z = .int .i64 x ∧ q = .bool (cycs g O x) ∧ Below wm.heap.size wm wr) (fun z _ _ => g.length - (intOf z).toNat)
                    case atStart => exact ⟨0, Nat.zero_le _, rfl, rfl, by repeat (first | exact Below.refl _ _ | refine Below.drewN' ?_ _ | refine Below.drew ?_)⟩
                    case round =>
                      obtain ⟨wn, rfl⟩ : ∃ x, x = wr := ⟨_, rfl⟩
                      obtain ⟨x, hx, rfl, rfl, hb⟩ := hrel
                      have HB3 := hide hb
                      have HS4 := hide (HS3.out.next hb)
                      clear hb
                      by_cases hlt : x < g.length
                      · have hlt' : (x : Int) < g.length := by omega
                        obtain ⟨l, hl⟩ : ∃ l, g[x]? = some l := ⟨_, List.getElem?_eq_getElem hlt⟩
                        obtain ⟨Ab, Ao, B, d, rfl, hAb, hcell, hrow⟩ := HS4.out.gr.at hl
                        have c2 := HS4.out.cell
                        have HL := hide hl
                        have HR := hide hrow
                        obtain ⟨_, _, e3, hd, hdm, -⟩ := hrow
                        injection e3 with e3 e4 e5
                        subst e3 e5
                        have hd9 : d ≤ 9223372036854775807 := by unfold maxLen at hdm; omega
                        have HE := hide (cycs_succ g O x)
                        obtain ⟨C, hC⟩ : ∃ z, cycs g O x = z := ⟨_, rfl⟩
                        rw [hC] at HE ⊢
                        clear hC hl hdm e4
                        go_wp2_with fail
                        clear hcell c2
                        go_loopw [205, 18] (fun z q wr => ∃ j : Nat, j ≤ l.length ∧ z = .int .i64 j ∧ q = .bool (C || (decide (x ∈ O) && loopsIn g (l.take j) x)) ∧ Below wn.heap.size wn wr) (fun z _ _ => l.length - (intOf z).toNat)
                        case atStart => exact ⟨0, Nat.zero_le _, rfl, by simp [loopsIn], by repeat (first | exact Below.refl _ _ | refine Below.drewN' ?_ _ | refine Below.drew ?_)⟩
                        case round =>
                          obtain ⟨wk, rfl⟩ : ∃ x, x = wr := ⟨_, rfl⟩
                          obtain ⟨j, hj, rfl, rfl, hb⟩ := hrel
                          have HB4 := hide hb
                          by_cases hjt : j < l.length
                          · have hjt' : (j : Int) < l.length := by omega
                            obtain ⟨m, hm⟩ : ∃ x, l[j]? = some x := ⟨_, List.getElem?_eq_getElem hjt⟩
                            obtain ⟨m, rfl, hmn⟩ := ok_node (code_ok HK.out).1 HL.out hm
                            obtain ⟨b2, off2, rfl, hbl, cx⟩ := rd_at (HR.out.below' hb) hm
                            have HS5 := hide (HS4.out.next hb)
                            have d1 := HS5.out.reach.cellAt (bl_get (fun i => decide (i ∈ O)) hlt)
                            have c2 := HS5.out.cell
                            have HT := loopsIn_take (g := g) hm x
                            rw [Int.toNat_natCast] at HT
                            by_cases hxO : x ∈ O
                            · rw [decide_eq_true hxO] at d1 ⊢
                              obtain ⟨U, hU⟩ : ∃ z, (C || (true && loopsIn g (l.take j) x)) = z := ⟨_, rfl⟩
                              have HU : Hid ((C || (true && loopsIn g (l.take (j + 1)) x)) = (U || decide (x ∈ post g m))) := hide (by rw [HT, ← hU]; simp [Bool.or_assoc])
                              rw [hU]
                              clear hb hm hU HT hxO
                              go_wp2_with fail
                              refine (reach_any _ c g m _ HS5.out.gr HK.out hmn).mono ?_
                              rintro en w6 ⟨⟨D6, rfl, hr6⟩, hb6⟩
                              have d6 := hr6.cellAt (bl_get (fun i => decide (i ∈ post g m)) hlt)
                              have HB6 := hide (HB4.out.trans (hb6.mono HB4.out.size))
                              clear hr6 hb6 HS5 HB4 cx d1 c2
                              cases U
                              all_goals
                                go_wp2_with fail
                                go_roundw
                                case rel => exact ⟨j + 1, by omega, by go_num, by rw [HU.out]; simp, by repeat (first | exact HB6.out | refine Below.drewN' ?_ _ | refine Below.drew ?_)⟩
                                case measure => simp [intOf]; omega
                            · rw [decide_eq_false hxO] at d1 ⊢
                              clear hb hm HT hxO HS5
                              go_wp2_with fail
                              go_roundw
                              case rel => exact ⟨j + 1, by omega, by go_num, by simp, by repeat (first | exact HB4.out | refine Below.drewN' ?_ _ | refine Below.drew ?_)⟩
                              case measure => simp [intOf]; omega
                          · obtain rfl : j = l.length := by omega
                            rw [List.take_length]
                            have HB5 := hide (HB3.out.trans (hb.mono HB3.out.size))
                            clear hb
                            go_wp2_with fail
                            go_roundw
                            case rel => exact ⟨x + 1, by omega, by go_num, by rw [HE.out, getD_of HL.out], HB5.out⟩
                            case measure => simp [intOf]; omega
                      · obtain rfl : x = g.length := by omega
                        have hne : O ≠ [] := fun c => by rw [c] at HO0; exact absurd HO0.out (by simp)
                        have hl0 : 0 < O.length := List.length_pos_iff.2 hne
                        have hl0' : (0 : Int) < O.length := by omega
                        obtain ⟨pb, po, rfl, -, cp0⟩ := rd_at (k := 0) (x := (a : Int)) HS4.out.path (by rw [ints_get, ← List.head?_eq_getElem?, HO0.out]; rfl)
                        have cp0' : wn.cell? ⟨pb, po, none⟩ = some (.int .i64 (a : Nat)) := cp0
                        have HZ := hide HS4.out.below
                        clear HS4 HB3 hlt hx
                        go_wp2_with fail
                        go_ret
                        exact ⟨by simp, HZ.out⟩
      · by_cases a0 : a < 0
        · go_wp2_with fail
          go_ret
          exact ⟨rfl, HB3.out⟩
        · have a1 : a ≥ (g.length : Int) := by omega
          clear ha
          go_wp2_with fail
          go_ret
          exact ⟨rfl, HB3.out⟩
    · have hcode : (codeG g == 0) = false := by simpa using hok
      have hcode' : (codeG g != 0) = true := by simpa using hok
      clear hok
      go_wp2_with fail
      go_ret
      exact ⟨rfl, HB3.out⟩
  · rw [decide_eq_false hs]
    go_wp2_with fail
    go_ret
    exact ⟨rfl, HB2.out⟩
end Go.Proofs.Ytaehfohljblmoaa

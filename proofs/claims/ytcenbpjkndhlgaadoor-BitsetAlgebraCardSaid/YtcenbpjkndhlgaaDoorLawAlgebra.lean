/-
  BitsetAlgebra, layer 3 (bitset).
-/
import Derived.Test.YtcenbpjkndhlgaaDoorAwake
import Derived.Test.YtcenbpjkndhlgaaDoorLot
namespace Go.Proofs.YtcenbpjkndhlgaaDoor
open Go.RowKit

theorem Lot.countIs {w W : World} {n : Nat} {L : List (Nat × List Nat)} {B : Nat} {ws : List Nat} (h : Lot w W n L) (i : Nat) (hi : L[i]? = some (B, ws)) {c : Nat} (e : c = (els ws n 0).length) :
    Calls Tryd.prog 29 #[.pointer (some ⟨B + 1, 0, none⟩)] W fun en W' => en = .returned (.int .i64 c) ∧ Lot w W' n L :=
  (h.count i hi).mono fun _ _ ⟨a, b⟩ => ⟨by rw [a, e], b⟩
theorem Lot.hasIs {w W : World} {n : Nat} {L : List (Nat × List Nat)} {B : Nat} {ws : List Nat} (h : Lot w W n L) (i : Nat) (hi : L[i]? = some (B, ws)) (k : Nat) {x : Bool} (e : bit ws k = x) :
    Calls Tryd.prog 16 #[.pointer (some ⟨B + 1, 0, none⟩), .int .i64 k] W fun en W' => en = .returned (.bool x) ∧ Lot w W' n L :=
  (h.has i hi k).mono fun _ _ ⟨a, b⟩ => ⟨by rw [a, Int.toNat_natCast, e, decide_eq_true (by omega)]; simp, b⟩

theorem els_zero {ws : List Nat} {n : Nat} (h : (els ws n 0).length = 0) : ∀ i, i < n → bit ws i = false := fun i hi => by
  cases hb : bit ws i with
  | false => rfl
  | true =>
    have := mem_els.2 ⟨Nat.zero_le i, hi, hb⟩
    rw [List.eq_nil_of_length_eq_zero h] at this
    cases this
/-- A set that hzs lost all is another one if it had any. -/
theorem emptied {ms zs : List Nat} {n : Nat} (hm : Words n ms) (ha : Words n zs) (h : ∀ k, bit zs k = false) : decide (zs ≠ ms) = decide (0 < (els ms n 0).length) := by
  refine decide_eq_decide.2 ⟨fun h1 => ?_, fun h1 h2 => ?_⟩
  · refine Nat.pos_of_ne_zero fun h0 => h1 (ha.ext hm fun i hi => ?_)
    rw [h, els_zero h0 i hi]
  · rw [← h2, els_nil (fun i _ => h i)] at h1
    cases h1

set_option maxRecDepth 100000 in
set_option maxHeartbeats 1000000 in
theorem algebra_big (n : Int) (u v : Value) (a b : List Int) (w : World) (hT : Tab w) (ha : Rd w .i64 u a) (hb : Rd w .i64 v b) (h : ¬ (0 ≤ n ∧ n ≤ 2000 ∧ a.length ≤ 200 ∧ b.length ≤ 200)) :
    Calls Tryd.prog 4 #[.int .i64 n, u, v] w (LawDone w) := by
  obtain ⟨A, c, rfl, hc, -, -⟩ := ha
  obtain ⟨B, d, rfl, hd, -, -⟩ := hb
  have HA := hide (awake_any w hT)
  clear hT
  by_cases h1 : n < 0
  · go_enter Tryd.func4, Tryd.ntmps4
    go_wp2_with fail
    refine HA.out.mono ?_
    rintro en w1 ⟨rfl, hB⟩
    go_wp2_with fail
    go_ret
    exact ⟨rfl, hB⟩
  · by_cases h2 : n > 2000
    · have h2' : 2000 < n := h2
      go_enter Tryd.func4, Tryd.ntmps4
      go_wp2_with fail
      refine HA.out.mono ?_
      rintro en w1 ⟨rfl, hB⟩
      go_wp2_with fail
      go_ret
      exact ⟨rfl, hB⟩
    · have h2' : ¬ (2000 < n) := h2
      by_cases h3 : (200 : Int) < a.length
      · go_enter Tryd.func4, Tryd.ntmps4
        go_wp2_with fail
        refine HA.out.mono ?_
        rintro en w1 ⟨rfl, hB⟩
        go_wp2_with fail
        go_ret
        exact ⟨rfl, hB⟩
      · have h4 : (200 : Int) < b.length := by omega
        go_enter Tryd.func4, Tryd.ntmps4
        go_wp2_with fail
        refine HA.out.mono ?_
        rintro en w1 ⟨rfl, hB⟩
        go_wp2_with fail
        go_ret
        exact ⟨rfl, hB⟩

set_option maxRecDepth 100000 in
set_option maxHeartbeats 2000000 in
theorem algebra_small (n : Nat) (u v : Value) (a b : List Int) (w : World) (hT : Tab w) (ha : Rd w .i64 u a) (hb : Rd w .i64 v b) (hn : n ≤ 2000) (hla : a.length ≤ 200) (hlb : b.length ≤ 200) :
    Calls Tryd.prog 4 #[.int .i64 n, u, v] w (LawDone w) := by
  have HR := hide (And.intro ha hb)
  obtain ⟨A, c, rfl, hc, -, -⟩ := ha
  obtain ⟨B, d, rfl, hd, -, -⟩ := hb
  have HA := hide (And.intro (awake_any w hT) hT)
  clear hT
  have h1 : ¬ ((n : Int) < 0) := by omega
  have h2 : ¬ ((n : Int) > 2000) := by omega
  have h3 : ¬ ((200 : Int) < a.length) := by omega
  have h4 : ¬ ((200 : Int) < b.length) := by omega
  go_enter Tryd.func4, Tryd.ntmps4
  go_wp2_with fail
  refine HA.out.1.mono ?_
  rintro en w1 ⟨rfl, hB⟩
  have hL0 := hide (Lot.nil (n := n) (HA.out.2.below hB) hB HA.out.2.1)
  have HR1 := hide (And.intro (HR.out.1.below' hB) (HR.out.2.below' hB))
  clear HA HR hB
  go_wp2_with fail
  refine (hL0.out.of _ a (by omega) HR1.out.1).mono ?_
  rintro en w2 ⟨rfl, ws, hL, hws, hf⟩
  have HL := hide hL
  have HR2 := hide (HR1.out.2.below' (hf.toBelow (by simp) (Nat.le_refl _)))
  clear hL hws hf HR1 hL0
  go_wp2_with fail
  refine (HL.out.of _ b (by omega) HR2.out).mono ?_
  rintro en w3 ⟨rfl, vs, hL, hvs, hf⟩
  have HL3 := hide hL
  clear hL hvs hf HR2 HL
  go_wp2_with fail
  refine (HL3.out.clone 0 rfl).mono ?_
  rintro en w4 ⟨rfl, hL, hf⟩
  have HL4 := hide hL
  clear hL hf HL3
  go_wp2_with fail
  refine (HL4.out.clone 0 rfl).mono ?_
  rintro en w5 ⟨rfl, hL, hf⟩
  have HL5 := hide hL
  clear hL hf HL4
  go_wp2_with fail
  refine (HL5.out.clone 0 rfl).mono ?_
  rintro en w6 ⟨rfl, hL, hf⟩
  have HL6 : Hid (Lot w w6 n [(w1.heap.size, ws), (w2.heap.size, vs), (w3.heap.size, ws), (w4.heap.size, ws), (w5.heap.size, ws)]) := hide hL
  clear hL hf HL5
  go_wp2_with fail
  refine (HL6.out.or 2 1 rfl rfl).mono ?_
  rintro en w7 ⟨us, rfl, hL, hus⟩
  have HL7 : Hid (Lot w w7 n [(w1.heap.size, ws), (w2.heap.size, vs), (w3.heap.size, us), (w4.heap.size, ws), (w5.heap.size, ws)]) := hide hL
  have HU := hide hus
  clear hL hus HL6
  generalize decide (us ≠ ws) = du
  go_wp2_with fail
  refine (HL7.out.sub 3 1 rfl rfl).mono ?_
  rintro en w8 ⟨ms, rfl, hL, hms⟩
  have HL8 : Hid (Lot w w8 n [(w1.heap.size, ws), (w2.heap.size, vs), (w3.heap.size, us), (w4.heap.size, ms), (w5.heap.size, ws)]) := hide hL
  have HM := hide hms
  clear hL hms HL7
  generalize decide (ms ≠ ws) = dm
  go_wp2_with fail
  refine (HL8.out.and 4 1 rfl rfl).mono ?_
  rintro en w9 ⟨bs, rfl, hL, hbs⟩
  have HL9 : Hid (Lot w w9 n [(w1.heap.size, ws), (w2.heap.size, vs), (w3.heap.size, us), (w4.heap.size, ms), (w5.heap.size, bs)]) := hide hL
  have HB := hide hbs
  clear hL hbs HL8
  generalize decide (bs ≠ ws) = db
  go_wp2_with fail
  obtain ⟨cs, hcs⟩ : ∃ x, x = (els ws n 0).length := ⟨_, rfl⟩
  obtain ⟨co, hco⟩ : ∃ x, x = (els vs n 0).length := ⟨_, rfl⟩
  obtain ⟨cu, hcu⟩ : ∃ x, x = (els us n 0).length := ⟨_, rfl⟩
  obtain ⟨cm, hcm⟩ : ∃ x, x = (els ms n 0).length := ⟨_, rfl⟩
  obtain ⟨cb, hcb⟩ : ∃ x, x = (els bs n 0).length := ⟨_, rfl⟩
  have e1 := els_sum ws vs us bs n HU.out HB.out
  have e2 := els_parts ws vs ms bs n HM.out HB.out
  have l1 : cs ≤ 65536 := hcs ▸ (HL9.out.set 0 rfl).els_len
  have l2 : co ≤ 65536 := hco ▸ (HL9.out.set 1 rfl).els_len
  rw [← hcs, ← hco, ← hcu, ← hcb] at e1
  rw [← hcs, ← hcm, ← hcb] at e2
  have Hcs := hide hcs
  have Hco := hide hco
  have Hcu := hide hcu
  have Hcm := hide hcm
  have Hcb := hide hcb
  clear hcs hco hcu hcm hcb hla hlb hc hd
  have t1 : ((cu : Int) != (cs : Int) + co - cb) = false := by rw [bne_eq_false_iff_eq]; omega
  have t2 : ((cm : Int) + cb != (cs : Int)) = false := by rw [bne_eq_false_iff_eq]; omega
  have HL := HL9
  clear HL9
  obtain ⟨wy, rfl⟩ : ∃ z, z = w9 := ⟨_, rfl⟩
  refine (HL.out.countIs 2 rfl Hcu.out).mono ?_
  rintro en wz ⟨rfl, hL⟩
  clear HL
  have HL := hide hL
  clear hL
  obtain ⟨wy, rfl⟩ : ∃ z, z = wz := ⟨_, rfl⟩
  go_wp2_with fail
  refine (HL.out.countIs 0 rfl Hcs.out).mono ?_
  rintro en wz ⟨rfl, hL⟩
  clear HL
  have HL := hide hL
  clear hL
  obtain ⟨wy, rfl⟩ : ∃ z, z = wz := ⟨_, rfl⟩
  go_wp2_with fail
  refine (HL.out.countIs 1 rfl Hco.out).mono ?_
  rintro en wz ⟨rfl, hL⟩
  clear HL
  have HL := hide hL
  clear hL
  obtain ⟨wy, rfl⟩ : ∃ z, z = wz := ⟨_, rfl⟩
  go_wp2_with fail
  refine (HL.out.countIs 4 rfl Hcb.out).mono ?_
  rintro en wz ⟨rfl, hL⟩
  clear HL
  have HL := hide hL
  clear hL
  obtain ⟨wy, rfl⟩ : ∃ z, z = wz := ⟨_, rfl⟩
  go_wp2_with fail
  refine (HL.out.countIs 3 rfl Hcm.out).mono ?_
  rintro en wz ⟨rfl, hL⟩
  clear HL
  have HL := hide hL
  clear hL
  obtain ⟨wy, rfl⟩ : ∃ z, z = wz := ⟨_, rfl⟩
  go_wp2_with fail
  refine (HL.out.countIs 4 rfl Hcb.out).mono ?_
  rintro en wz ⟨rfl, hL⟩
  clear HL
  have HL := hide hL
  clear hL
  obtain ⟨wy, rfl⟩ : ∃ z, z = wz := ⟨_, rfl⟩
  go_wp2_with fail
  refine (HL.out.countIs 0 rfl Hcs.out).mono ?_
  rintro en wz ⟨rfl, hL⟩
  clear HL
  have HL := hide hL
  clear hL
  obtain ⟨wy, rfl⟩ : ∃ z, z = wz := ⟨_, rfl⟩
  go_wp2_with fail
  have HS := HL
  clear HL
  go_loopw [12] (fun i wr => ∃ k : Nat, k ≤ n ∧ i = .int .i64 k ∧ Lot w wr n [(w1.heap.size, ws), (w2.heap.size, vs), (w3.heap.size, us), (w4.heap.size, ms), (w5.heap.size, bs)]) (fun i _ => n - (intOf i).toNat)
  case atStart => exact ⟨0, Nat.zero_le _, rfl, HS.out⟩
  case round =>
    clear HS
    obtain ⟨wq, rfl⟩ : ∃ x, x = wr := ⟨_, rfl⟩
    obtain ⟨k, hk, rfl, hL⟩ := hrel
    have HL := hide hL
    clear hL
    by_cases hlt : k < n
    · have hlt' : (k : Int) < n := by omega
      have xu := hide (HU.out k)
      have xm := hide (HM.out k)
      have xb := hide (HB.out k)
      obtain ⟨p, hp⟩ : ∃ p, bit ws k = p := ⟨_, rfl⟩
      obtain ⟨q, hq⟩ : ∃ q, bit vs k = q := ⟨_, rfl⟩
      rw [hp, hq] at xu xm xb
      have xw := hide hp
      have xv := hide hq
      clear hp hq
      clear e1 e2 t1 t2 Hcs Hco Hcu Hcm Hcb HU HM HB l1 l2
      cases p
      · cases q
        all_goals
          go_wp2_with fail
          refine (HL.out.hasIs 2 rfl k xu.out).mono ?_
          rintro en wz ⟨rfl, hL⟩
          clear HL
          have HL := hide hL
          clear hL
          obtain ⟨wq, rfl⟩ : ∃ z, z = wz := ⟨_, rfl⟩
          go_wp2_with fail
          refine (HL.out.hasIs 0 rfl k xw.out).mono ?_
          rintro en wz ⟨rfl, hL⟩
          clear HL
          have HL := hide hL
          clear hL
          obtain ⟨wq, rfl⟩ : ∃ z, z = wz := ⟨_, rfl⟩
          go_wp2_with fail
          refine (HL.out.hasIs 1 rfl k xv.out).mono ?_
          rintro en wz ⟨rfl, hL⟩
          clear HL
          have HL := hide hL
          clear hL
          obtain ⟨wq, rfl⟩ : ∃ z, z = wz := ⟨_, rfl⟩
          go_wp2_with fail
          refine (HL.out.hasIs 3 rfl k xm.out).mono ?_
          rintro en wz ⟨rfl, hL⟩
          clear HL
          have HL := hide hL
          clear hL
          obtain ⟨wq, rfl⟩ : ∃ z, z = wz := ⟨_, rfl⟩
          go_wp2_with fail
          refine (HL.out.hasIs 0 rfl k xw.out).mono ?_
          rintro en wz ⟨rfl, hL⟩
          clear HL
          have HL := hide hL
          clear hL
          obtain ⟨wq, rfl⟩ : ∃ z, z = wz := ⟨_, rfl⟩
          go_wp2_with fail
          refine (HL.out.hasIs 4 rfl k xb.out).mono ?_
          rintro en wz ⟨rfl, hL⟩
          clear HL
          have HL := hide hL
          clear hL
          obtain ⟨wq, rfl⟩ : ∃ z, z = wz := ⟨_, rfl⟩
          go_wp2_with fail
          refine (HL.out.hasIs 0 rfl k xw.out).mono ?_
          rintro en wz ⟨rfl, hL⟩
          clear HL
          have HL := hide hL
          clear hL
          obtain ⟨wq, rfl⟩ : ∃ z, z = wz := ⟨_, rfl⟩
          go_wp2_with fail
          go_roundw
          case rel => exact ⟨k + 1, by omega, by go_num, HL.out⟩
          case measure => simp [intOf]; omega
      · cases q
        all_goals
          go_wp2_with fail
          refine (HL.out.hasIs 2 rfl k xu.out).mono ?_
          rintro en wz ⟨rfl, hL⟩
          clear HL
          have HL := hide hL
          clear hL
          obtain ⟨wq, rfl⟩ : ∃ z, z = wz := ⟨_, rfl⟩
          go_wp2_with fail
          refine (HL.out.hasIs 0 rfl k xw.out).mono ?_
          rintro en wz ⟨rfl, hL⟩
          clear HL
          have HL := hide hL
          clear hL
          obtain ⟨wq, rfl⟩ : ∃ z, z = wz := ⟨_, rfl⟩
          go_wp2_with fail
          refine (HL.out.hasIs 3 rfl k xm.out).mono ?_
          rintro en wz ⟨rfl, hL⟩
          clear HL
          have HL := hide hL
          clear hL
          obtain ⟨wq, rfl⟩ : ∃ z, z = wz := ⟨_, rfl⟩
          go_wp2_with fail
          refine (HL.out.hasIs 0 rfl k xw.out).mono ?_
          rintro en wz ⟨rfl, hL⟩
          clear HL
          have HL := hide hL
          clear hL
          obtain ⟨wq, rfl⟩ : ∃ z, z = wz := ⟨_, rfl⟩
          go_wp2_with fail
          refine (HL.out.hasIs 1 rfl k xv.out).mono ?_
          rintro en wz ⟨rfl, hL⟩
          clear HL
          have HL := hide hL
          clear hL
          obtain ⟨wq, rfl⟩ : ∃ z, z = wz := ⟨_, rfl⟩
          go_wp2_with fail
          refine (HL.out.hasIs 4 rfl k xb.out).mono ?_
          rintro en wz ⟨rfl, hL⟩
          clear HL
          have HL := hide hL
          clear hL
          obtain ⟨wq, rfl⟩ : ∃ z, z = wz := ⟨_, rfl⟩
          go_wp2_with fail
          refine (HL.out.hasIs 0 rfl k xw.out).mono ?_
          rintro en wz ⟨rfl, hL⟩
          clear HL
          have HL := hide hL
          clear hL
          obtain ⟨wq, rfl⟩ : ∃ z, z = wz := ⟨_, rfl⟩
          go_wp2_with fail
          refine (HL.out.hasIs 1 rfl k xv.out).mono ?_
          rintro en wz ⟨rfl, hL⟩
          clear HL
          have HL := hide hL
          clear hL
          obtain ⟨wq, rfl⟩ : ∃ z, z = wz := ⟨_, rfl⟩
          go_wp2_with fail
          go_roundw
          case rel => exact ⟨k + 1, by omega, by go_num, HL.out⟩
          case measure => simp [intOf]; omega
    · obtain rfl : k = n := by omega
      go_wp2_with fail
      refine (HL.out.clone 3 rfl).mono ?_
      rintro en wz ⟨rfl, hL, -⟩
      have HL2 : Hid (Lot w wz k [(w1.heap.size, ws), (w2.heap.size, vs), (w3.heap.size, us), (w4.heap.size, ms), (w5.heap.size, bs), (wq.heap.size, ms)]) := hide hL
      clear hL HL
      go_wp2_with fail
      refine (HL2.out.and 5 4 rfl rfl).mono ?_
      rintro en wz2 ⟨zs, rfl, hL, hzs⟩
      have hno : ∀ j, bit zs j = false := fun j => by
        rw [hzs, HM.out, HB.out]
        cases bit ws j <;> cases bit vs j <;> rfl
      have HL3 : Hid (Lot w wz2 k [(w1.heap.size, ws), (w2.heap.size, vs), (w3.heap.size, us), (w4.heap.size, ms), (w5.heap.size, bs), (wq.heap.size, zs)]) := hide hL
      have hem := emptied (HL3.out.set 3 rfl).2.2.1 (HL3.out.set 5 rfl).2.2.1 hno
      rw [← Hcm.out] at hem
      rw [hem]
      have ha0 := hide (show 0 = (els zs k 0).length by rw [els_nil (fun i _ => hno i)]; rfl)
      clear hL hzs HL2 hno hem
      by_cases h0 : 0 < cm
      all_goals
        go_wp2_with fail
        refine (HL3.out.countIs 3 rfl Hcm.out).mono ?_
        rintro en wz3 ⟨rfl, hL⟩
        have HL4 := hide hL
        clear hL HL3
        have hdm : (decide ((0 : Int) < (cm : Int))) = decide (0 < cm) := by simp
        go_wp2_with fail
        refine (HL4.out.or 3 4 rfl rfl).mono ?_
        rintro en wz4 ⟨xs, rfl, hL, hxs⟩
        have HL5 : Hid (Lot w wz4 k [(w1.heap.size, ws), (w2.heap.size, vs), (w3.heap.size, us), (w4.heap.size, xs), (w5.heap.size, bs), (wq.heap.size, zs)]) := hide hL
        have hxw : xs = ws := (HL5.out.set 3 rfl).2.2.1.ext (HL5.out.set 0 rfl).2.2.1 fun i _ => by
          rw [hxs, HM.out, HB.out]
          cases bit ws i <;> cases bit vs i <;> rfl
        subst hxw
        clear hL hxs HL4
        generalize decide (xs ≠ ms) = dx
        go_wp2_with fail
        refine (HL5.out.countIs 5 rfl ha0.out).mono ?_
        rintro en wz5 ⟨rfl, hL⟩
        have HL6 := hide hL
        clear hL HL5
        go_wp2_with fail
        refine (HL6.out.equal 3 0 rfl rfl).mono ?_
        rintro en wz6 ⟨rfl, hL⟩
        have HZ := hide hL.below
        clear hL HL6
        go_wp2_with fail
        go_ret
        exact ⟨by simp, HZ.out⟩
end Go.Proofs.YtcenbpjkndhlgaaDoor

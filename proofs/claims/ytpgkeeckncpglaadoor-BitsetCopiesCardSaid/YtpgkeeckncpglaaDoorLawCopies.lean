/-
  BitsetCopies, layer 3 (bitset).
-/
import Derived.Test.YtpgkeeckncpglaaDoorAwake
import Derived.Test.YtpgkeeckncpglaaDoorLot
import Derived.Test.YtpgkeeckncpglaaDoorIn
import Derived.Test.YtpgkeeckncpglaaDoorOpen
namespace Go.Proofs.YtpgkeeckncpglaaDoor
open Go.RowKit Go.Shelf

attribute [local go_sem] Oper.semAt_some

set_option maxRecDepth 100000 in
set_option maxHeartbeats 1000000 in
theorem copies_big (n i : Int) (u : Value) (a : List Int) (w : World) (hT : Tab w) (ha : Rd w .i64 u a) (h : ¬ (1 ≤ n ∧ n ≤ 2000 ∧ a.length ≤ 200 ∧ 0 ≤ i ∧ i < n)) :
    Calls Tryd.prog 5 #[.int .i64 n, u, .int .i64 i] w (LawDone w) := by
  obtain ⟨A, c, rfl, hc, -, -⟩ := ha
  have HA := hide (awake_any w hT)
  clear hT
  by_cases h1 : n < 1
  · go_enter Tryd.func5, Tryd.ntmps5
    go_wp2_with fail
    refine HA.out.mono ?_
    rintro en w1 ⟨rfl, hB⟩
    go_wp2_with fail
    go_ret
    exact ⟨rfl, hB⟩
  · by_cases h2 : n > 2000
    · have h2' : 2000 < n := h2
      go_enter Tryd.func5, Tryd.ntmps5
      go_wp2_with fail
      refine HA.out.mono ?_
      rintro en w1 ⟨rfl, hB⟩
      go_wp2_with fail
      go_ret
      exact ⟨rfl, hB⟩
    · have h2' : ¬ (2000 < n) := h2
      by_cases h3 : (200 : Int) < a.length
      · go_enter Tryd.func5, Tryd.ntmps5
        go_wp2_with fail
        refine HA.out.mono ?_
        rintro en w1 ⟨rfl, hB⟩
        go_wp2_with fail
        go_ret
        exact ⟨rfl, hB⟩
      · by_cases h4 : i < 0
        · go_enter Tryd.func5, Tryd.ntmps5
          go_wp2_with fail
          refine HA.out.mono ?_
          rintro en w1 ⟨rfl, hB⟩
          go_wp2_with fail
          go_ret
          exact ⟨rfl, hB⟩
        · have h5 : i ≥ n := by omega
          have h5' : n ≤ i := h5
          clear h
          go_enter Tryd.func5, Tryd.ntmps5
          go_wp2_with fail
          refine HA.out.mono ?_
          rintro en w1 ⟨rfl, hB⟩
          go_wp2_with fail
          go_ret
          exact ⟨rfl, hB⟩

theorem intE : ElemI Tryd.prog 28 3 .i64 8 := ⟨Tryd.underlying28, Tryd.underlying3, info_parts infoInt⟩
theorem own_empty (w : World) (t : TypeId) : Own (w.alloc (.cells #[] t)) w.heap.size t .i64 (.slice (some ⟨w.heap.size, 0, none⟩) 0 0) [] :=
  ⟨rfl, .inr ⟨w.heap.size, 0, #[], rfl, Nat.le_refl _, heap_alloc_new w _, Nat.le_refl _, by unfold maxLen; omega, rfl, rfl⟩⟩
theorem Own.frm' {w w' : World} {base : Nat} {e : TypeId} {k : IntKind} {v : Value} {l : List Int} (h : Own w base e k v l) (hf : Frm w w' []) : Own w' base e k v l := (h.toV.frm hf (fun _ _ => by simp)).toI

theorem hasK {b : Bool} (w : World) (B n : Nat) (ws : List Nat) (h : SetAt w B n ws) (k : Nat) (hb : bit ws k = b) :
    Calls Tryd.prog 16 #[.pointer (some ⟨B + 1, 0, none⟩), .int .i64 k] w fun en w' => en = .returned (.bool b) ∧ Frm w w' [] :=
  (has_set w B n ws h k).mono fun _ _ ⟨x, y⟩ => ⟨by rw [x, Int.toNat_natCast, hb, decide_eq_true (by omega)]; simp, y⟩
theorem lt_cell {W : World} {B : Nat} {v : Value} (h : W.cell? ⟨B, 0, none⟩ = some v) : B < W.heap.size := lt_of_cell (a := ⟨B, 0, none⟩) h
theorem lt_obj {W : World} {D : Nat} {o : Obj} (h : W.heap[D]? = some o) : D < W.heap.size := (Array.getElem?_eq_some_iff.1 h).1
theorem head_mem {ws : List Nat} {n y : Nat} (h : [y] <+: els ws n 0) : y < n ∧ bit ws y = true := by
  obtain ⟨r, h⟩ := h
  have : y ∈ els ws n 0 := by rw [← h]; simp
  exact (mem_els.1 this).2
theorem first_head {ws : List Nat} {n y : Nat} (h : [y] <+: els ws n 0) : ∀ k, k < n → bit ws k = true → (∀ j, j < k → bit ws j = false) → y = k := by
  intro k hk hb hno
  obtain ⟨r, h⟩ := h
  rw [els_some (Nat.zero_le k) hk hb (fun j _ hj => hno j hj)] at h
  injection h

set_option maxRecDepth 100000 in
set_option maxHeartbeats 2000000 in
theorem copies_small (n i : Nat) (u : Value) (a : List Int) (w : World) (hT : Tab w) (ha : Rd w .i64 u a) (hn : n ≤ 2000) (hla : a.length ≤ 200) (hi : i < n) :
    CallsIn Fence.wide 4 Tryd.prog 5 #[.int .i64 n, u, .int .i64 i] w (LawDone w) := by
  have HR := hide ha
  obtain ⟨A, c, rfl, hc, -, -⟩ := ha
  have HA := hide (And.intro (awake_any w hT) hT)
  clear hT
  have h1 : ¬ ((n : Int) < 1) := by omega
  have h2 : ¬ ((n : Int) > 2000) := by omega
  have h2' : ¬ (2000 < n) := by omega
  have h3 : ¬ ((200 : Int) < a.length) := by omega
  have h4 : ¬ ((i : Int) < 0) := by omega
  have h5 : ¬ ((i : Int) ≥ n) := by omega
  refine callsIn_of_wp_marks Tryd.func5 rfl trivial ?_ rfl
  simp only [Tryd.ntmps5, List.size_toArray, List.length_cons, List.length_nil, Nat.reduceAdd, Nat.reduceSub, Array.replicate_succ, Array.replicate_zero, List.push_toArray, List.append_toArray, List.nil_append, List.cons_append]
  gi_wp2_with fail
  refine ⟨trivial, ?_⟩
  gi_at_call 9
  refine (callsIn_wide.2 HA.out.1).mono ?_
  rintro en w1 ⟨rfl, hB⟩
  have hL0 := hide (Lot.nil (n := n) (HA.out.2.below hB) hB HA.out.2.1)
  have HR1 := hide (HR.out.below' hB)
  have hB0 : w.heap.size ≤ w1.heap.size := hB.size
  clear HA HR hB
  gi_wp2_with (gi_at_builtin; refine wpListIn_append_rd _ rfl _ _ 28 rfl w1.heap.size 3 .i64 8 intE _ [] rfl (own_empty w1 3) _ a rfl (HR1.out.alloc _) ?b1 ?b2 ?b3 ?_)
  case b1 => simp only [List.length_nil]; omega
  case b2 => simp only [List.length_nil]; unfold maxLen; omega
  case b3 => rw [World.size_alloc]; omega
  intro v' w2 ho2 hf2 hb2
  have hsz2 : w1.heap.size ≤ w2.heap.size := Nat.le_trans (by rw [World.size_alloc]; omega) hf2.size
  have HO2 : Hid (Own w2 w1.heap.size 3 .i64 v' a) := hide ho2
  have hL2 : Hid (Lot w w2 n []) := hide (hL0.out.frm (((Frm.refl w1 []).alloc (.cells #[] 3)).trans' hf2 (fun g hg => .inr (by simp [Value.ownBlock] at hg; omega))))
  obtain ⟨A', c', rfl, hc', hm', -⟩ := HO2.out.rd
  have hc9 : c' ≤ 9223372036854775807 := by unfold maxLen at hm'; omega
  clear ho2 hf2 hb2 hL0 HR1 hm'
  gi_wp2_with fail
  refine ⟨trivial, ?_⟩
  gi_at_call 10
  refine (callsIn_wide.2 (hL2.out.of _ a (by omega) HO2.out.rd)).mono ?_
  rintro en w3 ⟨rfl, ws, hL, -, hf⟩
  have HL3 : Hid (Lot w w3 n [(w2.heap.size, ws)]) := hide hL
  have HO3 := hide (HO2.out.frm' hf)
  have HG := hide (fun g hg => HO2.out.size g hg)
  have HW1 := hide (hL2.out.below.size)
  have HW0 := hide hB0
  clear hL hf HO2 hL2
  gi_wp2_with fail
  gi_loopw [47] (fun q wr => ∃ (k : Nat) (m : List Int), k ≤ a.length ∧ q = .int .i64 k ∧ m.length = a.length ∧ Own wr w1.heap.size 3 .i64 (.slice A' a.length c') m ∧ Lot w wr n [(w2.heap.size, ws)]) (fun q _ => a.length - (intOf q).toNat)
  case atStart => exact ⟨0, a, Nat.zero_le _, rfl, rfl, HO3.out, HL3.out⟩
  case round =>
    clear HO3 HL3
    obtain ⟨wq, rfl⟩ : ∃ x, x = wr := ⟨_, rfl⟩
    obtain ⟨k, m, hk, rfl, hm, hO, hL⟩ := hrel
    have HL := hide hL
    clear hL
    by_cases hlt : k < a.length
    · have hlt' : (k : Int) < a.length := by omega
      obtain ⟨g, cap, e, -, -, -, -⟩ := hO.form (by omega)
      injection e with e e1 e2
      subst e
      clear e1 e2
      obtain ⟨z, hz⟩ : ∃ z, m[k]? = some z := ⟨_, List.getElem?_eq_getElem (by omega)⟩
      have c1 := hO.cellAt hz
      have f1 := hO.freeAt k
      have HOS := hide (hO.set k (i : Int))
      have hgs := HG.out g rfl
      have HM := hide hm
      clear hO hz hm
      gi_wp2_with fail
      go_roundw
      case rel =>
        refine ⟨k + 1, _, by omega, by go_num, by rw [List.length_set]; exact HM.out, HOS.out, HL.out.beside (S := [g]) ((Frm.refl _ _).setCell _ _ (.inl (by simp))) (fun g' hg' => ?_)⟩
        obtain rfl : g' = g := by simpa using hg'
        refine ⟨Nat.le_trans HW0.out hgs.1, fun p hp => ?_⟩
        obtain rfl : p = (w2.heap.size, ws) := by simpa using hp
        show w2.heap.size ≠ g' ∧ w2.heap.size + 1 ≠ g'
        omega
      case measure => simp [intOf]; omega
    · obtain rfl : k = a.length := by omega
      clear hO
      gi_wp2_with fail
      refine ⟨trivial, ?_⟩
      gi_at_call 24
      refine (callsIn_wide.2 (HL.out.clone 0 rfl)).mono ?_
      rintro en w4 ⟨rfl, hL, -⟩
      have HL4 : Hid (Lot w w4 n [(w2.heap.size, ws), (wq.heap.size, ws)]) := hide hL
      clear hL HL
      gi_wp2_with fail
      refine ⟨trivial, ?_⟩
      gi_at_call 27
      refine (callsIn_wide.2 (HL4.out.equalIs 0 1 rfl rfl (x := true) (by simp))).mono ?_
      rintro en w5 ⟨rfl, hL⟩
      have HL5 := hide hL
      clear hL HL4
      cases hb : bit ws i
      · -- false
        have HB := hide hb
        clear hb
        gi_wp2_with fail
        refine ⟨trivial, ?_⟩
        gi_at_call 16
        refine (callsIn_wide.2 (HL5.out.hasIs 0 rfl i HB.out)).mono ?_
        rintro en w6 ⟨rfl, hL⟩
        have HL6 := hide hL
        clear hL HL5
        gi_wp2_with fail
        refine ⟨trivial, ?_⟩
        gi_at_call 12
        refine (callsIn_wide.2 (HL6.out.addNew 1 rfl i hi HB.out)).mono ?_
        rintro en w8 ⟨rfl, us, hL, hus⟩
        have HL7 := HL6
        clear HL6
        have HL8 : Hid (Lot w w8 n [(w2.heap.size, ws), (wq.heap.size, us)]) := hide hL
        have HU : Hid (bit us i = true) := hide (by rw [hus i]; simp [HB.out])
        have HNE : Hid (decide (ws = us) = false) := hide (by rw [decide_eq_false_iff_not]; intro e; have := HU.out; rw [← e, HB.out] at this; cases this)
        clear hL hus HL7
        gi_wp2_with fail
        refine ⟨trivial, ?_⟩
        gi_wp2_with fail
        refine ⟨trivial, ?_⟩
        gi_at_call 16
        refine (callsIn_wide.2 (HL8.out.hasIs 0 rfl i HB.out)).mono ?_
        rintro en w9 ⟨rfl, hL⟩
        have HL9 := hide hL
        clear hL HL8
        gi_wp2_with fail
        refine ⟨trivial, ?_⟩
        gi_at_call 16
        refine (callsIn_wide.2 (HL9.out.hasIs 1 rfl i HU.out)).mono ?_
        rintro en w10 ⟨rfl, hL⟩
        have HL10 := hide hL
        clear hL HL9
        gi_wp2_with fail
        refine ⟨trivial, ?_⟩
        gi_at_call 27
        refine (callsIn_wide.2 (HL10.out.equalIs 0 1 rfl rfl HNE.out)).mono ?_
        rintro en w11 ⟨rfl, hL⟩
        have HL11 := hide hL
        clear hL HL10
        have hfn := fun W => funcNil W (.func 46) #[] #[.pointer (some ⟨w11.heap.size, 0, none⟩)]
        gi_wp2_with (refine ⟨trivial, ?_⟩; gi_at_call 30; refine (callsIn_wide.2 (all_call _ _)).mono ?_; rintro e w' ⟨rfl, rfl⟩)
        have b0 := box_new w11 (.pointer (some ⟨w2.heap.size + 1, 0, none⟩)) 23
        have b1 := box_new (w11.alloc (.cells #[.pointer (some ⟨w2.heap.size + 1, 0, none⟩)] 23)) (.int .i64 (-1)) 3
        rw [World.size_alloc] at b1
        have hW2 : w2.heap.size + 1 < w11.heap.size := (HL11.out.set 0 rfl).lt
        have hw0 : 0 < w11.heap.size := by omega
        have hB0' : Below w11.heap.size w11 ((w11.alloc (.cells #[.pointer (some ⟨w2.heap.size + 1, 0, none⟩)] 23)).alloc (.cells #[.int .i64 (-1)] 3)) := ((Below.refl _ w11).alloc (Nat.le_refl _) _).alloc (by simp) _
        refine' wpIn_rangeFunc_ownF rfl (by omega) (gf := 46) (lb := #[.pointer (some ⟨w11.heap.size, 0, none⟩)]) rfl trivial (enters_of Tryd.func46 (by kernel_rfl) rfl)
          (all_stops 3 w11.heap.size (w11.heap.size + 1) w2.heap.size n [] ws (by omega) _ (fun i hi => ⟨by omega, by simp⟩) (box_alloc _ b0.1) (by simp only [World.size_alloc]; omega) ((HL11.out.set 0 rfl).below hB0') (HL11.out.tab.frm (S := []) (Frm.below hB0') (by simp))) Kq.t (Kq.b (by simp only [World.size_alloc]; omega)) (Below.refl _ _) (fun _ => rfl)
          (fun pre W => pre = [] ∧ (W.cell? ⟨w11.heap.size + 1, 0, none⟩ = some (.int .i64 (-1)) ∧ W.frozen? ⟨w11.heap.size + 1, 0, none⟩ = false) ∧ Below w11.heap.size w11 W)
          (fun c pre W => c = .exit 2 ∧ ∃ y : Nat, pre = [y] ∧ W.cell? ⟨w11.heap.size + 1, 0, none⟩ = some (.int .i64 (y : Nat)) ∧ Below w11.heap.size w11 W)
          ?hI ?hIx ⟨rfl, b1, hB0'⟩ _ ?assign ?body ?done ?stop
        case hI => exact OwnFrom.and (fun s A B row hs hg hr => hs) (OwnFrom.and (Own.from (fun s A B row hs hg hr => ⟨cell_kept hs.1 hg hr, (frozen_kept hs.1 hg hr).trans hs.2⟩) _) (ownFrom_below (Nat.le_refl _) (by simp only [World.size_alloc]; omega)))
        case hIx =>
          rintro c s A B row ⟨rfl, y, rfl, hc, hb⟩ hg hr
          exact ⟨rfl, y, rfl, cell_kept hc hg (fun r e => (hr r e).2), ownFrom_below (β := Unit) (Nat.le_refl _) (by simp only [World.size_alloc]; omega) () A B row hb hg hr⟩
        case assign =>
          intro l x W K hK
          gi_wp2
          exact hK
        case body =>
          rintro l pre x W ⟨rfl, ⟨hc, hf⟩, hB⟩ hpl
          gi_wp2
          exact ⟨KeepsOthers.setCell _ _ _, rfl, x, rfl, World.cell?_setCell_same' _ _ _ (by rw [hc]; rfl), hB.setCell (p := ⟨w11.heap.size + 1, 0, none⟩) (by show w11.heap.size ≤ w11.heap.size + 1; omega) _⟩
        case done =>
          rintro D ys W hD rfl ⟨hpre, ⟨hc, hf⟩, hB⟩ hK
          have HE := hide hpre
          have HZ := hide (And.intro ((HL11.out.set 0 rfl).below hB) (And.intro (HL11.out.below.trans (hB.mono HL11.out.below.size)) (And.intro hc hK)))
          have hDw : w11.heap.size ≤ D := by simp at hD; omega
          clear hpre hc hf hB hK
          gi_wp2_with fail
          gi_loopw [16] (fun q wr => ∃ k : Nat, k ≤ n ∧ q = .int .i64 k ∧ (∀ j, j < k → bit ws j = false) ∧ SetAt wr w2.heap.size n ws ∧ Below w.heap.size w wr ∧ wr.cell? ⟨w11.heap.size + 1, 0, none⟩ = some (.int .i64 (-1)) ∧ wr.heap[D]? = some (.deferred (some []))) (fun q _ => n - (intOf q).toNat)
          case atStart => exact ⟨0, Nat.zero_le _, rfl, fun j hj => by omega, HZ.out.1, HZ.out.2.1, HZ.out.2.2.1, HZ.out.2.2.2⟩
          case round =>
            clear HZ
            obtain ⟨wq2, rfl⟩ : ∃ x, x = wr := ⟨_, rfl⟩
            obtain ⟨k, hk, rfl, hno, hS, hBl, hc, hD2⟩ := hrel
            have HN := hide hno
            have HQ := hide (And.intro hS (And.intro hBl (And.intro hc hD2)))
            clear hno hS hBl hc hD2
            by_cases hlt : k < n
            · have hlt' : (k : Int) < n := by omega
              cases hbk : bit ws k
              · have HK := hide hbk
                clear hbk
                gi_wp2_with fail
                refine ⟨trivial, ?_⟩
                gi_at_call 16
                refine (callsIn_wide.2 (hasK (b := false) wq2 _ n ws HQ.out.1 k HK.out)).mono ?_
                rintro en w13 ⟨rfl, hf⟩
                have HQ2 := hide (And.intro (HQ.out.1.frm hf (by simp) (by simp)) (And.intro (HQ.out.2.1.trans (hf.toBelow (fun _ h => (by cases h)) HQ.out.2.1.size)) (And.intro ((hf.cell (p := ⟨w11.heap.size + 1, 0, none⟩) (lt_cell HQ.out.2.2.1) (by simp)).trans HQ.out.2.2.1) ((hf.block D (lt_obj HQ.out.2.2.2) (by simp)).trans HQ.out.2.2.2))))
                clear hf HQ
                gi_wp2_with fail
                go_roundw
                case rel =>
                  refine ⟨k + 1, by omega, by go_num, fun j hj => ?_, HQ2.out⟩
                  rcases Nat.lt_or_ge j k with h | h
                  · exact HN.out j h
                  · obtain rfl : j = k := by omega
                    exact HK.out
                case measure => simp [intOf]; omega
              · have HK := hide hbk
                clear hbk
                gi_wp2_with fail
                refine ⟨trivial, ?_⟩
                gi_at_call 16
                refine (callsIn_wide.2 (hasK (b := true) wq2 _ n ws HQ.out.1 k HK.out)).mono ?_
                rintro en w13 ⟨rfl, hf⟩
                have hc13 := (hf.cell (p := ⟨w11.heap.size + 1, 0, none⟩) (lt_cell HQ.out.2.2.1) (by simp)).trans HQ.out.2.2.1
                have hD13 := (hf.block D (lt_obj HQ.out.2.2.2) (by simp)).trans HQ.out.2.2.2
                have hB13 := HQ.out.2.1.trans (hf.toBelow (fun _ h => (by cases h)) HQ.out.2.1.size)
                clear hf HQ
                exact absurd (mem_els.2 ⟨Nat.zero_le k, hlt, HK.out⟩) (by rw [HE.out]; simp)
            · obtain rfl : k = n := by omega
              have hc := HQ.out.2.2.1
              have hD13 := HQ.out.2.2.2
              have hB13 := HQ.out.2.1
              clear HQ
              gi_wp2_with fail
              refine ⟨by simp, .inl ⟨_, _, rfl, run_takeDeferred hD13, ?_⟩⟩
              exact ⟨_, results_tmp rfl _ _ _, rfl, hB13.trans (belowK_b (w := w) (Nat.le_refl _) _ D _ _ (by omega) hD13 rfl rfl)⟩
        case stop =>
          rintro D c pre W hD hSp ⟨rfl, y, rfl, hc, hB⟩ hK
          have HY := hide (first_head hSp)
          have HY2 := hide (head_mem hSp)
          have HZ := hide (And.intro ((HL11.out.set 0 rfl).below hB) (And.intro (HL11.out.below.trans (hB.mono HL11.out.below.size)) (And.intro hc hK)))
          have hDw : w11.heap.size ≤ D := by simp at hD; omega
          clear hc hB hK hSp
          gi_wp2_with fail
          gi_loopw [16] (fun q wr => ∃ k : Nat, k ≤ n ∧ q = .int .i64 k ∧ (∀ j, j < k → bit ws j = false) ∧ SetAt wr w2.heap.size n ws ∧ Below w.heap.size w wr ∧ wr.cell? ⟨w11.heap.size + 1, 0, none⟩ = some (.int .i64 (y : Nat)) ∧ wr.heap[D]? = some (.deferred (some []))) (fun q _ => n - (intOf q).toNat)
          case atStart => exact ⟨0, Nat.zero_le _, rfl, fun j hj => by omega, HZ.out.1, HZ.out.2.1, HZ.out.2.2.1, HZ.out.2.2.2⟩
          case round =>
            clear HZ
            obtain ⟨wq2, rfl⟩ : ∃ x, x = wr := ⟨_, rfl⟩
            obtain ⟨k, hk, rfl, hno, hS, hBl, hc, hD2⟩ := hrel
            have HN := hide hno
            have HQ := hide (And.intro hS (And.intro hBl (And.intro hc hD2)))
            clear hno hS hBl hc hD2
            by_cases hlt : k < n
            · have hlt' : (k : Int) < n := by omega
              cases hbk : bit ws k
              · have HK := hide hbk
                clear hbk
                gi_wp2_with fail
                refine ⟨trivial, ?_⟩
                gi_at_call 16
                refine (callsIn_wide.2 (hasK (b := false) wq2 _ n ws HQ.out.1 k HK.out)).mono ?_
                rintro en w13 ⟨rfl, hf⟩
                have HQ2 := hide (And.intro (HQ.out.1.frm hf (by simp) (by simp)) (And.intro (HQ.out.2.1.trans (hf.toBelow (fun _ h => (by cases h)) HQ.out.2.1.size)) (And.intro ((hf.cell (p := ⟨w11.heap.size + 1, 0, none⟩) (lt_cell HQ.out.2.2.1) (by simp)).trans HQ.out.2.2.1) ((hf.block D (lt_obj HQ.out.2.2.2) (by simp)).trans HQ.out.2.2.2))))
                clear hf HQ
                gi_wp2_with fail
                go_roundw
                case rel =>
                  refine ⟨k + 1, by omega, by go_num, fun j hj => ?_, HQ2.out⟩
                  rcases Nat.lt_or_ge j k with h | h
                  · exact HN.out j h
                  · obtain rfl : j = k := by omega
                    exact HK.out
                case measure => simp [intOf]; omega
              · have HK := hide hbk
                clear hbk
                gi_wp2_with fail
                refine ⟨trivial, ?_⟩
                gi_at_call 16
                refine (callsIn_wide.2 (hasK (b := true) wq2 _ n ws HQ.out.1 k HK.out)).mono ?_
                rintro en w13 ⟨rfl, hf⟩
                have hc13 := (hf.cell (p := ⟨w11.heap.size + 1, 0, none⟩) (lt_cell HQ.out.2.2.1) (by simp)).trans HQ.out.2.2.1
                have hD13 := (hf.block D (lt_obj HQ.out.2.2.2) (by simp)).trans HQ.out.2.2.2
                have hB13 := HQ.out.2.1.trans (hf.toBelow (fun _ h => (by cases h)) HQ.out.2.1.size)
                clear hf HQ
                obtain rfl : y = k := HY.out k hlt HK.out HN.out
                gi_wp2_with fail
                refine ⟨by simp, .inl ⟨_, _, rfl, run_takeDeferred hD13, ?_⟩⟩
                exact ⟨_, results_tmp rfl _ _ _, rfl, hB13.trans (belowK_b (w := w) (Nat.le_refl _) _ D _ _ (by omega) hD13 rfl rfl)⟩
            · obtain rfl : k = n := by omega
              have hc := HQ.out.2.2.1
              have hD13 := HQ.out.2.2.2
              have hB13 := HQ.out.2.1
              clear HQ
              exact absurd HY2.out.2 (by rw [HN.out y HY2.out.1]; simp)
      · -- true
        have HB := hide hb
        clear hb
        gi_wp2_with fail
        refine ⟨trivial, ?_⟩
        gi_at_call 16
        refine (callsIn_wide.2 (HL5.out.hasIs 0 rfl i HB.out)).mono ?_
        rintro en w6 ⟨rfl, hL⟩
        have HL6 := hide hL
        clear hL HL5
        gi_wp2_with fail
        refine ⟨trivial, ?_⟩
        gi_at_call 12
        refine (callsIn_wide.2 (HL6.out.addOld 1 rfl (i : Int) (.inr (.inr HB.out)))).mono ?_
        rintro en w7 ⟨rfl, hL⟩
        have HL7 := hide hL
        clear hL HL6
        gi_wp2_with fail
        refine ⟨trivial, ?_⟩
        gi_at_call 14
        refine (callsIn_wide.2 (HL7.out.delOld 1 rfl i hi HB.out)).mono ?_
        rintro en w8 ⟨rfl, us, hL, hus⟩
        have HL8 : Hid (Lot w w8 n [(w2.heap.size, ws), (wq.heap.size, us)]) := hide hL
        have HU : Hid (bit us i = false) := hide (by rw [hus i]; simp [HB.out])
        have HNE : Hid (decide (ws = us) = false) := hide (by rw [decide_eq_false_iff_not]; intro e; have := HU.out; rw [← e, HB.out] at this; cases this)
        clear hL hus HL7
        gi_wp2_with fail
        refine ⟨trivial, ?_⟩
        gi_at_call 16
        refine (callsIn_wide.2 (HL8.out.hasIs 0 rfl i HB.out)).mono ?_
        rintro en w9 ⟨rfl, hL⟩
        have HL9 := hide hL
        clear hL HL8
        gi_wp2_with fail
        refine ⟨trivial, ?_⟩
        gi_at_call 16
        refine (callsIn_wide.2 (HL9.out.hasIs 1 rfl i HU.out)).mono ?_
        rintro en w10 ⟨rfl, hL⟩
        have HL10 := hide hL
        clear hL HL9
        gi_wp2_with fail
        refine ⟨trivial, ?_⟩
        gi_at_call 27
        refine (callsIn_wide.2 (HL10.out.equalIs 0 1 rfl rfl HNE.out)).mono ?_
        rintro en w11 ⟨rfl, hL⟩
        have HL11 := hide hL
        clear hL HL10
        have hfn := fun W => funcNil W (.func 46) #[] #[.pointer (some ⟨w11.heap.size, 0, none⟩)]
        gi_wp2_with (refine ⟨trivial, ?_⟩; gi_at_call 30; refine (callsIn_wide.2 (all_call _ _)).mono ?_; rintro e w' ⟨rfl, rfl⟩)
        have b0 := box_new w11 (.pointer (some ⟨w2.heap.size + 1, 0, none⟩)) 23
        have b1 := box_new (w11.alloc (.cells #[.pointer (some ⟨w2.heap.size + 1, 0, none⟩)] 23)) (.int .i64 (-1)) 3
        rw [World.size_alloc] at b1
        have hW2 : w2.heap.size + 1 < w11.heap.size := (HL11.out.set 0 rfl).lt
        have hw0 : 0 < w11.heap.size := by omega
        have hB0' : Below w11.heap.size w11 ((w11.alloc (.cells #[.pointer (some ⟨w2.heap.size + 1, 0, none⟩)] 23)).alloc (.cells #[.int .i64 (-1)] 3)) := ((Below.refl _ w11).alloc (Nat.le_refl _) _).alloc (by simp) _
        refine' wpIn_rangeFunc_ownF rfl (by omega) (gf := 46) (lb := #[.pointer (some ⟨w11.heap.size, 0, none⟩)]) rfl trivial (enters_of Tryd.func46 (by kernel_rfl) rfl)
          (all_stops 3 w11.heap.size (w11.heap.size + 1) w2.heap.size n [] ws (by omega) _ (fun i hi => ⟨by omega, by simp⟩) (box_alloc _ b0.1) (by simp only [World.size_alloc]; omega) ((HL11.out.set 0 rfl).below hB0') (HL11.out.tab.frm (S := []) (Frm.below hB0') (by simp))) Kq.t (Kq.b (by simp only [World.size_alloc]; omega)) (Below.refl _ _) (fun _ => rfl)
          (fun pre W => pre = [] ∧ (W.cell? ⟨w11.heap.size + 1, 0, none⟩ = some (.int .i64 (-1)) ∧ W.frozen? ⟨w11.heap.size + 1, 0, none⟩ = false) ∧ Below w11.heap.size w11 W)
          (fun c pre W => c = .exit 2 ∧ ∃ y : Nat, pre = [y] ∧ W.cell? ⟨w11.heap.size + 1, 0, none⟩ = some (.int .i64 (y : Nat)) ∧ Below w11.heap.size w11 W)
          ?hI ?hIx ⟨rfl, b1, hB0'⟩ _ ?assign ?body ?done ?stop
        case hI => exact OwnFrom.and (fun s A B row hs hg hr => hs) (OwnFrom.and (Own.from (fun s A B row hs hg hr => ⟨cell_kept hs.1 hg hr, (frozen_kept hs.1 hg hr).trans hs.2⟩) _) (ownFrom_below (Nat.le_refl _) (by simp only [World.size_alloc]; omega)))
        case hIx =>
          rintro c s A B row ⟨rfl, y, rfl, hc, hb⟩ hg hr
          exact ⟨rfl, y, rfl, cell_kept hc hg (fun r e => (hr r e).2), ownFrom_below (β := Unit) (Nat.le_refl _) (by simp only [World.size_alloc]; omega) () A B row hb hg hr⟩
        case assign =>
          intro l x W K hK
          gi_wp2
          exact hK
        case body =>
          rintro l pre x W ⟨rfl, ⟨hc, hf⟩, hB⟩ hpl
          gi_wp2
          exact ⟨KeepsOthers.setCell _ _ _, rfl, x, rfl, World.cell?_setCell_same' _ _ _ (by rw [hc]; rfl), hB.setCell (p := ⟨w11.heap.size + 1, 0, none⟩) (by show w11.heap.size ≤ w11.heap.size + 1; omega) _⟩
        case done =>
          rintro D ys W hD rfl ⟨hpre, ⟨hc, hf⟩, hB⟩ hK
          have HE := hide hpre
          have HZ := hide (And.intro ((HL11.out.set 0 rfl).below hB) (And.intro (HL11.out.below.trans (hB.mono HL11.out.below.size)) (And.intro hc hK)))
          have hDw : w11.heap.size ≤ D := by simp at hD; omega
          clear hpre hc hf hB hK
          gi_wp2_with fail
          gi_loopw [16] (fun q wr => ∃ k : Nat, k ≤ n ∧ q = .int .i64 k ∧ (∀ j, j < k → bit ws j = false) ∧ SetAt wr w2.heap.size n ws ∧ Below w.heap.size w wr ∧ wr.cell? ⟨w11.heap.size + 1, 0, none⟩ = some (.int .i64 (-1)) ∧ wr.heap[D]? = some (.deferred (some []))) (fun q _ => n - (intOf q).toNat)
          case atStart => exact ⟨0, Nat.zero_le _, rfl, fun j hj => by omega, HZ.out.1, HZ.out.2.1, HZ.out.2.2.1, HZ.out.2.2.2⟩
          case round =>
            clear HZ
            obtain ⟨wq2, rfl⟩ : ∃ x, x = wr := ⟨_, rfl⟩
            obtain ⟨k, hk, rfl, hno, hS, hBl, hc, hD2⟩ := hrel
            have HN := hide hno
            have HQ := hide (And.intro hS (And.intro hBl (And.intro hc hD2)))
            clear hno hS hBl hc hD2
            by_cases hlt : k < n
            · have hlt' : (k : Int) < n := by omega
              cases hbk : bit ws k
              · have HK := hide hbk
                clear hbk
                gi_wp2_with fail
                refine ⟨trivial, ?_⟩
                gi_at_call 16
                refine (callsIn_wide.2 (hasK (b := false) wq2 _ n ws HQ.out.1 k HK.out)).mono ?_
                rintro en w13 ⟨rfl, hf⟩
                have HQ2 := hide (And.intro (HQ.out.1.frm hf (by simp) (by simp)) (And.intro (HQ.out.2.1.trans (hf.toBelow (fun _ h => (by cases h)) HQ.out.2.1.size)) (And.intro ((hf.cell (p := ⟨w11.heap.size + 1, 0, none⟩) (lt_cell HQ.out.2.2.1) (by simp)).trans HQ.out.2.2.1) ((hf.block D (lt_obj HQ.out.2.2.2) (by simp)).trans HQ.out.2.2.2))))
                clear hf HQ
                gi_wp2_with fail
                go_roundw
                case rel =>
                  refine ⟨k + 1, by omega, by go_num, fun j hj => ?_, HQ2.out⟩
                  rcases Nat.lt_or_ge j k with h | h
                  · exact HN.out j h
                  · obtain rfl : j = k := by omega
                    exact HK.out
                case measure => simp [intOf]; omega
              · have HK := hide hbk
                clear hbk
                gi_wp2_with fail
                refine ⟨trivial, ?_⟩
                gi_at_call 16
                refine (callsIn_wide.2 (hasK (b := true) wq2 _ n ws HQ.out.1 k HK.out)).mono ?_
                rintro en w13 ⟨rfl, hf⟩
                have hc13 := (hf.cell (p := ⟨w11.heap.size + 1, 0, none⟩) (lt_cell HQ.out.2.2.1) (by simp)).trans HQ.out.2.2.1
                have hD13 := (hf.block D (lt_obj HQ.out.2.2.2) (by simp)).trans HQ.out.2.2.2
                have hB13 := HQ.out.2.1.trans (hf.toBelow (fun _ h => (by cases h)) HQ.out.2.1.size)
                clear hf HQ
                exact absurd (mem_els.2 ⟨Nat.zero_le k, hlt, HK.out⟩) (by rw [HE.out]; simp)
            · obtain rfl : k = n := by omega
              have hc := HQ.out.2.2.1
              have hD13 := HQ.out.2.2.2
              have hB13 := HQ.out.2.1
              clear HQ
              gi_wp2_with fail
              refine ⟨by simp, .inl ⟨_, _, rfl, run_takeDeferred hD13, ?_⟩⟩
              exact ⟨_, results_tmp rfl _ _ _, rfl, hB13.trans (belowK_b (w := w) (Nat.le_refl _) _ D _ _ (by omega) hD13 rfl rfl)⟩
        case stop =>
          rintro D c pre W hD hSp ⟨rfl, y, rfl, hc, hB⟩ hK
          have HY := hide (first_head hSp)
          have HY2 := hide (head_mem hSp)
          have HZ := hide (And.intro ((HL11.out.set 0 rfl).below hB) (And.intro (HL11.out.below.trans (hB.mono HL11.out.below.size)) (And.intro hc hK)))
          have hDw : w11.heap.size ≤ D := by simp at hD; omega
          clear hc hB hK hSp
          gi_wp2_with fail
          gi_loopw [16] (fun q wr => ∃ k : Nat, k ≤ n ∧ q = .int .i64 k ∧ (∀ j, j < k → bit ws j = false) ∧ SetAt wr w2.heap.size n ws ∧ Below w.heap.size w wr ∧ wr.cell? ⟨w11.heap.size + 1, 0, none⟩ = some (.int .i64 (y : Nat)) ∧ wr.heap[D]? = some (.deferred (some []))) (fun q _ => n - (intOf q).toNat)
          case atStart => exact ⟨0, Nat.zero_le _, rfl, fun j hj => by omega, HZ.out.1, HZ.out.2.1, HZ.out.2.2.1, HZ.out.2.2.2⟩
          case round =>
            clear HZ
            obtain ⟨wq2, rfl⟩ : ∃ x, x = wr := ⟨_, rfl⟩
            obtain ⟨k, hk, rfl, hno, hS, hBl, hc, hD2⟩ := hrel
            have HN := hide hno
            have HQ := hide (And.intro hS (And.intro hBl (And.intro hc hD2)))
            clear hno hS hBl hc hD2
            by_cases hlt : k < n
            · have hlt' : (k : Int) < n := by omega
              cases hbk : bit ws k
              · have HK := hide hbk
                clear hbk
                gi_wp2_with fail
                refine ⟨trivial, ?_⟩
                gi_at_call 16
                refine (callsIn_wide.2 (hasK (b := false) wq2 _ n ws HQ.out.1 k HK.out)).mono ?_
                rintro en w13 ⟨rfl, hf⟩
                have HQ2 := hide (And.intro (HQ.out.1.frm hf (by simp) (by simp)) (And.intro (HQ.out.2.1.trans (hf.toBelow (fun _ h => (by cases h)) HQ.out.2.1.size)) (And.intro ((hf.cell (p := ⟨w11.heap.size + 1, 0, none⟩) (lt_cell HQ.out.2.2.1) (by simp)).trans HQ.out.2.2.1) ((hf.block D (lt_obj HQ.out.2.2.2) (by simp)).trans HQ.out.2.2.2))))
                clear hf HQ
                gi_wp2_with fail
                go_roundw
                case rel =>
                  refine ⟨k + 1, by omega, by go_num, fun j hj => ?_, HQ2.out⟩
                  rcases Nat.lt_or_ge j k with h | h
                  · exact HN.out j h
                  · obtain rfl : j = k := by omega
                    exact HK.out
                case measure => simp [intOf]; omega
              · have HK := hide hbk
                clear hbk
                gi_wp2_with fail
                refine ⟨trivial, ?_⟩
                gi_at_call 16
                refine (callsIn_wide.2 (hasK (b := true) wq2 _ n ws HQ.out.1 k HK.out)).mono ?_
                rintro en w13 ⟨rfl, hf⟩
                have hc13 := (hf.cell (p := ⟨w11.heap.size + 1, 0, none⟩) (lt_cell HQ.out.2.2.1) (by simp)).trans HQ.out.2.2.1
                have hD13 := (hf.block D (lt_obj HQ.out.2.2.2) (by simp)).trans HQ.out.2.2.2
                have hB13 := HQ.out.2.1.trans (hf.toBelow (fun _ h => (by cases h)) HQ.out.2.1.size)
                clear hf HQ
                obtain rfl : y = k := HY.out k hlt HK.out HN.out
                gi_wp2_with fail
                refine ⟨by simp, .inl ⟨_, _, rfl, run_takeDeferred hD13, ?_⟩⟩
                exact ⟨_, results_tmp rfl _ _ _, rfl, hB13.trans (belowK_b (w := w) (Nat.le_refl _) _ D _ _ (by omega) hD13 rfl rfl)⟩
            · obtain rfl : k = n := by omega
              have hc := HQ.out.2.2.1
              have hD13 := HQ.out.2.2.2
              have hB13 := HQ.out.2.1
              clear HQ
              exact absurd HY2.out.2 (by rw [HN.out y HY2.out.1]; simp)
end Go.Proofs.YtpgkeeckncpglaaDoor

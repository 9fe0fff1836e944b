/-
  WorklistOwn, layer 5 (worklist).
-/
import Derived.Test.YthdjgbkooeabfaaLawsA
namespace Go.Proofs.Ythdjgbkooeabfaa
open Go.RowKit

/-- No made queue: nil, or a zero Queue. -/
def NoQ (w : World) (v : Value) : Prop := v = .pointer none ∨ ∃ Z, v = .pointer (some ⟨Z, 0, none⟩) ∧ w.cell? ⟨Z, 2, none⟩ = some (.pointer none)

theorem nilPtr (w : World) (a : Addr) : (binOp .eql 25 (.pointer none) (.pointer (some a))).run Try.prog w = .ok (.bool false) w := by
  have h : ∀ d : Nat, (Op.equalIn (d + 1) 25 (.pointer none) (.pointer (some a))).run Try.prog w = .ok false w := fun d => by
    simp [Op.equalIn, run_underlying Try.underlying25]
  simp only [binOp]
  simp [Op.equal, Op.maxDepth, h 9999]

theorem validNo (w : World) (v : Value) (h : NoQ w v) :
    Calls Try.prog 26 #[v] w fun en w' => en = .returned (.bool false) ∧ w = w' := by
  rcases h with rfl | ⟨Z, rfl, c2⟩
  · go_enter Try.func26, Try.ntmps26
    go_wp2_with fail
    exact ⟨rfl, _, results_tmp rfl _ _ _, rfl, rfl⟩
  · have heq := nilPtr w ⟨Z, 0, none⟩
    go_enter Try.func26, Try.ntmps26
    go_wp2_with fail
    go_ret
    exact ⟨rfl, rfl⟩
theorem rangeNo (w : World) (v : Value) (h : NoQ w v) (i : Int) :
    Calls Try.prog 25 #[v, .int .i64 i] w fun en w' => en = .returned (.bool false) ∧ w = w' := by
  have HV := hide (validNo w v h)
  go_enter Try.func25, Try.ntmps25
  go_wp2_with (go_at_call 26; refine HV.out.mono ?_; rintro en w' ⟨rfl, rfl⟩)
  go_ret
  exact ⟨rfl, rfl⟩
theorem pushNoQ (w : World) (v : Value) (h : NoQ w v) (i : Int) :
    Calls Try.prog 14 #[v, .int .i64 i] w fun en w' => en = .returned (.bool false) ∧ w = w' := by
  have HV := hide (rangeNo w v h i)
  go_enter Try.func14, Try.ntmps14
  go_wp2_with (go_at_call 25; refine HV.out.mono ?_; rintro en w' ⟨rfl, rfl⟩)
  go_ret
  exact ⟨rfl, rfl⟩
theorem hasNoQ (w : World) (v : Value) (h : NoQ w v) (i : Int) :
    Calls Try.prog 17 #[v, .int .i64 i] w fun en w' => en = .returned (.bool false) ∧ w = w' := by
  have HV := hide (rangeNo w v h i)
  go_enter Try.func17, Try.ntmps17
  go_wp2_with (go_at_call 25; refine HV.out.mono ?_; rintro en w' ⟨rfl, rfl⟩)
  go_ret
  exact ⟨rfl, rfl⟩
theorem lenNoQ (w : World) (v : Value) (h : NoQ w v) :
    Calls Try.prog 16 #[v] w fun en w' => en = .returned (.int .i64 0) ∧ w = w' := by
  have HV := hide (validNo w v h)
  go_enter Try.func16, Try.ntmps16
  go_wp2_with (go_at_call 26; refine HV.out.mono ?_; rintro en w' ⟨rfl, rfl⟩)
  go_ret
  exact ⟨rfl, rfl⟩
theorem popNoQ (w : World) (v : Value) (h : NoQ w v) :
    Calls Try.prog 15 #[v] w fun en w' => en = .returned (.tuple #[.int .i64 0, .bool false]) ∧ w = w' := by
  have HL := hide (lenNoQ w v h)
  go_enter Try.func15, Try.ntmps15
  go_wp2_with (go_at_call 16; refine HL.out.mono ?_; rintro en w' ⟨rfl, rfl⟩)
  go_ret2
  exact ⟨rfl, rfl⟩

set_option maxRecDepth 100000 in
set_option maxHeartbeats 2000000 in
theorem lawOwn (u v : Value) (l : List Int) (acts : List (Int × Int)) (w : World) (hu : Rd w .i64 u l) (hv : RdN w 2 v (acts.map act)) :
    Calls Try.prog 7 #[u, v] w (LawDone w) := by
  have HV := hide hv
  have HU := hide hu
  obtain ⟨_, A, c, rfl, hc, hm, -⟩ := hv
  obtain ⟨A', c', rfl, hc', hm', -⟩ := hu
  have hc9 : c ≤ 9223372036854775807 := by unfold maxLen at hm; omega
  have hc9' : c' ≤ 9223372036854775807 := by unfold maxLen at hm'; omega
  rw [List.length_map] at hc HV ⊢
  clear hm hm'
  by_cases h0 : (l.length : Int) > 100
  · have h0' : (100 : Int) < l.length := h0
    have HW := hide (works_any w)
    go_enter Try.func7, Try.ntmps7
    go_wp2_with fail
    refine HW.out.mono ?_
    rintro en w1 ⟨rfl, hb⟩
    go_wp2_with fail
    go_ret
    exact ⟨rfl, hb⟩
  · have h0' : ¬ ((100 : Int) < l.length) := h0
    by_cases h1 : (acts.length : Int) > 100
    · have h1' : (100 : Int) < acts.length := h1
      have HW := hide (works_any w)
      go_enter Try.func7, Try.ntmps7
      go_wp2_with fail
      refine HW.out.mono ?_
      rintro en w1 ⟨rfl, hb⟩
      go_wp2_with fail
      go_ret
      exact ⟨rfl, hb⟩
    · have h1' : ¬ ((100 : Int) < acts.length) := h1
      have hl : l.length ≤ 65536 := by omega
      go_enter Try.func7, Try.ntmps7
      go_wp2_with (refine wpList_append_rd _ rfl _ _ 30 rfl w.heap.size 3 .i64 8 intE _ [] rfl (own_empty w 3) _ l rfl (HU.out.alloc _) ?b1 ?b2 ?b3 ?_)
      case b1 => first | omega | (simp only [List.length_nil]; omega)
      case b2 => unfold maxLen; first | omega | (simp only [List.length_nil]; omega)
      intro v' w1 ho hg hb hblk
      have ho : Own w1 w.heap.size 3 .i64 v' l := ho
      obtain ⟨A2, c2, rfl, hc2, hm2, -⟩ := ho.rd
      have hc29 : c2 ≤ 9223372036854775807 := by unfold maxLen at hm2; omega
      have hw1 : Frm w w1 [] := ((Frm.refl w []).alloc _).trans' (Frm.grown hg) (fun g hg' => .inr (by simp [Value.ownBlock] at hg'; omega))
      have H1 := hide (And.intro ho (hw1.toBelow (by simp) (Nat.le_refl _)))
      have hsz1 : w.heap.size ≤ w1.heap.size := hw1.size
      clear ho hg hb hblk hw1 hm2
      go_wp2_with fail
      refine (byrank_any w1 _ l H1.out.1.rd hl).mono ?_
      rintro en w2 ⟨rfl, hq2, hf2⟩
      have HG := hide (fun g hg => H1.out.1.size g hg)
      have H2 := hide (And.intro hq2 (And.intro (H1.out.1.frmS hf2 (fun _ _ => by simp)) (H1.out.2.trans (hf2.toBelow (by simp) H1.out.2.size))))
      clear hq2 hf2 H1
      go_wp2_with fail
      go_loopw [30] (fun z wr => ∃ (k : Nat) (m : List Int), k ≤ l.length ∧ z = .int .i64 k ∧ m.length = l.length ∧ Own wr w.heap.size 3 .i64 (.slice A2 l.length c2) m ∧ QHeap wr w1.heap.size l.length l [] ∧ Below w.heap.size w wr) (fun z _ => l.length - (intOf z).toNat)
      case atStart => exact ⟨0, l, Nat.zero_le _, rfl, rfl, H2.out.2.1, H2.out.1, H2.out.2.2⟩
      case round =>
        clear H2
        obtain ⟨wq, rfl⟩ : ∃ x, x = wr := ⟨_, rfl⟩
        obtain ⟨k, m, hk, rfl, hml, ho, hq, hb⟩ := hrel
        have HQ := hide (And.intro hq hb)
        clear hq hb
        by_cases hlt : k < l.length
        · have hlt' : (k : Int) < l.length := by omega
          obtain ⟨g, cap, e, -, -, -, -⟩ := ho.form (by omega)
          injection e with e e1 e2
          subst e
          clear e1 e2
          obtain ⟨z, hz⟩ : ∃ z, m[k]? = some z := ⟨_, List.getElem?_eq_getElem (by omega)⟩
          have c1 := ho.cellAt hz
          have f1 := ho.freeAt k
          have HOS := hide (fun y : Int => ho.set k y)
          have hgs := HG.out g rfl
          have HML := hide hml
          clear ho hz hml
          go_wp2_with fail
          go_roundw
          case rel =>
            refine ⟨k + 1, _, by omega, by go_num, by rw [List.length_set]; exact HML.out, HOS.out _, QHeap.frm (S := [g]) HQ.out.1 ((Frm.refl _ _).setCell _ _ (.inl (by simp))) (fun g' hg' => ?_), HQ.out.2.setCell (p := ⟨g, k, none⟩) hgs.1 _⟩
            obtain rfl : g' = g := by simpa using hg'
            exact .inl hgs.2
          case measure => simp [intOf]; omega
        · obtain rfl : k = l.length := by omega
          have H3 := hide (And.intro HQ.out.1 HQ.out.2)
          clear ho HQ
          go_wp2_with fail
          have hz0 := Whole.new wq 44 #[.slice none 0 0, .nilIface, .pointer none]
          have HZ : Hid (NoQ (wq.alloc (.cells #[.slice none 0 0, .nilIface, .pointer none] 44)) (.pointer (some ⟨wq.heap.size, 0, none⟩))) := hide (.inr ⟨_, rfl, hz0.cell 2⟩)
          have HN : Hid (∀ W : World, NoQ W (.pointer none)) := hide (fun _ => .inl rfl)
          have H4 : Hid (QHeap (wq.alloc (.cells #[.slice none 0 0, .nilIface, .pointer none] 44)) w1.heap.size l.length l [] ∧ Below w.heap.size w (wq.alloc (.cells #[.slice none 0 0, .nilIface, .pointer none] 44))) := hide ⟨H3.out.1.frm (S := []) ((Frm.refl _ _).alloc _) (by simp), H3.out.2.alloc H3.out.2.size _⟩
          clear hz0 H3
          refine (popNoQ _ _ (HN.out _)).mono ?_
          rintro en w' ⟨rfl, rfl⟩
          go_wp2_with fail
          refine (popNoQ _ _ HZ.out).mono ?_
          rintro en w' ⟨rfl, rfl⟩
          go_wp2_with fail
          refine (pushNoQ _ _ (HN.out _) 0).mono ?_
          rintro en w' ⟨rfl, rfl⟩
          go_wp2_with fail
          refine (pushNoQ _ _ HZ.out 0).mono ?_
          rintro en w' ⟨rfl, rfl⟩
          go_wp2_with fail
          refine (lenNoQ _ _ (HN.out _)).mono ?_
          rintro en w' ⟨rfl, rfl⟩
          go_wp2_with fail
          refine (lenNoQ _ _ HZ.out).mono ?_
          rintro en w' ⟨rfl, rfl⟩
          go_wp2_with fail
          refine (hasNoQ _ _ (HN.out _) 0).mono ?_
          rintro en w' ⟨rfl, rfl⟩
          go_wp2_with fail
          refine (hasNoQ _ _ HZ.out 0).mono ?_
          rintro en w' ⟨rfl, rfl⟩
          go_wp2_with fail
          refine (rbyrank_any _ _ l (HU.out.below' H4.out.2) hl).mono ?_
          rintro en w5 ⟨R, rfl, ⟨F, hr5⟩, hf5⟩
          have hB : Both (heapShop l) w5 w1.heap.size (wq.alloc (.cells #[.slice none 0 0, .nilIface, .pointer none] 44)).heap.size R [] F := ⟨H4.out.1.frm hf5 (by simp), hr5, H4.out.1.lt⟩
          have HB := hide (And.intro hB (H4.out.2.trans (hf5.toBelow (by simp) H4.out.2.size)))
          clear hB hr5 hf5 H4 HZ HN
          go_wp2_with fail
          refine (play_any (heapShop l) w w5 w1.heap.size _ R F HB.out.1 _ acts HV.out HB.out.2 hsz1).mono ?_
          rintro en w6 ⟨rfl, hb3⟩
          have HB3 := hide hb3
          clear hb3 HB
          go_wp2_with fail
          refine (works_any w6).mono ?_
          rintro en w7 ⟨rfl, hb4⟩
          have HB4 := hide (HB3.out.trans (hb4.mono HB3.out.size))
          clear hb4 HB3
          go_wp2_with fail
          go_ret
          exact ⟨rfl, HB4.out⟩
end Go.Proofs.Ythdjgbkooeabfaa

/-
  Layer 7 (scc): OnCycle.
-/
import Derived.Test.YtakojoedifhcnaaTComps
import Derived.Test.YtakojoedifhcnaaTEqB
namespace Go.Proofs.Ytakojoedifhcnaa
open Go.RowKit

def cntTo (f : Nat → Nat) (a k : Nat) : Nat := (part a f k).length
theorem cntTo_succ (f : Nat → Nat) (a : Nat) : cntTo f (a + 1) (f a) = cntTo f a (f a) + 1 := by unfold cntTo; rw [part_succ, if_pos rfl, List.length_append]; rfl
theorem cntTo_other (f : Nat → Nat) (a : Nat) {k : Nat} (h : k ≠ f a) : cntTo f (a + 1) k = cntTo f a k := by unfold cntTo; rw [part_succ, if_neg (fun e => h e.symm), List.append_nil]
theorem cntTo_le (f : Nat → Nat) (a k : Nat) : cntTo f a k ≤ a := part_lt
theorem more_than_one {n : Nat} {f : Nat → Nat} {x : Nat} (hx : x < n) : 1 < cntTo f n (f x) ↔ ∃ y, y ≠ x ∧ y < n ∧ f y = f x := by
  unfold cntTo part
  rw [List.length_map]
  have hm : x ∈ (List.range n).filter fun y => f y == f x := List.mem_filter.2 ⟨List.mem_range.2 hx, by simp⟩
  have hn : ((List.range n).filter fun y => f y == f x).Nodup := List.nodup_range.filter _
  have hl := List.length_erase_of_mem hm
  constructor
  · intro h
    obtain ⟨y, hy⟩ := List.length_pos_iff_exists_mem.1 (show 0 < (((List.range n).filter fun y => f y == f x).erase x).length by omega)
    obtain ⟨h1, h2⟩ := (hn.mem_erase_iff).1 hy
    obtain ⟨h3, h4⟩ := List.mem_filter.1 h2
    exact ⟨y, h1, List.mem_range.1 h3, by simpa using h4⟩
  · rintro ⟨y, h1, h2, h3⟩
    have : y ∈ ((List.range n).filter fun y => f y == f x).erase x := (hn.mem_erase_iff).2 ⟨h1, List.mem_filter.2 ⟨List.mem_range.2 h2, by simpa using h3⟩⟩
    have := List.length_pos_of_mem this
    omega
theorem on_math {g : List (List Int)} {num : Nat → Nat} {cnt : Nat} {lst : List Nat} (h : Lists (stray g) cnt num lst) {x : Nat} {l : List Int} (hl : g[x]? = some l) : path1B (stray g) x x = (decide (1 < cntTo (idx lst num) g.length (idx lst num x)) || decide ((x : Int) ∈ l)) := by
  have hx := (List.getElem?_eq_some_iff.1 hl).1
  have hs : ∀ y, y < g.length → y < (stray g).length := fun y hy => by rw [stray_len]; exact hy
  rw [Bool.eq_iff_iff, path1B_iff (stray_ok g), path1_self, succs_stray, getD_of hl]
  simp only [Bool.or_eq_true, decide_eq_true_eq, more_than_one hx]
  constructor
  · rintro (h1 | ⟨y, hy, hsc⟩)
    · exact .inr h1.2
    · have hyl := hsc.1.lt (stray_ok g) (hs x hx)
      exact .inl ⟨y, hy, by rwa [stray_len] at hyl, (h.same hyl (hs x hx)).2 hsc.symm⟩
  · rintro (⟨y, hy, hyl, e⟩ | h1)
    · exact .inr ⟨y, hy, ((h.same (hs y hyl) (hs x hx)).1 e).symm⟩
    · exact .inl ⟨hx, h1⟩

theorem not_nil (b n c : Nat) (W : World) : Sem.run Try.prog (binOp .eql 29 (.slice (some ⟨b, 0, none⟩) n c) (.slice none 0 0)) W = .ok (.bool false) W := by kernel_rfl
set_option maxRecDepth 100000 in
set_option maxHeartbeats 4000000 in
theorem on_any (A : Option Addr) (c : Nat) (g : List (List Int)) (w : World) (hg : RdL w A c g) (hN : g.length ≤ 65536) (hE : edges g ≤ 1000000) :
    Calls Try.prog 15 #[.agg #[.slice A g.length c]] w fun en w' => (∃ F, en = .returned (.slice (some ⟨F, 0, none⟩) g.length g.length) ∧ OwnV w' w.heap.size 4 (.slice (some ⟨F, 0, none⟩) g.length g.length) (bl g.length (fun x => path1B (stray g) x x))) ∧ Below w.heap.size w w' := by
  have hc := hg.cap
  have hc9 : c ≤ 9223372036854775807 := by unfold maxLen at hc; omega
  obtain ⟨w1, hw1⟩ : ∃ x, w.alloc (.cells #[.slice A g.length c] 24) = x := ⟨_, rfl⟩
  have hx1 : w1.cell? ⟨w.heap.size, 0, none⟩ = some (.slice A g.length c) := by rw [← hw1]; simp [go_sem]
  have hB1 : Below w.heap.size w w1 := by rw [← hw1]; exact (Below.refl _ _).alloc (Nat.le_refl _) _
  have HB1 := hide hB1
  have HX1 := hide hx1
  have HG1 := hide (hg.below' hB1)
  have HK := hide (index_any A c g w1 HG1.out hN hE)
  clear hg hE hB1 hc
  go_enter Try.func15, Try.ntmps15
  go_wp2_with fail
  refine HK.out.mono ?_
  rintro en w2 ⟨⟨F, cnt, num, lst, rfl, hls, hF⟩, hb2⟩
  have HLS := hide hls
  have HB2 := hide hb2
  obtain ⟨f, hf⟩ : ∃ f, idx lst num = f := ⟨_, rfl⟩
  have HFL : Hid (∀ x, x < g.length → f x < g.length) := hide (by
    intro x hx
    have h1 := hls.parts.le
    rw [stray_len] at h1
    have := hls.lt (x := x) (by rw [stray_len]; exact hx)
    rw [hf] at this; omega)
  have HON : Hid (∀ x l, g[x]? = some l → path1B (stray g) x x = (decide (1 < cntTo f g.length (f x)) || decide ((x : Int) ∈ l))) := hide (fun x l hl => by rw [← hf]; exact on_math hls hl)
  rw [hf] at hF
  have HF := hide hF
  have hnn := not_nil F g.length g.length w2
  have hmk := run_made w2 29 3 (.int .i64 0) 8 Try.underlying29 infoInt rfl (by omega) g.length (by omega)
  obtain ⟨w3, h3⟩ : ∃ x, w2.alloc (.cells (madeCells #[.int .i64 0] g.length) 3) = x := ⟨_, rfl⟩
  have HC3 : Hid (Own w3 w2.heap.size 3 .i64 (.slice (some ⟨w2.heap.size, 0, none⟩) g.length g.length) (fl g.length (cntTo f 0))) := hide (by
    rw [← h3]
    refine OwnV.toI ?_
    have := own_madeV w2 3 (.int .i64 0) g.length w2.heap.size (by unfold maxLen; omega) (Nat.le_refl _)
    have e : (fl g.length (cntTo f 0)).map (Value.int .i64) = List.replicate g.length (.int .i64 0) := by
      unfold fl; apply List.ext_getElem <;> simp [cntTo, part]
    rw [e]; exact this)
  have HB3 : Hid (Below w2.heap.size w2 w3) := hide (by rw [← h3]; exact (Below.refl _ _).alloc (Nat.le_refl _) _)
  clear hls hF hb2 HK hw1 hx1
  go_wp2_with fail
  clear h3 hmk hnn
  go_loopw [19] (fun z wr => ∃ a : Nat, a ≤ g.length ∧ z = .int .i64 (a : Nat) ∧ Hid (Own wr w2.heap.size 3 .i64 (.slice (some ⟨w2.heap.size, 0, none⟩) g.length g.length) (fl g.length (cntTo f a))) ∧ Hid (Below w2.heap.size w2 wr)) (fun z _ => g.length - (intOf z).toNat)
  case atStart => exact ⟨0, Nat.zero_le _, rfl, HC3, HB3⟩
  case round =>
    clear HC3 HB3
    obtain ⟨wq, rfl⟩ : ∃ x, x = wr := ⟨_, rfl⟩
    obtain ⟨a, ha, rfl, HC, HB⟩ := hrel
    by_cases hlt : a < g.length
    · have hlt' : (a : Int) < g.length := by omega
      have hfa := HFL.out a hlt
      have hfa' : (f a : Int) < g.length := by omega
      have c1 := (HF.out.below' HB.out).cellAt (fl_get f hlt)
      have c2 := HC.out.cellAt (fl_get (cntTo f a) hfa)
      have f2 := HC.out.freeAt (f a)
      have hle := cntTo_le f a (f a)
      have hw1 : IntKind.i64.wrap ((cntTo f a (f a) : Int) + 1) = (cntTo f a (f a) : Int) + 1 := IntWalk.i64_in _ (by omega)
      have HC2 := HC.out.set (f a) ((cntTo f a (f a) + 1 : Nat) : Int)
      rw [fl_set (h := cntTo f (a + 1)) (cntTo_succ f a) (fun z hz => cntTo_other f a hz)] at HC2
      have HC3 := hide HC2
      clear HC2
      go_wp2_with fail
      go_roundw
      case rel => exact ⟨a + 1, by omega, by go_num, HC3, hide (HB.out.setCell (p := ⟨w2.heap.size, f a, none⟩) (Nat.le_refl _) _)⟩
      case measure => simp [intOf]; omega
    · obtain rfl : a = g.length := by omega
      have hmk := run_made wq 32 4 (.bool false) 1 Try.underlying32 infoBool rfl (by omega) g.length (by omega)
      obtain ⟨w5, h5⟩ : ∃ x, wq.alloc (.cells (madeCells #[.bool false] g.length) 4) = x := ⟨_, rfl⟩
      have HD5 : Hid (OwnV w5 wq.heap.size 4 (.slice (some ⟨wq.heap.size, 0, none⟩) g.length g.length) (bl g.length (fun x => decide (x < 0) && path1B (stray g) x x))) := hide (by
        rw [bl_congr (h := fun _ => false) (fun i _ => by simp), bl_false, ← h5]
        exact own_madeV wq 4 (.bool false) g.length wq.heap.size (by unfold maxLen; omega) (Nat.le_refl _))
      have HB5 : Hid (Below wq.heap.size wq w5) := hide (by rw [← h5]; exact (Below.refl _ _).alloc (Nat.le_refl _) _)
      have HBQ : Hid (Below w.heap.size w wq) := hide (HB1.out.trans ((HB2.out.mono HB1.out.size).trans (HB.out.mono (by have := HB1.out.size; have := HB2.out.size; omega))))
      have HB1Q : Hid (Below w1.heap.size w1 wq) := hide (HB2.out.trans (HB.out.mono HB2.out.size))
      have HFQ := hide (HF.out.below' HB.out)
      go_wp2_with fail
      clear h5 hmk
      go_loopw [35] (fun z wr => ∃ a : Nat, a ≤ g.length ∧ z = .int .i64 (a : Nat) ∧ Hid (OwnV wr wq.heap.size 4 (.slice (some ⟨wq.heap.size, 0, none⟩) g.length g.length) (bl g.length (fun x => decide (x < a) && path1B (stray g) x x))) ∧ Hid (Below wq.heap.size wq wr)) (fun z _ => g.length - (intOf z).toNat)
      case atStart => exact ⟨0, Nat.zero_le _, rfl, HD5, HB5⟩
      case round =>
        clear HD5 HB5
        obtain ⟨wp, rfl⟩ : ∃ x, x = wr := ⟨_, rfl⟩
        obtain ⟨a, ha, rfl, HD, HBP⟩ := hrel
        by_cases hlt : a < g.length
        · have hlt' : (a : Int) < g.length := by omega
          obtain ⟨l, hl⟩ : ∃ l, g[a]? = some l := ⟨_, List.getElem?_eq_getElem hlt⟩
          have hfa := HFL.out a hlt
          have hfa' : (f a : Int) < g.length := by omega
          have c1 := (HFQ.out.below' HBP.out).cellAt (fl_get f hlt)
          have c2 := (HC.out.below' HBP.out).cellAt (fl_get (cntTo f g.length) hfa)
          have hon := HON.out a l hl
          have hstep : ∀ b, b = path1B (stray g) a a → ∀ W, OwnV W wq.heap.size 4 (.slice (some ⟨wq.heap.size, 0, none⟩) g.length g.length) (bl g.length (fun x => decide (x < a) && path1B (stray g) x x)) → OwnV (W.setCell ⟨wq.heap.size, a, none⟩ (.bool b)) wq.heap.size 4 (.slice (some ⟨wq.heap.size, 0, none⟩) g.length g.length) (bl g.length (fun x => decide (x < a + 1) && path1B (stray g) x x)) := fun b hb W hW => by
            have := hW.set a (.bool b)
            rw [bl_set (g := fun x => decide (x < a + 1) && path1B (stray g) x x) (by simp [hb]) (fun j hj => by
              have : decide (j < a + 1) = decide (j < a) := by rw [decide_eq_decide]; omega
              simp only [this])] at this
            exact this
          have HST := hide hstep
          clear hstep
          by_cases h1 : 1 < cntTo f g.length (f a)
          · have h1' : (1 : Int) < cntTo f g.length (f a) := by omega
            have hdec : decide ((1 : Int) < cntTo f g.length (f a)) = true := decide_eq_true h1'
            have HP : Hid (true = path1B (stray g) a a) := hide (by rw [hon, decide_eq_true h1, Bool.true_or])
            have fd := HD.out.freeAt a
            have cd := HD.out.cellAt (bl_get (fun x => decide (x < a) && path1B (stray g) x x) hlt)
            clear hon hl
            go_wp2_with fail
            go_roundw
            case rel => exact ⟨a + 1, by omega, by go_num, hide (HST.out true HP.out wp HD.out), hide (HBP.out.setCell (p := ⟨wq.heap.size, a, none⟩) (Nat.le_refl _) _)⟩
            case measure => simp [intOf]; omega
          · have h1' : ¬ (1 : Int) < cntTo f g.length (f a) := by omega
            have hdec : decide ((1 : Int) < cntTo f g.length (f a)) = false := decide_eq_false h1'
            have HP : Hid (decide ((a : Int) ∈ l) = path1B (stray g) a a) := hide (by rw [hon, decide_eq_false h1, Bool.false_or])
            have HB1P := HB1Q.out.trans (HBP.out.mono HB1Q.out.size)
            obtain ⟨b, off, B, d, rfl, hbl2, hcell2, hrow⟩ := HG1.out.at hl
            have hcell := (HB1P.cell (p := ⟨b, off + a, none⟩) hbl2).trans hcell2
            have cx := (HB1P.cell (p := ⟨w.heap.size, 0, none⟩) (lt_of_cell HX1.out)).trans HX1.out
            have HKC := hide (conti_any (.slice B l.length d) l (a : Int) wp (hrow.below' HB1P))
            have hd9 : d ≤ 9223372036854775807 := by obtain ⟨_, _, e3, hd, hm, -⟩ := hrow; injection e3 with e3 e4 e5; subst e5; unfold maxLen at hm; omega
            clear hon hl hbl2 hcell2 hrow HB1P
            go_wp2_with fail
            refine HKC.out.mono ?_
            rintro en w7 ⟨rfl, hb7⟩
            have hD7 := HD.out.below' hb7
            have fd := hD7.freeAt a
            have cd := hD7.cellAt (bl_get (fun x => decide (x < a) && path1B (stray g) x x) hlt)
            have HD7 := hide hD7
            have HB7 := hide (HBP.out.trans (hb7.mono HBP.out.size))
            clear hD7 hb7 HKC cx hcell
            go_wp2_with fail
            go_roundw
            case rel => exact ⟨a + 1, by omega, by go_num, hide (HST.out _ HP.out w7 HD7.out), hide (HB7.out.setCell (p := ⟨wq.heap.size, a, none⟩) (Nat.le_refl _) _)⟩
            case measure => simp [intOf]; omega
        · obtain rfl : a = g.length := by omega
          have hD := HD.out
          rw [bl_congr (h := fun x => path1B (stray g) x x) (fun i hi => by rw [decide_eq_true hi, Bool.true_and])] at hD
          have HZ := hide (And.intro (hD.low HBQ.out.size) (HBQ.out.trans (HBP.out.mono HBQ.out.size)))
          clear hD HD
          go_wp2_with fail
          go_ret
          exact ⟨⟨wq.heap.size, rfl, HZ.out.1⟩, HZ.out.2⟩
end Go.Proofs.Ytakojoedifhcnaa

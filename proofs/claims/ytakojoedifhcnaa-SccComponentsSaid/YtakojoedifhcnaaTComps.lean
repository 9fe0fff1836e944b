/-
  Layer 7 (scc): Components.
-/
import Derived.Test.YtakojoedifhcnaaTIndex
import Derived.Test.YtakojoedifhcnaaTGrow
import Derived.Test.YtakojoedifhcnaaTRefMath
namespace Go.Proofs.Ytakojoedifhcnaa
open Go.RowKit

/-- How many parts the first a nodes need. -/
def ht (f : Nat → Nat) : Nat → Nat
  | 0 => 0
  | a + 1 => max (ht f a) (f a + 1)
theorem ht_le {f : Nat → Nat} {m : Nat} : ∀ {n : Nat}, (∀ x, x < n → f x < m) → ht f n ≤ m
  | 0, _ => Nat.zero_le _
  | n + 1, h => by
    have h1 := ht_le (f := f) (m := m) (n := n) fun x hx => h x (by omega)
    have h2 := h n (by omega)
    simp only [ht]; omega
theorem lt_ht {f : Nat → Nat} : ∀ {n x : Nat}, x < n → f x < ht f n
  | n + 1, x, hx => by
    simp only [ht]
    by_cases e : x = n
    · subst e; omega
    · have := lt_ht (f := f) (n := n) (x := x) (by omega); omega
def partsTo (f : Nat → Nat) (a m : Nat) : List (List Int) := (List.range m).map (part a f)
theorem partsTo_len (f : Nat → Nat) (a m : Nat) : (partsTo f a m).length = m := by simp [partsTo]
theorem partsTo_get (f : Nat → Nat) (a : Nat) {m k : Nat} (h : k < m) : (partsTo f a m)[k]? = some (part a f k) := by simp [partsTo, h]
theorem part_zero (f : Nat → Nat) (k : Nat) : part 0 f k = [] := rfl
theorem part_succ (f : Nat → Nat) (a k : Nat) : part (a + 1) f k = part a f k ++ (if f a = k then [(a : Int)] else []) := by
  unfold part
  rw [List.range_succ, List.filter_append, List.map_append]
  by_cases e : f a = k <;> simp [e]
theorem part_far {f : Nat → Nat} {a k : Nat} (h : ht f a ≤ k) : part a f k = [] := by
  unfold part
  rw [List.map_eq_nil_iff, List.filter_eq_nil_iff]
  intro x hx
  have := lt_ht (f := f) (List.mem_range.1 hx)
  simp; omega
theorem partsTo_snoc {f : Nat → Nat} {a m : Nat} (h : ht f a ≤ m) : partsTo f a m ++ [[]] = partsTo f a (m + 1) := by
  unfold partsTo
  rw [List.range_succ, List.map_append, List.map_cons, List.map_nil, part_far h]
theorem partsTo_set (f : Nat → Nat) (a m : Nat) : (partsTo f a m).set (f a) (part a f (f a) ++ [(a : Int)]) = partsTo f (a + 1) m := by
  apply List.ext_getElem?
  intro i
  by_cases hi : i < m
  · rw [partsTo_get f (a + 1) hi, part_succ]
    by_cases e : i = f a
    · subst e
      rw [List.getElem?_set_self (by rw [partsTo_len]; exact hi), if_pos rfl]
    · rw [List.getElem?_set_ne (fun x => e x.symm), partsTo_get f a hi, if_neg (fun x => e x.symm), List.append_nil]
  · rw [List.getElem?_eq_none (by rw [List.length_set, partsTo_len]; omega), List.getElem?_eq_none (by rw [partsTo_len]; omega)]
theorem Lists.ht {g : List (List Int)} {num : Nat → Nat} {cnt : Nat} {lst : List Nat} (h : Lists g cnt num lst) : Proofs.Ytakojoedifhcnaa.ht (idx lst num) g.length = cnt := by
  refine Nat.le_antisymm (ht_le fun x hx => h.lt hx) (Nat.le_of_not_lt fun c => ?_)
  obtain ⟨x, hx, e⟩ := h.onto c
  have := lt_ht (f := idx lst num) hx
  omega
theorem part_lt {n : Nat} {f : Nat → Nat} {k : Nat} : (part n f k).length ≤ n := by
  unfold part; rw [List.length_map]; exact Nat.le_trans (List.length_filter_le _ _) (by simp)
theorem intsV : ElemV Try.prog 22 29 (.slice none 0 0) 24 := ⟨Try.underlying22, rfl, info_parts infoInts⟩

set_option maxRecDepth 100000 in
set_option maxHeartbeats 4000000 in
theorem comps_any (A : Option Addr) (c : Nat) (g : List (List Int)) (w : World) (hg : RdL w A c g) (hN : g.length ≤ 65536) (hE : edges g ≤ 1000000) :
    Calls Try.prog 9 #[.agg #[.slice A g.length c]] w fun en w' => (∃ sv R cnt num lst, en = .returned sv ∧ Lists (stray g) cnt num lst ∧ OwnG w' w.heap.size sv R (partsTo (idx lst num) g.length cnt)) ∧ Below w.heap.size w w' := by
  obtain ⟨w1, hw1⟩ : ∃ x, w.alloc (.cells #[.slice A g.length c] 24) = x := ⟨_, rfl⟩
  have hx1 : w1.cell? ⟨w.heap.size, 0, none⟩ = some (.slice A g.length c) := by rw [← hw1]; simp [go_sem]
  have hB1 : Below w.heap.size w w1 := by rw [← hw1]; exact (Below.refl _ _).alloc (Nat.le_refl _) _
  have HB1 := hide hB1
  have HK := hide (index_any A c g w1 (hg.below' hB1) hN hE)
  clear hg hE hB1
  go_enter Try.func9, Try.ntmps9
  go_wp2_with fail
  refine HK.out.mono ?_
  rintro en w2 ⟨⟨F, cnt, num, lst, rfl, hls, hF⟩, hb2⟩
  have HLS := hide hls
  have HF := hide hF
  have HB2 : Hid (Below w.heap.size w w2) := hide (HB1.out.trans (hb2.mono HB1.out.size))
  obtain ⟨f, hf⟩ : ∃ f, idx lst num = f := ⟨_, rfl⟩
  have HFL : Hid (∀ x, x < g.length → f x < g.length) := hide (by
    intro x hx
    have h1 := hls.parts.le
    rw [stray_len] at h1
    have := hls.lt (x := x) (by rw [stray_len]; exact hx)
    rw [hf] at this; omega)
  have HHT : Hid (ht f g.length = cnt) := hide (by have := hls.ht; rwa [stray_len, hf] at this)
  rw [hf] at HF
  clear hls hF hb2 HK hw1 hx1
  go_wp2_with fail
  go_loopw [3, 9] (fun sv z wr => ∃ (a : Nat) (R : List Value), a ≤ g.length ∧ z = .int .i64 (a : Nat) ∧ Hid (OwnG wr w2.heap.size sv R (partsTo f a (ht f a))) ∧ Hid (Below w2.heap.size w2 wr)) (fun _ z _ => g.length - (intOf z).toNat)
  case atStart => exact ⟨0, [], Nat.zero_le _, rfl, hide OwnG.nil, hide (Below.refl _ _)⟩
  case round =>
    obtain ⟨wq, rfl⟩ : ∃ x, x = wr := ⟨_, rfl⟩
    obtain ⟨a, R, ha, rfl, HG, HB⟩ := hrel
    by_cases hlt : a < g.length
    · have hlt' : (a : Int) < g.length := by omega
      have c1 := (HF.out.below' HB.out).cellAt (fl_get f hlt)
      go_wp2_with fail
      clear c1
      go_loopg [3] (f a + 1) (fun k sv wr => ∃ (m : Nat) (R : List Value), f a + 1 - m ≤ k ∧ ht f a ≤ m ∧ m ≤ max (ht f a) (f a + 1) ∧ Hid (OwnG wr w2.heap.size sv R (partsTo f a m)) ∧ Hid (Below w2.heap.size w2 wr))
      case atStart => exact ⟨ht f a, R, by omega, Nat.le_refl _, by omega, HG, HB⟩
      case round =>
        clear HG HB
        obtain ⟨wp, rfl⟩ : ∃ x, x = wr := ⟨_, rfl⟩
        obtain ⟨k, rfl⟩ : ∃ x, x = gk := ⟨_, rfl⟩
        obtain ⟨m, R, hk, hm1, hm2, HG, HB⟩ := hrel
        have hfa := HFL.out a hlt
        have hha : ht f a ≤ g.length := ht_le fun x hx => HFL.out x (by omega)
        obtain ⟨As, cs, e0, hcs, hcm⟩ := HG.out.form
        rw [partsTo_len] at hcs e0
        subst e0
        have hcs9 : cs ≤ 9223372036854775807 := by unfold maxLen at hcm; omega
        clear hcm
        by_cases hlt2 : m ≤ f a
        · have hle : decide ((m : Int) ≤ (f a : Int)) = true := decide_eq_true (by omega)
          have hle' : (m : Int) ≤ (f a : Int) := by omega
          go_wp2_with (first | (refine wpList_append_v _ rfl _ _ 22 rfl w2.heap.size 29 (.slice none 0 0) 24 intsV _ R rfl (HG.out.own.alloc _) _ [.slice none 0 0] rfl (rdv_one wp 29 _) ?b0 ?b1 ?b2 ?b3 ?_))
          case b0 => intro y hy; rw [List.mem_singleton.1 hy]; rfl
          case b1 => have := HG.out.len; rw [partsTo_len] at this; rw [List.length_singleton]; omega
          case b2 => have := HG.out.len; rw [partsTo_len] at this; unfold maxLen; rw [List.length_singleton]; omega
          case b3 => have := HB.out.size; rw [World.size_alloc]; omega
          intro v' w5 ho5 hf5 hb5
          have hG5 := (HG.out.frm ((Frm.refl wp []).alloc (.cells #[.slice none 0 0] 29))).add (v := .slice none 0 0) (l := []) hf5 ho5 Own.nil (hb5.imp id (fun h x hx => by rw [h] at hx; injection hx with hx; rw [World.size_alloc]; omega)) (fun g hg => by simp [Value.ownBlock] at hg) (fun i u g hi hu => by simp [Value.ownBlock])
          rw [partsTo_snoc hm1] at hG5
          have hB5 : Below w2.heap.size w2 w5 := (HB.out.alloc HB.out.size _).trans (hf5.toBelow (fun g' hg' => (HG.out.own.size g' (by simpa using hg')).1) (by have := HB.out.size; rw [World.size_alloc]; omega))
          have HZ := hide (And.intro hG5 hB5)
          clear hG5 hB5 ho5 hf5 hb5
          go_wp2_with fail
          go_roundg (k - 1)
          case measure => omega
          case rel => exact ⟨m + 1, _, by omega, by omega, by omega, hide HZ.out.1, hide HZ.out.2⟩
        · have hle : decide ((m : Int) ≤ (f a : Int)) = false := decide_eq_false (by omega)
          have hle' : ¬ (m : Int) ≤ (f a : Int) := by omega
          obtain rfl : m = ht f (a + 1) := by simp only [ht]; omega
          have hlt3 : (f a : Int) < (ht f (a + 1) : Nat) := by omega
          obtain ⟨v, hv⟩ : ∃ v, R[f a]? = some v := ⟨_, List.getElem?_eq_getElem (by rw [HG.out.len, partsTo_len]; omega)⟩
          have hget := partsTo_get f a (m := ht f (a + 1)) (k := f a) (by omega)
          have hrow := HG.out.row (f a) v _ hv hget
          obtain ⟨D, c3, e3, -, -, -, -⟩ := HG.out.own.form (by rw [HG.out.len, partsTo_len]; omega)
          injection e3 with e3 e4 e5
          subst e3 e5
          have cv := HG.out.own.cellAt hv
          have HRW := hide hrow
          have HVV := hide (And.intro hv hget)
          have hpl := part_lt (n := a) (f := f) (k := f a)
          obtain ⟨ls, hls⟩ : ∃ ls, part a f (f a) = ls := ⟨_, rfl⟩
          rw [hls] at HRW hpl HVV hrow
          have HLS2 := hide hls
          obtain ⟨Av, cv', rfl, hcv1, hcv2, -⟩ := hrow.rd
          have hcv9 : cv' ≤ 9223372036854775807 := by unfold maxLen at hcv2; omega
          have ha' : (a : Int) < g.length := by omega
          clear hrow hv hget hls hcv2 e4
          go_wp2_with (first | (refine wpList_append_v _ rfl _ _ 29 rfl w2.heap.size 3 (.int .i64 0) 8 intV _ (ls.map (Value.int .i64)) rfl (HRW.out.alloc _).toV _ [.int .i64 (a : Nat)] rfl (rdv_one wp 3 _) ?b0 ?b1 ?b2 ?b3 ?_))
          case b0 => rfl
          case b1 => omega
          case b2 => unfold maxLen; omega
          case b3 => have := HB.out.size; omega
          intro v' w5 ho5 hf5 hb5
          have hb5' : v'.ownBlock = (Value.slice Av ls.length cv').ownBlock ∨ ∀ g', v'.ownBlock = some g' → (wp.alloc (.cells #[.int .i64 (a : Int)] 3)).heap.size ≤ g' := hb5.imp id (fun h g' hg' => by rw [h] at hg'; injection hg' with e; rw [World.size_alloc]; omega)
          have ho6 : Own w5 w2.heap.size 3 .i64 v' (ls ++ [(a : Int)]) := OwnV.toI (by rw [List.map_append]; exact ho5)
          have hP := (HG.out.frm ((Frm.refl wp []).alloc (.cells #[.int .i64 (a : Int)] 3))).push HVV.out.1 HVV.out.2 hf5 ho6 hb5'
          rw [← HLS2.out, partsTo_set] at hP
          have hDl := (HG.out.own.size D rfl).2
          have hDn : D ∉ (Value.slice Av ls.length cv').ownBlock.toList := fun hg => HG.out.apart (f a) _ D HVV.out.1 (by simpa using hg) rfl
          have hb6 : Below w2.heap.size w2 w5 := (HB.out.alloc HB.out.size _).trans (hf5.toBelow (fun g' hg' => (HRW.out.size g' (by simpa using hg')).1) (by have := HB.out.size; rw [World.size_alloc]; omega))
          have cv6 : w5.cell? ⟨D, f a, none⟩ = some (.slice Av ls.length cv') := (hf5.cell (p := ⟨D, f a, none⟩) (by rw [World.size_alloc]; show D < _; omega) hDn).trans ((((Below.refl wp.heap.size wp).alloc (Nat.le_refl _) _).cell (p := ⟨D, f a, none⟩) hDl).trans cv)
          have fr6 : w5.frozen? ⟨D, f a, none⟩ = false := (HG.out.own.frm (((Frm.refl wp _).alloc (.cells #[.int .i64 (a : Int)] 3)).trans hf5) (fun g' hg' => by
            have e : D = g' := by simpa [Value.ownBlock] using hg'
            subst e
            exact hDn)).freeAt (f a)
          have HZ := hide (And.intro hP (hb6.setCell (p := ⟨D, f a, none⟩) (HG.out.own.size D rfl).1 v'))
          obtain ⟨A5, c5, e9, -, -, -⟩ := ho6.rd
          rw [List.length_append, List.length_singleton] at e9
          subst e9
          clear hP hb6 ho6 ho5 hf5 hb5 hb5' cv
          go_wp2_with fail
          go_roundw
          case rel => exact ⟨a + 1, R.set (f a) _, by omega, by go_num, hide HZ.out.1, hide HZ.out.2⟩
          case measure => simp [intOf]; omega
    · obtain rfl : a = g.length := by omega
      have h1 := HG.out
      rw [HHT.out] at h1
      have HZ := hide (And.intro (h1.low HB2.out.size) (HB2.out.trans (HB.out.mono HB2.out.size)))
      clear HG HB h1
      go_wp2_with fail
      go_ret
      refine ⟨⟨_, R, cnt, num, lst, rfl, HLS.out, ?_⟩, HZ.out.2⟩
      rw [hf]
      exact HZ.out.1
end Go.Proofs.Ytakojoedifhcnaa

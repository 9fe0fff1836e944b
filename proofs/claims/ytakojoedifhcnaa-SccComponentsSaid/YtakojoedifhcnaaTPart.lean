/-
  Layer 7 (scc): partition: the components, numbered in the order of their least nodes.
-/
import Derived.Test.YtakojoedifhcnaaTFirst
namespace Go.Proofs.Ytakojoedifhcnaa
open Go.RowKit

def gl (n : Nat) (f : Nat → Int) : List Int := (List.range n).map f
theorem gl_len (n : Nat) (f : Nat → Int) : (gl n f).length = n := by simp [gl]
theorem gl_get {n i : Nat} (f : Nat → Int) (h : i < n) : (gl n f)[i]? = some (f i) := by simp [gl, h]
def seti (f : Nat → Int) (x : Nat) (v : Int) : Nat → Int := fun i => if i = x then v else f i
theorem seti_at (f : Nat → Int) (x : Nat) (v : Int) : seti f x v x = v := by simp [seti]
theorem seti_ne (f : Nat → Int) {x y : Nat} (v : Int) (h : y ≠ x) : seti f x v y = f y := by simp [seti, h]
theorem gl_set {n x : Nat} (f : Nat → Int) (v : Int) : (gl n f).set x v = gl n (seti f x v) := by
  apply List.ext_getElem?
  intro i
  by_cases hi : i < n
  · rw [gl_get (seti f x v) hi]
    by_cases e : x = i
    · subst e; rw [List.getElem?_set_self (by rw [gl_len]; exact hi), seti_at]
    · rw [List.getElem?_set_ne e, gl_get f hi, seti_ne f v (fun c => e c.symm)]
  · rw [List.getElem?_eq_none (by rw [List.length_set, gl_len]; omega), List.getElem?_eq_none (by rw [gl_len]; omega)]
theorem gl_congr {n : Nat} {f h : Nat → Int} (e : ∀ i, i < n → f i = h i) : gl n f = gl n h := List.map_congr_left fun i hi => e i (List.mem_range.1 hi)
theorem gl_fl (n : Nat) (f : Nat → Nat) : fl n f = gl n (fun i => (f i : Int)) := rfl

/-- The first st nodes have their numbers. -/
structure Pt (f : Nat → Nat) (st : Nat) (nm : Nat → Int) (c : Nat) (num : Nat → Nat) : Prop where
  free : ∀ m, nm m = -1 → ∀ y, y < st → f y ≠ m
  used : ∀ m, nm m ≠ -1 → ∃ y, y < st ∧ f y = m ∧ nm m = (num y : Int)
  lt : ∀ y, y < st → num y < c
  le : c ≤ st
  cls : ∀ x y, x < st → y < st → (num x = num y ↔ f x = f y)
  bef : ∀ y, y < st → ∀ k, k < num y → ∃ z, z < y ∧ num z = k
  all : ∀ k, k < c → ∃ z, z < st ∧ num z = k
theorem Pt.zero (f num : Nat → Nat) : Pt f 0 (fun _ => -1) 0 num :=
  ⟨fun _ _ y hy => by omega, fun _ h => absurd rfl h, fun y hy => by omega, Nat.le_refl _, fun x y hx => by omega, fun y hy => by omega, fun k hk => by omega⟩
section
variable {f num : Nat → Nat} {st c : Nat} {nm : Nat → Int}
theorem Pt.new (h : Pt f st nm c num) (h1 : nm (f st) = -1) : Pt f (st + 1) (seti nm (f st) (c : Int)) (c + 1) (set1 num st c) := by
  have old : ∀ y, y < st → set1 num st c y = num y := fun y hy => set1_ne _ _ (by omega)
  have at1 : set1 num st c st = c := set1_at _ _ _
  refine ⟨fun m hm y hy => ?_, fun m hm => ?_, fun y hy => ?_, by have := h.le; omega, fun x y hx hy => ?_, fun y hy k hk => ?_, fun k hk => ?_⟩
  · by_cases e : m = f st
    · subst e; rw [seti_at] at hm; omega
    · rw [seti_ne _ _ e] at hm
      rcases Nat.lt_succ_iff_lt_or_eq.1 hy with hy | rfl
      · exact h.free m hm y hy
      · exact fun c => e c.symm
  · by_cases e : m = f st
    · exact ⟨st, Nat.lt_succ_self _, e.symm, by rw [e, seti_at, at1]⟩
    · rw [seti_ne _ _ e] at hm ⊢
      obtain ⟨y, hy, e1, e2⟩ := h.used m hm
      exact ⟨y, by omega, e1, by rw [old y hy]; exact e2⟩
  · rcases Nat.lt_succ_iff_lt_or_eq.1 hy with hy | rfl
    · rw [old y hy]; have := h.lt y hy; omega
    · rw [at1]; exact Nat.lt_succ_self _
  · rcases Nat.lt_succ_iff_lt_or_eq.1 hx with hx | rfl <;> rcases Nat.lt_succ_iff_lt_or_eq.1 hy with hy | rfl
    · rw [old x hx, old y hy]; exact h.cls x y hx hy
    · rw [old x hx, at1]
      have a := h.lt x hx
      have b := h.free _ h1 x hx
      exact ⟨fun e => by omega, fun e => absurd e b⟩
    · rw [old y hy, at1]
      have a := h.lt y hy
      have b := h.free _ h1 y hy
      exact ⟨fun e => by omega, fun e => absurd e.symm b⟩
    · simp
  · rcases Nat.lt_succ_iff_lt_or_eq.1 hy with hy | rfl
    · rw [old y hy] at hk
      obtain ⟨z, hz, e⟩ := h.bef y hy k hk
      exact ⟨z, hz, by rw [old z (by omega)]; exact e⟩
    · rw [at1] at hk
      obtain ⟨z, hz, e⟩ := h.all k hk
      exact ⟨z, hz, by rw [old z hz]; exact e⟩
  · rcases Nat.lt_succ_iff_lt_or_eq.1 hk with hk | rfl
    · obtain ⟨z, hz, e⟩ := h.all k hk
      exact ⟨z, by omega, by rw [old z hz]; exact e⟩
    · exact ⟨st, Nat.lt_succ_self _, at1⟩
theorem Pt.old (h : Pt f st nm c num) {k : Nat} (h1 : nm (f st) = (k : Int)) : Pt f (st + 1) nm c (set1 num st k) := by
  have old : ∀ y, y < st → set1 num st k y = num y := fun y hy => set1_ne _ _ (by omega)
  have at1 : set1 num st k st = k := set1_at _ _ _
  obtain ⟨y0, hy0, e1, e2⟩ := h.used (f st) (by omega)
  have e3 : num y0 = k := by omega
  refine ⟨fun m hm y hy => ?_, fun m hm => ?_, fun y hy => ?_, by have := h.le; omega, fun x y hx hy => ?_, fun y hy k' hk => ?_, fun k' hk => ?_⟩
  · rcases Nat.lt_succ_iff_lt_or_eq.1 hy with hy | rfl
    · exact h.free m hm y hy
    · intro c; rw [c] at h1; omega
  · obtain ⟨y, hy, e1, e2⟩ := h.used m hm
    exact ⟨y, by omega, e1, by rw [old y hy]; exact e2⟩
  · rcases Nat.lt_succ_iff_lt_or_eq.1 hy with hy | rfl
    · rw [old y hy]; exact h.lt y hy
    · rw [at1, ← e3]; exact h.lt y0 hy0
  · rcases Nat.lt_succ_iff_lt_or_eq.1 hx with hx | rfl <;> rcases Nat.lt_succ_iff_lt_or_eq.1 hy with hy | rfl
    · rw [old x hx, old y hy]; exact h.cls x y hx hy
    · rw [old x hx, at1, ← e3, ← e1]; exact h.cls x y0 hx hy0
    · rw [old y hy, at1, ← e3, ← e1]; exact h.cls y0 y hy0 hy
    · simp
  · rcases Nat.lt_succ_iff_lt_or_eq.1 hy with hy | rfl
    · rw [old y hy] at hk
      obtain ⟨z, hz, e⟩ := h.bef y hy k' hk
      exact ⟨z, hz, by rw [old z (by omega)]; exact e⟩
    · rw [at1, ← e3] at hk
      obtain ⟨z, hz, e⟩ := h.bef y0 hy0 k' hk
      exact ⟨z, by omega, by rw [old z (by omega)]; exact e⟩
  · obtain ⟨z, hz, e⟩ := h.all k' hk
    exact ⟨z, by omega, by rw [old z hz]; exact e⟩
end
/-- The nodes' numbers: those of the components, in the order of their least nodes. -/
structure Parts (g : List (List Int)) (cnt : Nat) (num : Nat → Nat) : Prop where
  lt : ∀ y, y < g.length → num y < cnt
  le : cnt ≤ g.length
  cls : ∀ x y, x < g.length → y < g.length → (num x = num y ↔ SC g x y)
  bef : ∀ y, y < g.length → ∀ k, k < num y → ∃ z, z < y ∧ num z = k
  all : ∀ k, k < cnt → ∃ z, z < g.length ∧ num z = k

set_option maxRecDepth 100000 in
set_option maxHeartbeats 4000000 in
theorem part_any (A : Option Addr) (c : Nat) (g : List (List Int)) (w : World) (hg : RdL w A c g) (hok : okG g = true) (hN : g.length ≤ 65536) :
    Calls Try.prog 22 #[.agg #[.slice A g.length c]] w fun en w' => (∃ num cnt F, en = .returned (.tuple #[.slice (some ⟨F, 0, none⟩) g.length g.length, .int .i64 (cnt : Nat)]) ∧ Parts g cnt num ∧ Own w' w.heap.size 3 .i64 (.slice (some ⟨F, 0, none⟩) g.length g.length) (fl g.length num)) ∧ Below w.heap.size w w' := by
  obtain ⟨w1, hw1⟩ : ∃ x, w.alloc (.cells #[.slice A g.length c] 24) = x := ⟨_, rfl⟩
  have hs1 : w1.heap.size = w.heap.size + 1 := by rw [← hw1, World.size_alloc]
  have hbox : w1.cell? ⟨w.heap.size, 0, none⟩ = some (.slice A g.length c) := by rw [← hw1]; simp [go_sem]
  have hf1 : Below w.heap.size w w1 := by rw [← hw1]; exact (Below.refl _ _).alloc (Nat.le_refl _) _
  have HC := hide (first_any A c g w1 (hg.below' hf1) hok hN)
  have HF1 := hide hf1
  clear hg hf1 hok
  go_enter Try.func22, Try.ntmps22
  go_wp2_with fail
  refine HC.out.mono ?_
  rintro en w6 ⟨⟨f, F, rfl, hfl, hfs, ho⟩, hb6⟩
  have HB6 : Hid (Below w.heap.size w w6) := hide (HF1.out.trans (hb6.mono (by omega)))
  have HFL := hide hfl
  have HFS := hide hfs
  have HFR : Hid (Own w6 w.heap.size 3 .i64 (.slice (some ⟨F, 0, none⟩) g.length g.length) (fl g.length f)) := hide (ho.low (by omega))
  clear hbox hs1 hw1 HF1 HC hfl hfs ho hb6
  have hmk := fun W : World => run_made W 29 3 (.int .i64 0) 8 Try.underlying29 infoInt rfl (by omega) g.length (by omega)
  obtain ⟨w7, hw7⟩ : ∃ x, w6.alloc (.cells (madeCells #[.int .i64 0] g.length) 3) = x := ⟨_, rfl⟩
  have H7 : Hid (Own w7 w6.heap.size 3 .i64 (.slice (some ⟨w6.heap.size, 0, none⟩) g.length g.length) (gl g.length (fun _ => 0)) ∧ Below w6.heap.size w6 w7) := hide ⟨by
    rw [← hw7]
    refine OwnV.toI ?_
    have := own_madeV w6 3 (.int .i64 0) g.length w6.heap.size (by unfold maxLen; omega) (Nat.le_refl _)
    have e : (gl g.length (fun _ => 0)).map (Value.int .i64) = List.replicate g.length (.int .i64 0) := by
      unfold gl; apply List.ext_getElem <;> simp
    rw [e]; exact this, by rw [← hw7]; exact (Below.refl _ _).alloc (Nat.le_refl _) _⟩
  go_wp2_with fail
  clear hw7 hmk
  go_loopw [16] (fun z wr => ∃ i : Nat, i ≤ g.length ∧ z = .int .i64 i ∧ Hid (Own wr w6.heap.size 3 .i64 (.slice (some ⟨w6.heap.size, 0, none⟩) g.length g.length) (gl g.length (fun m => if m < i then -1 else 0))) ∧ Hid (Below w6.heap.size w6 wr)) (fun z _ => g.length - (intOf z).toNat)
  case atStart => exact ⟨0, Nat.zero_le _, rfl, hide (by simpa using H7.out.1), hide H7.out.2⟩
  case round =>
    clear H7
    obtain ⟨wq, rfl⟩ : ∃ x, x = wr := ⟨_, rfl⟩
    obtain ⟨i, hi, rfl, HO, HB⟩ := hrel
    by_cases hlt : i < g.length
    · have hlt' : (i : Int) < g.length := by omega
      have c1 := HO.out.cellAt (gl_get (fun m => if m < i then -1 else 0) hlt)
      have f1 := HO.out.freeAt i
      go_wp2_with fail
      go_roundw
      case rel => exact ⟨i + 1, by omega, by go_num, hide (by
        have := HO.out.set i (-1)
        rw [gl_set, gl_congr (h := fun m => if m < i + 1 then -1 else 0) (fun m _ => by
          by_cases e : m = i
          · rw [e, seti_at, if_pos (by omega)]
          · rw [seti_ne _ _ e]
            by_cases h2 : m < i
            · rw [if_pos h2, if_pos (by omega)]
            · rw [if_neg h2, if_neg (by omega)])] at this
        exact this), hide (HB.out.setCell (p := ⟨w6.heap.size, i, none⟩) (Nat.le_refl _) _)⟩
      case measure => simp [intOf]; omega
    · obtain rfl : i = g.length := by omega
      have hmk := run_made wq 29 3 (.int .i64 0) 8 Try.underlying29 infoInt rfl (by omega) g.length (by omega)
      obtain ⟨w8, hw8⟩ : ∃ x, wq.alloc (.cells (madeCells #[.int .i64 0] g.length) 3) = x := ⟨_, rfl⟩
      have hlt6 : w6.heap.size < wq.heap.size := (HO.out.size w6.heap.size rfl).2
      have H8 : Hid (Own w8 w6.heap.size 3 .i64 (.slice (some ⟨w6.heap.size, 0, none⟩) g.length g.length) (gl g.length (fun _ => -1)) ∧ Own w8 wq.heap.size 3 .i64 (.slice (some ⟨wq.heap.size, 0, none⟩) g.length g.length) (fl g.length (fun _ => 0)) ∧ Below w6.heap.size w6 w8) := hide ⟨by
        have h9 := HO.out
        rw [gl_congr (h := fun _ => -1) (fun m hm => if_pos hm)] at h9
        rw [← hw8]; exact h9.alloc _, by
        rw [← hw8]
        refine OwnV.toI ?_
        have := own_madeV wq 3 (.int .i64 0) g.length wq.heap.size (by unfold maxLen; omega) (Nat.le_refl _)
        have e : (fl g.length (fun _ => 0)).map (Value.int .i64) = List.replicate g.length (.int .i64 0) := by
          unfold fl; apply List.ext_getElem <;> simp
        rw [e]; exact this, by rw [← hw8]; exact HB.out.alloc HB.out.size _⟩
      obtain ⟨mb, hmb⟩ : ∃ x, wq.heap.size = x := ⟨_, rfl⟩
      rw [hmb] at H8 hlt6 hmk
      clear HO HB hlt hi
      go_wp2_with fail
      clear hw8 hmk hmb
      go_loopw [3, 28] (fun zc z wr => ∃ (st : Nat) (nm : Nat → Int) (cnt : Nat) (num : Nat → Nat), st ≤ g.length ∧ z = .int .i64 st ∧ zc = .int .i64 cnt ∧ Hid (Pt f st nm cnt num) ∧ Hid (Own wr w6.heap.size 3 .i64 (.slice (some ⟨w6.heap.size, 0, none⟩) g.length g.length) (gl g.length nm)) ∧ Hid (Own wr mb 3 .i64 (.slice (some ⟨mb, 0, none⟩) g.length g.length) (fl g.length num)) ∧ Hid (Below w6.heap.size w6 wr)) (fun _ z _ => g.length - (intOf z).toNat)
      case atStart => exact ⟨0, _, 0, _, Nat.zero_le _, rfl, rfl, hide (Pt.zero f _), hide H8.out.1, hide H8.out.2.1, hide H8.out.2.2⟩
      case round =>
        clear H8
        obtain ⟨wp, rfl⟩ : ∃ x, x = wr := ⟨_, rfl⟩
        obtain ⟨st, nm, cnt, num, hst, rfl, rfl, HP, HO, HM, HB⟩ := hrel
        by_cases hlt : st < g.length
        · have hlt' : (st : Int) < g.length := by omega
          have hfs := HFL.out st hlt
          have hfs' : (f st : Int) < g.length := by omega
          have cf := (HFR.out.below' HB.out).cellAt (fl_get f hlt)
          have cn := HO.out.cellAt (gl_get nm hfs)
          have fn := HO.out.freeAt (f st)
          have cm := HM.out.cellAt (fl_get num hlt)
          have fm := HM.out.freeAt st
          have hcl := HP.out.le
          have hne1 : ¬ mb = w6.heap.size := by omega
          have hne2 : ¬ w6.heap.size = mb := by omega
          have hwc : IntKind.i64.wrap ((cnt : Int) + 1) = (cnt : Int) + 1 := IntWalk.i64_in _ (by omega)
          have hws : IntKind.i64.wrap ((st : Int) + 1) = (st : Int) + 1 := IntWalk.i64_in _ (by omega)
          by_cases h1 : nm (f st) = -1
          · have HP2 := hide (HP.out.new h1)
            have HO2 := HO.out.set (f st) (cnt : Int)
            rw [gl_set] at HO2
            have HM2 := HM.out.frmS ((Frm.refl wp [w6.heap.size]).setCell ⟨w6.heap.size, f st, none⟩ (.int .i64 (cnt : Nat)) (.inl (by simp))) (fun y hy hm => hne1 (by simpa [Value.ownBlock, ← List.mem_singleton.1 hm] using hy))
            have HB2 := HB.out.setCell (p := ⟨w6.heap.size, f st, none⟩) (Nat.le_refl _) (.int .i64 (cnt : Nat))
            have HM3 := HM2.set st (cnt : Int)
            rw [fl_set (h := set1 num st cnt) (set1_at _ _ _) (fun z hz => set1_ne _ _ hz)] at HM3
            have HO3 := HO2.frmS ((Frm.refl _ [mb]).setCell ⟨mb, st, none⟩ (.int .i64 (cnt : Nat)) (.inl (by simp))) (fun y hy hm => hne2 (by simpa [Value.ownBlock, ← List.mem_singleton.1 hm] using hy))
            have HB3 := HB2.setCell (p := ⟨mb, st, none⟩) (by show w6.heap.size ≤ mb; omega) (.int .i64 (cnt : Nat))
            have HZ := hide (And.intro HO3 (And.intro HM3 HB3))
            rw [h1] at cn
            clear HO HM HB HP HO2 HM2 HB2 HO3 HM3 HB3 h1
            go_wp2_with fail
            go_roundw
            case rel => exact ⟨st + 1, _, cnt + 1, _, by omega, by go_num, by go_num, HP2, hide HZ.out.1, hide HZ.out.2.1, hide HZ.out.2.2⟩
            case measure => simp [intOf]; omega
          · obtain ⟨y0, hy0, -, h2⟩ := HP.out.used _ h1
            obtain ⟨k, hk⟩ : ∃ k, num y0 = k := ⟨_, rfl⟩
            rw [hk] at h2
            have HP2 := hide (HP.out.old h2)
            have h3 : ((k : Int) == -1) = false := by simp
            have h4 : ¬ (k : Int) = -1 := by omega
            have HM3 := HM.out.set st (k : Int)
            rw [fl_set (h := set1 num st k) (set1_at _ _ _) (fun z hz => set1_ne _ _ hz)] at HM3
            have HO3 := HO.out.frmS ((Frm.refl _ [mb]).setCell ⟨mb, st, none⟩ (.int .i64 (k : Nat)) (.inl (by simp))) (fun y hy hm => hne2 (by simpa [Value.ownBlock, ← List.mem_singleton.1 hm] using hy))
            have HB3 := HB.out.setCell (p := ⟨mb, st, none⟩) (by show w6.heap.size ≤ mb; omega) (.int .i64 (k : Nat))
            have HZ := hide (And.intro HO3 (And.intro HM3 HB3))
            rw [h2] at cn
            clear HO HM HB HP HO3 HM3 HB3 h1
            go_wp2_with fail
            go_roundw
            case rel => exact ⟨st + 1, _, cnt, _, by omega, by go_num, rfl, HP2, hide HZ.out.1, hide HZ.out.2.1, hide HZ.out.2.2⟩
            case measure => simp [intOf]; omega
        · obtain rfl : st = g.length := by omega
          have HZ : Hid (Own wp w.heap.size 3 .i64 (.slice (some ⟨mb, 0, none⟩) g.length g.length) (fl g.length num) ∧ Below w.heap.size w wp) := hide ⟨HM.out.low (by have := HB6.out.size; omega), HB6.out.trans (HB.out.mono HB6.out.size)⟩
          have HQ : Hid (Parts g cnt num) := hide ⟨HP.out.lt, HP.out.le, fun x y hx hy => (HP.out.cls x y hx hy).trans (HFS.out x y hx hy), HP.out.bef, HP.out.all⟩
          clear HO HM HB HP HFR
          go_wp2_with fail
          refine bodyPost_ret (results_tmp2 rfl _ _ _) rfl ?_
          exact ⟨⟨num, cnt, mb, rfl, HQ.out, HZ.out.1⟩, HZ.out.2⟩
end Go.Proofs.Ytakojoedifhcnaa

/-
  Layer 20 (cfg): the function of the examples.
-/
import Derived.Test.YthnehmfdadgklaaCfW
namespace Go.Proofs.Ythnehmfdadgklaa
open Go.RowKit Go.Deep

/-- Blocks made one after another. -/
def chainW (w : World) : List (Array Value × TypeId) → World
  | [] => w
  | o :: r => chainW (w.alloc (.cells o.1 o.2)) r
theorem chainW_size : ∀ (l : List (Array Value × TypeId)) (w : World), (chainW w l).heap.size = w.heap.size + l.length
  | [], _ => rfl
  | o :: r, w => by rw [chainW, chainW_size r, World.size_alloc, List.length_cons]; omega
theorem chainW_below : ∀ (l : List (Array Value × TypeId)) (w : World), Below w.heap.size w (chainW w l)
  | [], w => Below.refl _ _
  | o :: r, w => by
    rw [chainW]
    exact ((Below.refl _ _).alloc (Nat.le_refl _) _).trans ((chainW_below r _).mono (by simp))
theorem chainW_at : ∀ (l : List (Array Value × TypeId)) (w : World) (k : Nat) (o : Array Value × TypeId), l[k]? = some o → Whole (chainW w l) (w.heap.size + k) o.2 o.1
  | [], _, k, o, h => by simp at h
  | x :: r, w, 0, o, h => by
    simp only [List.getElem?_cons_zero, Option.some.injEq] at h
    subst h
    rw [chainW]
    exact (Whole.new w x.2 x.1).below' (chainW_below r _)
  | x :: r, w, k + 1, o, h => by
    rw [chainW]
    have := chainW_at r (w.alloc (.cells x.1 x.2)) k o (by simpa using h)
    rw [World.size_alloc] at this
    rw [show w.heap.size + (k + 1) = w.heap.size + 1 + k by omega]
    exact this
theorem rdi_whole {w : World} {g : Nat} {t : TypeId} {k : IntKind} {l : List Int} {n : Nat} (h : Whole w g t (l.map (Value.int k)).toArray) (hn : l.length = n) (hl : n ≤ maxLen) : Rd w k (.slice (some ⟨g, 0, none⟩) n n) l := by
  subst hn
  refine ⟨_, _, rfl, Nat.le_refl _, hl, fun _ => ⟨g, 0, rfl, h.lt, fun j z hz => ?_⟩⟩
  rw [Nat.zero_add, h.cell, List.getElem?_toArray, List.getElem?_map, hz]
  rfl
theorem rdn_whole2 {w : World} {g m : Nat} {T : TypeId} {rows : List (List Value)} {n : Nat} (h : Whole w g T rows.flatten.toArray) (hm : ∀ x ∈ rows, x.length = m) (hn : rows.length = n) (hx : n ≤ maxLen) : RdN w m (.slice (some ⟨g, 0, none⟩) n n) rows := by
  subst hn
  refine ⟨hm, _, _, rfl, Nat.le_refl _, hx, fun _ => ⟨g, 0, rfl, h.lt, fun i j r z hr hz => ?_⟩⟩
  rw [Nat.zero_add, h.cell, List.getElem?_toArray]
  exact flat_at rows i j r z hm hr hz
theorem lenOf {α : Type} {f : α → List Value} {m : Nat} {l : List α} (h : ∀ a, (f a).length = m) : ∀ x ∈ l.map f, x.length = m := fun x hx => by
  obtain ⟨a, _, rfl⟩ := List.mem_map.1 hx
  exact h a
def twI (q : Nat) : InD := ⟨5, 3, 2, (some ⟨q + 1 + 1 + 1 + 1, 0, none⟩), 2, [0, 0], 0, 0, 0, false⟩
def twE : EdD := ⟨1, none, 0, []⟩
def twB0 (q : Nat) : BkD := ⟨none, 0, [], (some ⟨q + 1 + 1 + 1 + 1 + 1, 0, none⟩), 1, [twI q], ⟨2, (some ⟨q + 1 + 1 + 1 + 1 + 1 + 1, 0, none⟩), 1, [1], none, 0, [], (some ⟨q + 1 + 1 + 1 + 1 + 1 + 1 + 1, 0, none⟩), 2, [twE, twE], 0⟩⟩
def twB1 (q : Nat) : BkD := ⟨none, 0, [], none, 0, [], ⟨4, (some ⟨q + 1 + 1 + 1 + 1 + 1 + 1 + 1 + 1, 0, none⟩), 1, [2], none, 0, [], none, 0, [], 0⟩⟩
def twD (q : Nat) : FnD := ⟨⟨#[102]⟩, (some ⟨q + 1, 0, none⟩), 2, [0, 1], 3, (some ⟨q + 1 + 1, 0, none⟩), 3, [3, 1, 3], (some ⟨q + 1 + 1 + 1 + 1 + 1 + 1 + 1 + 1 + 1, 0, none⟩), 2, [twB0 q, twB1 q]⟩
def twBs (q : Nat) : List (Array Value × TypeId) := [(zFn.toArray, 27), (([0, 1] : List Int).map (Value.int .i64) |>.toArray, 3), (([3, 1, 3] : List Int).map (Value.int .i64) |>.toArray, 23),
  ((twD q).cells.toArray, 27), (([0, 0] : List Int).map (Value.int .i64) |>.toArray, 3), (([twI q].map InD.cells).flatten.toArray, 70), (([1] : List Int).map (Value.int .i64) |>.toArray, 3),
  (([twE, twE].map EdD.cells).flatten.toArray, 56), (([2] : List Int).map (Value.int .i64) |>.toArray, 3), (([twB0 q, twB1 q].map BkD.cells).flatten.toArray, 54)]
theorem i6_small (z : Int) (h : -100 ≤ z ∧ z ≤ 100) : I6 z := by unfold I6; simp [Lit.wf, IntKind.min, IntKind.max, IntKind.signed, IntKind.bits]; omega
theorem fits_small (n : Nat) (h : Nat.ble n 100 = true) : Fits n := by have := Nat.le_of_ble_eq_true h; unfold Fits; omega
theorem max_small (n : Nat) (h : Nat.ble n 100 = true) : n ≤ maxLen := by have := Nat.le_of_ble_eq_true h; unfold maxLen; omega
theorem twD_ok {w : World} {q : Nat} (h : ∀ k o, (twBs q)[k]? = some o → Whole w (q + k) o.2 o.1) : (twD q).ok w := by
  have all1 : ∀ (l : List Int), l.all (fun z => decide (-100 ≤ z ∧ z ≤ 100)) = true → ∀ z ∈ l, I6 z := fun l hl z hz => i6_small z (of_decide_eq_true (List.all_eq_true.1 hl z hz))
  have s (z : Int) (h : decide (-100 ≤ z ∧ z ≤ 100) = true) : I6 z := i6_small z (of_decide_eq_true h)
  have nil6 : ∀ z ∈ ([] : List Int), I6 z := fun _ h => by cases h
  have hi : (twI q).ok w := ⟨s _ rfl, s _ rfl, s _ rfl, rdi_whole (l := [0, 0]) (h 4 _ rfl) rfl (max_small _ rfl), fits_small _ rfl, all1 _ rfl, s _ rfl, s _ rfl, s _ rfl⟩
  have he : twE.ok w := ⟨s _ rfl, Rd.nil, fits_small _ rfl, nil6⟩
  have h0 : (twB0 q).ok w := ⟨Rd.nil, fits_small _ rfl, nil6, rdn_whole2 (h 5 _ rfl) (lenOf InD.len) rfl (max_small _ rfl), fits_small _ rfl, fun e he => by simp [twB0] at he; subst he; exact hi,
    ⟨s _ rfl, rdi_whole (l := [1]) (h 6 _ rfl) rfl (max_small _ rfl), fits_small _ rfl, all1 _ rfl, Rd.nil, fits_small _ rfl, nil6, rdn_whole2 (h 7 _ rfl) (lenOf EdD.len) rfl (max_small _ rfl), fits_small _ rfl, fun e hm => by simp [twB0] at hm; subst hm; exact he, s _ rfl⟩⟩
  have h1 : (twB1 q).ok w := ⟨Rd.nil, fits_small _ rfl, nil6, RdN.nil 8, fits_small _ rfl, fun _ h => (by cases h),
    ⟨s _ rfl, rdi_whole (l := [2]) (h 8 _ rfl) rfl (max_small _ rfl), fits_small _ rfl, all1 _ rfl, Rd.nil, fits_small _ rfl, nil6, RdN.nil 2, fits_small _ rfl, fun _ h => (by cases h), s _ rfl⟩⟩
  exact ⟨by show (1 : Nat) ≤ maxLen; exact max_small _ rfl, rdi_whole (l := [0, 1]) (h 1 _ rfl) rfl (max_small _ rfl), fits_small _ rfl, all1 _ rfl, s _ rfl, rdi_whole (l := [3, 1, 3]) (h 2 _ rfl) rfl (max_small _ rfl), fits_small _ rfl, all1 _ rfl,
    rdn_whole2 (h 9 _ rfl) (lenOf BkD.len) rfl (max_small _ rfl), fits_small _ rfl, fun e he => by
      simp [twD] at he
      rcases he with rfl | rfl
      · exact h0
      · exact h1⟩
set_option maxRecDepth 100000 in
set_option maxHeartbeats 4000000 in
theorem twice_any (w : World) : Calls Try.prog 31 #[] w fun e w' => e = .returned (.agg (twD w.heap.size).cells.toArray) ∧ (twD w.heap.size).ok w' ∧ Below w.heap.size w w' := by
  have hu := Try.underlying27
  have hi : (Try.prog.info? 27).map (·.size) = some 5 := by kernel_rfl
  have HU := hide hu
  have HI := hide hi
  clear hu hi
  go_enter Try.func31, Try.ntmps31
  go_upto_region 3 with fail
  change Code.wp _ _ _ _ (chainW w (twBs w.heap.size))
  obtain ⟨q, hq⟩ : ∃ q, w.heap.size = q := ⟨_, rfl⟩
  obtain ⟨w1, hw1⟩ : ∃ z, chainW w (twBs w.heap.size) = z := ⟨_, rfl⟩
  have HW : Hid (∀ k o, (twBs q)[k]? = some o → Whole w1 (q + k) o.2 o.1) := hide (fun k o h => by rw [← hw1, ← hq]; rw [← hq] at h; exact chainW_at _ w k o h)
  have HB : Hid (Below w.heap.size w w1) := hide (by rw [← hw1]; exact chainW_below _ w)
  rw [hw1]
  rw [hq]
  have HQ := hide hq
  clear hw1 hq
  refine wp_region_lit ?_
  refine wpList_load_mid (by rfl) _ _ rfl (q + 1 + 1 + 1) 0 (by rfl) (twD q).cells _ (Whole.range (l := (twD q).cells) (HW.out 3 _ rfl)) HU.out rfl HI.out ?_
  refine wpList_store_mid (by rfl) _ _ _ rfl q 0 (twD q).cells.toArray (by rfl) (by rfl) (HW.out 0 _ rfl).room HI.out FnD.all1' ?_
  rw [show (twD q).cells.toArray.toList = (twD q).cells from rfl]
  obtain ⟨w2, hw2⟩ : ∃ z, w1.setCells q 0 (twD q).cells = z := ⟨_, rfl⟩
  have hl : (loadVar 27 ⟨q, 0, none⟩).run Try.prog w2 = .ok (.agg (twD q).cells.toArray) w2 := by
    rw [← hw2]
    exact Whole.ret (cs := (twD q).cells) (Whole.put (old := zFn) (HW.out 0 _ rfl) rfl) HU.out rfl HI.out
  have f2 := frm_setCells (g := q) (twD q).cells 0 w1
  rw [hw2] at f2
  have HOK : Hid ((twD q).ok w2) := hide ((twD_ok HW.out).frm f2 (fun b hb => by
    have hh : ∀ b ∈ (twD q).fp, q < b := by
      intro b hb
      simp [twD, twB0, twB1, twI, twE, FnD.fp, BkD.fp, TmD.fp, InD.fp, EdD.fp, slB] at hb
      omega
    have := hh b hb
    simp
    omega))
  have HB2 : Hid (Below w.heap.size w w2) := hide (HB.out.trans (f2.toBelow (fun b hb => by rw [List.mem_singleton.1 hb]; have := HQ.out; omega) HB.out.size))
  rw [hw2]
  clear hw2 f2
  have HL := hide hl
  clear hl
  go_wp2_with fail
  refine bodyPost_ret (v := .agg (twD q).cells.toArray) ?_ rfl ⟨by rw [HQ.out], by rw [HQ.out]; exact HOK.out, HB2.out⟩
  simp [results, Try.f31, Act.put, asAddr, HL.out]
end Go.Proofs.Ythnehmfdadgklaa

/-
  Layer 23 (expr): Format, given the texts of the nodes.
-/
import Derived.Test.YtnhaanjpcnnifaaDoorExS
import Derived.Test.YtnhaanjpcnnifaaDoorExD
namespace Go.Proofs.YtnhaanjpcnnifaaDoor
open Go.RowKit Go.Deep

/-- The text of an expression, of the texts of its nodes. -/
def txtE (f : NdD → List UInt8) : List NdD → List UInt8
  | [] => []
  | x :: r => f x ++ r.flatMap fun y => 32 :: f y
theorem txtE_one (f : NdD → List UInt8) (x : NdD) : txtE f [x] = f x := by simp [txtE]
theorem txtE_snoc (f : NdD → List UInt8) (e : List NdD) (x : NdD) (h : e ≠ []) : txtE f (e ++ [x]) = txtE f e ++ 32 :: f x := by
  cases e with
  | nil => exact absurd rfl h
  | cons y r => simp [txtE]
theorem txtE_len (f : NdD → List UInt8) (K : Nat) (e : List NdD) (h : ∀ x ∈ e, (f x).length ≤ K) : (txtE f e).length ≤ e.length * (K + 1) := by
  cases e with
  | nil => simp [txtE]
  | cons y r =>
    have h1 : ∀ (r : List NdD), (∀ x ∈ r, (f x).length ≤ K) → (r.flatMap fun y => 32 :: f y).length ≤ r.length * (K + 1) := by
      intro r
      induction r with
      | nil => intro _; simp
      | cons z r ih =>
        intro h
        have := ih (fun x hx => h x (List.mem_cons_of_mem _ hx))
        have := h z (List.mem_cons_self)
        rw [List.flatMap_cons, List.length_append, List.length_cons, List.length_cons, Nat.succ_mul]
        omega
    have := h1 r (fun x hx => h x (List.mem_cons_of_mem _ hx))
    have := h y (List.mem_cons_self)
    simp only [txtE]
    rw [List.length_append, List.length_cons, Nat.succ_mul]
    omega
theorem cells_str (l m : List UInt8) : Lib.byteCells l ++ Lib.strCells ⟨m.toArray⟩ = Lib.byteCells (l ++ m) := by simp [Lib.byteCells, Lib.strCells]
theorem cells_sp (l : List UInt8) : Lib.byteCells l ++ [.int .u8 32] = Lib.byteCells (l ++ [32]) := by simp [Lib.byteCells]
theorem cells_len (l : List UInt8) : (Lib.byteCells l).length = l.length := by simp [Lib.byteCells]
set_option maxRecDepth 100000 in
set_option maxHeartbeats 8000000 in
theorem format_by (e : List NdD) (f : NdD → List UInt8) (EA : Option Addr) (ec : Nat) (w : World) (he : RdN w 3 (.slice EA e.length ec) (e.map NdD.cells)) (hlen : e.length ≤ 1000) (hfl : ∀ x ∈ e, (f x).length ≤ 1000)
    (hf : ∀ x ∈ e, ∀ W, Below w.heap.size w W → Calls Tryd.prog 36 #[.agg x.cells.toArray] W fun en W' => en = .returned (.string ⟨(f x).toArray⟩) ∧ Below W.heap.size W W') :
    Calls Tryd.prog 22 #[.slice EA e.length ec] w fun en w' => en = .returned (.string ⟨(txtE f e).toArray⟩) ∧ Below w.heap.size w w' := by
  have hec : ec ≤ 9223372036854775807 := by have h := he.room.2; unfold maxLen at h; omega
  have HE := hide he
  have HF := hide hf
  have HFL := hide hfl
  have hi3 : (Tryd.prog.info? 40).map (·.size) = some 3 := by kernel_rfl
  have HI3 := hide hi3
  have HU3 := hide Tryd.underlying40
  obtain ⟨bB, hbB⟩ : ∃ b, w.heap.size = b := ⟨_, rfl⟩
  clear he hf hfl hi3
  go_enter Tryd.func22, Tryd.ntmps22
  go_upto_region 2 with fail
  (try rw [hbB])
  obtain ⟨w2, hw2⟩ : ∃ z, w.alloc (.cells #[.pointer none, .slice none 0 0] 66) = z := ⟨_, rfl⟩
  have HS : Hid (IsB bB bB (Lib.byteCells (txtE f [])) w2) := hide (by rw [← hw2, ← hbB]; exact isb_fresh w)
  have HB2 : Hid (Below bB w w2) := hide (by rw [← hw2, ← hbB]; exact (Below.refl _ _).alloc (Nat.le_refl _) _)
  have HbB := hide hbB
  rw [hw2]
  clear hw2 hbB
  go_wp2_with fail
  go_loopw [8] (fun z wr => ∃ k : Nat, k ≤ e.length ∧ z = .int .i64 k ∧ Hid (IsB bB bB (Lib.byteCells (txtE f (e.take k))) wr) ∧ Hid (Below bB w wr)) (fun z _ => e.length - (intOf z).toNat)
  case atStart => exact ⟨0, Nat.zero_le _, rfl, HS, HB2⟩
  case round =>
    clear HS HB2
    obtain ⟨wq, rfl⟩ : ∃ x, x = wr := ⟨_, rfl⟩
    obtain ⟨k, hk, rfl, hS, hb⟩ := hrel
    have hbw : Hid (Below w.heap.size w wq) := hide (by rw [HbB.out]; exact hb.out)
    by_cases hlt : k < e.length
    · obtain ⟨x, hx⟩ : ∃ x, e[k]? = some x := ⟨_, List.getElem?_eq_getElem hlt⟩
      obtain ⟨bb, off, rfl, hlb, hrow⟩ := (HE.out.below' hbw.out).row (i := k) (r := x.cells) (by rw [List.getElem?_map, hx]; rfl)
      have HRow : Hid (wq.rangeAt bb (off + k * 3) x.cells) := hide hrow
      have HX := hide hx
      have HTL : Hid ((txtE f (e.take k)).length ≤ 1001000) := hide (by
        have h1 := txtE_len f 1000 (e.take k) (fun y hy => HFL.out y (List.mem_of_mem_take hy))
        rw [List.length_take] at h1
        have h2 : min k e.length * (1000 + 1) ≤ 1000 * 1001 := Nat.mul_le_mul_right _ (by omega)
        omega)
      clear hx hlb hrow
      go_upto_region 4 with fail
      refine wp_region_lit ?_
      go_step; go_step; go_step
      go_step; go_step; go_step
      refine wpList_load_mid (by rfl) _ _ rfl bb (off + k * 3) (by rfl) x.cells _ HRow.out HU3.out rfl HI3.out ?_
      go_step; go_step; go_step
      go_step; go_step; go_step
      refine wpList_store_new (by rfl) _ _ _ rfl _ _ x.cells (by rfl) (by rfl) (by rfl) HI3.out (nd_all1 x) ?_
      obtain ⟨bX, hbX⟩ : ∃ bX, wq.heap.size = bX := ⟨_, rfl⟩
      rw [hbX]
      obtain ⟨w3, hw3⟩ : ∃ z, wq.alloc (.cells x.cells.toArray 40) = z := ⟨_, rfl⟩
      have b13 : Below wq.heap.size wq w3 := by rw [← hw3]; exact (Below.refl _ _).alloc (Nat.le_refl _) _
      have HV : Hid (Whole w3 bX 40 x.cells.toArray) := hide (by rw [← hw3, ← hbX]; exact Whole.new wq _ _)
      have hS3 := hide (isb_below hS.out b13)
      replace hb := hide (hb.out.trans (b13.mono (by have := hb.out.size; have := HbB.out; omega)))
      have hbX2 : Hid (bB < bX) := hide (by rw [← hbX]; exact isb_lt hS.out)
      rw [hw3]
      clear hw3 b13 HRow hbX hbw hS
      -- the space
      obtain ⟨sp, hsp⟩ : ∃ sp : List UInt8, (if k = 0 then [] else [32]) = sp := ⟨_, rfl⟩
      rcases Nat.eq_zero_or_pos k with h0 | h0
      · obtain rfl := h0
        go_upto_region 7 with fail
        refine wp_region_lit ?_
        refine wpList_load_mid (by rfl) _ _ rfl bX 0 (by rfl) x.cells _ HV.out.range HU3.out rfl HI3.out ?_
        go_step; go_step
        refine (HF.out x (List.mem_of_getElem? HX.out) _ (by rw [HbB.out]; exact hb.out)).mono ?_
        rintro en w5 ⟨rfl, hb5⟩
        have HB5 := hide hb5
        have HS5 := hide (isb_below hS3.out hb5)
        have hH5 : bB ≤ w5.heap.size := by have := hb5.size; have := hb.out.size; have := HbB.out; omega
        clear hb5
        go_wp2_with (go_at_call 35; refine (wstr_any bB bB _ _ _ HS5.out (by rw [cells_len]; have := HTL.out; have h9 := HFL.out x (List.mem_of_getElem? HX.out); show _ + (f x).toArray.size ≤ _; simp only [List.size_toArray]; omega) hH5).mono ?_; rintro en w6 ⟨rfl, hs6, hb6, -⟩; have HS6 := hide hs6; have HB6 := hide hb6; clear hs6 hb6)
        go_roundw
        case rel => exact ⟨0 + 1, by omega, by go_num, hide (by rw [take_next HX.out, List.take_zero, List.nil_append, txtE_one, ← List.nil_append (f x), ← cells_str]; exact HS6.out), hide ((hb.out.trans (HB5.out.mono (by have := hb.out.size; have := HbB.out; omega))).trans HB6.out)⟩
        case measure => simp [intOf]; omega
      · have g0 : decide ((k : Int) > 0) = true := by simp; omega
        have g1 : decide ((0 : Int) < (k : Int)) = true := by simp; omega
        have hH : bB ≤ w3.heap.size := by have := hb.out.size; have := HbB.out; omega
        go_upto_region 7 with (go_at_call 34; refine (wbyte_any bB bB _ 32 _ hS3.out (by rw [cells_len]; have := HTL.out; omega) hH).mono ?_; rintro en w4 ⟨rfl, hs4, hb4, hk4⟩; have HS4 := hide hs4; have HB4 := hide hb4; have HK4 := hide hk4; clear hs4 hb4 hk4)
        have HV4 := hide (whole_kept HV.out HK4.out (by have := hbX2.out; omega) (by decide))
        refine wp_region_lit ?_
        refine wpList_load_mid (by rfl) _ _ rfl bX 0 (by rfl) x.cells _ HV4.out.range HU3.out rfl HI3.out ?_
        go_step; go_step
        refine (HF.out x (List.mem_of_getElem? HX.out) _ (by rw [HbB.out]; exact hb.out.trans HB4.out)).mono ?_
        rintro en w5 ⟨rfl, hb5⟩
        have HB5 := hide hb5
        have HS5 := hide (isb_below HS4.out hb5)
        have hH5 : bB ≤ w5.heap.size := by have := hb5.size; have := hb.out.size; have := HbB.out; have := HB4.out.size; omega
        clear hb5
        go_wp2_with (go_at_call 35; refine (wstr_any bB bB _ _ _ HS5.out (by rw [cells_sp, cells_len, List.length_append]; have := HTL.out; have h9 := HFL.out x (List.mem_of_getElem? HX.out); show _ + (f x).toArray.size ≤ _; simp only [List.size_toArray, List.length_singleton]; omega) hH5).mono ?_; rintro en w6 ⟨rfl, hs6, hb6, -⟩; have HS6 := hide hs6; have HB6 := hide hb6; clear hs6 hb6)
        go_roundw
        case rel => exact ⟨k + 1, by omega, by go_num, hide (by rw [take_next HX.out, txtE_snoc f _ x (by intro h; have := congrArg List.length h; rw [List.length_take] at this; simp only [List.length_nil] at this; omega), show (32 :: f x) = [32] ++ f x from rfl, ← List.append_assoc, ← cells_str, ← cells_sp]; exact HS6.out), hide (((hb.out.trans HB4.out).trans (HB5.out.mono (by have := hb.out.size; have := HbB.out; have := HB4.out.size; omega))).trans HB6.out)⟩
        case measure => simp [intOf]; omega
    · have hkl : e.take k = e := List.take_of_length_le (by omega)
      rw [hkl] at hS
      have hH : bB ≤ wq.heap.size := by have := hb.out.size; have := HbB.out; omega
      clear hkl
      go_wp2_with (go_at_call 37; refine (bstring_any bB bB (txtE f e) _ hS.out hH).mono ?_; rintro en w4 ⟨rfl, hb4⟩; have HB4 := hide hb4; clear hb4)
      go_ret
      exact ⟨rfl, by rw [HbB.out]; exact hb.out.trans HB4.out⟩
end Go.Proofs.YtnhaanjpcnnifaaDoor

/-
  Layer 23 (expr): the examples of the chapter.
-/
import Derived.Test.YtnhaanjpcnnifaaDoorExF
import Derived.Test.YtnhaanjpcnnifaaDoorExG
import Derived.Test.YtnhaanjpcnnifaaDoorExH
namespace Go.Proofs.YtnhaanjpcnnifaaDoor
open Go.RowKit Go.Deep

def ex3 : List NdD := [⟨4, 0, 0⟩, ⟨1, 3, 1⟩, ⟨5, 3, 0⟩]
def ex2 : List NdD := [⟨4, 0, 0⟩, ⟨4, 0, 0⟩]
def ex1 : List NdD := [⟨14, 3, 0⟩]
def exT (x : NdD) : List UInt8 := if x.op = 4 then [114, 48] else if x.op = 1 then [99, 111, 110, 115, 116, 58, 105, 51, 50, 58, 49] else [97, 100, 100, 58, 105, 51, 50, 58, 48]
def fnC (q : Nat) : List Value := [.string ⟨#[]⟩, .slice none 0 0, .int .i64 0, .slice (some ⟨q, 0, none⟩) 1 1, .slice none 0 0]
theorem fnC_all (q : Nat) : (fnC q).toArray.all (·.oneCell') = true := by simp [fnC, Value.oneCell']
theorem fns_nil {w : World} : FnsAt w none [] := fun s d h => by simp at h
theorem rdn_two (w : World) (t : TypeId) (x y : NdD) : RdN (w.alloc (.cells (x.cells ++ y.cells).toArray t)) 3 (.slice (some ⟨w.heap.size, 0, none⟩) 2 2) [x.cells, y.cells] := by
  refine ⟨fun r hr => by simp at hr; rcases hr with rfl | rfl <;> rfl, some ⟨w.heap.size, 0, none⟩, 2, rfl, Nat.le_refl _, by unfold maxLen; omega, fun _ => ⟨w.heap.size, 0, rfl, by simp, ?_⟩⟩
  intro i j r v hr hv
  have h := (Whole.new w t (x.cells ++ y.cells).toArray).cell (0 + (i * 3 + j))
  rw [h, List.getElem?_toArray]
  match i, hr with
  | 0, hr =>
    obtain rfl : x.cells = r := by simpa using hr
    have hj : j < x.cells.length := (List.getElem?_eq_some_iff.1 hv).1
    rw [show 0 + (0 * 3 + j) = j by omega, List.getElem?_append_left hj]
    exact hv
  | 1, hr =>
    obtain rfl : y.cells = r := by simpa using hr
    rw [show 0 + (1 * 3 + j) = x.cells.length + j by show _ = 3 + j; omega, List.getElem?_append_right (by omega), show x.cells.length + j - x.cells.length = j by omega]
    exact hv
  | n + 2, hr => simp at hr
theorem rdn_none (w : World) : RdN w 3 (.slice none 0 0) [] := ⟨fun r h => (by cases h), none, 0, rfl, Nat.le_refl _, Nat.zero_le _, fun h => absurd h (by simp)⟩
set_option maxRecDepth 100000 in
set_option maxHeartbeats 8000000 in
theorem works_any (w : World) (hT : Tab w) (hO : OpTab w) : Calls Tryd.prog 9 #[] w fun e w' => e = .returned (.bool true) ∧ Below w.heap.size w w' := by
  have HT := hide hT
  have HO := hide hO
  have hi5 : (Tryd.prog.info? 28).map (·.size) = some 5 := by kernel_rfl
  have HIF := hide hi5
  have HUF := hide Tryd.underlying28
  clear hT hO hi5
  go_enter Tryd.func9, Tryd.ntmps9
  go_upto_region 1 with fail
  refine wp_region_lit ?_
  refine wpList_bslice_g (by rfl) 25 1 _ rfl #[(0, .int .i64 3)] (by kernel_rfl) (.slice (some ⟨w.heap.size, 0, none⟩) 1 1) (w.alloc (.cells #[.int .i64 3] 24)) (by kernel_rfl) ?_
  refine wpList_build_g (by rfl) _ _ rfl (fnC w.heap.size) (by kernel_rfl) ?_
  obtain ⟨wa, hwa⟩ : ∃ z, w.alloc (.cells #[.int .i64 3] 24) = z := ⟨_, rfl⟩
  have HBa : Hid (Below w.heap.size w wa) := hide (by rw [← hwa]; exact (Below.refl _ _).alloc (Nat.le_refl _) _)
  have HRa : Hid (Rd wa .i64 (.slice (some ⟨w.heap.size, 0, none⟩) 1 1) [3]) := hide (by rw [← hwa]; exact rd_one w _ 3)
  rw [hwa]
  clear hwa
  go_step; go_step; go_step
  refine wpList_store_new (by rfl) _ _ _ rfl _ _ (fnC w.heap.size) (by rfl) (by rfl) (by rfl) HIF.out (fnC_all _) ?_
  obtain ⟨bF, hbF⟩ : ∃ b, wa.heap.size = b := ⟨_, rfl⟩
  rw [hbF]
  obtain ⟨w0, hw0⟩ : ∃ z, wa.alloc (.cells (fnC w.heap.size).toArray 28) = z := ⟨_, rfl⟩
  have b1 : Below wa.heap.size wa w0 := by rw [← hw0]; exact (Below.refl _ _).alloc (Nat.le_refl _) _
  have HFn : Hid (Whole w0 bF 28 (fnC w.heap.size).toArray) := hide (by rw [← hw0, ← hbF]; exact Whole.new wa _ _)
  have HBw0 : Hid (Below w.heap.size w w0) := hide (Below.all HBa.out b1)
  have HRg := hide (HRa.out.below' b1)
  rw [hw0]
  clear hw0 b1 hbF HRa HBa
  -- the expression
  go_upto_region 2 with fail
  refine wp_region_lit ?_
  go_step; go_step
  refine (reg_any 0 _).mono ?_
  rintro en w1 ⟨rfl, hw1⟩
  have R1 : Hid (RdN w1 3 (.slice (some ⟨w0.heap.size, 0, none⟩) 1 1) [NdD.cells ⟨4, 0, 0⟩]) := hide (by rw [hw1]; exact rdn_nd _ _ _)
  have B1 : Hid (Below w0.heap.size w0 w1) := hide (by rw [hw1]; exact (Below.refl _ _).alloc (Nat.le_refl _) _)
  obtain ⟨p1, hp1⟩ : ∃ p, w0.heap.size = p := ⟨_, rfl⟩
  rw [hp1] at R1 ⊢
  clear hw1 hp1
  simp only []
  go_step
  go_step; go_step
  refine (const_any 3 1 _).mono ?_
  rintro en w2 ⟨rfl, hw2⟩
  have R2 : Hid (RdN w2 3 (.slice (some ⟨w1.heap.size, 0, none⟩) 1 1) [NdD.cells ⟨1, 3, 1⟩]) := hide (by rw [hw2]; exact rdn_nd _ _ _)
  have B2 : Hid (Below w1.heap.size w1 w2) := hide (by rw [hw2]; exact (Below.refl _ _).alloc (Nat.le_refl _) _)
  obtain ⟨p2, hp2⟩ : ∃ p, w1.heap.size = p := ⟨_, rfl⟩
  rw [hp2] at R2 ⊢
  clear hw2 hp2
  simp only []
  go_step
  refine wpList_bslice_g (by rfl) 59 2 _ rfl #[(0, .slice (some ⟨p1, 0, none⟩) 1 1), (1, .slice (some ⟨p2, 0, none⟩) 1 1)] (by kernel_rfl) (.slice (some ⟨w2.heap.size, 0, none⟩) 2 2) (w2.alloc (.cells #[.slice (some ⟨p1, 0, none⟩) 1 1, .slice (some ⟨p2, 0, none⟩) 1 1] 22)) (by kernel_rfl) ?_
  obtain ⟨w3, hw3⟩ : ∃ z, w2.alloc (.cells #[.slice (some ⟨p1, 0, none⟩) 1 1, .slice (some ⟨p2, 0, none⟩) 1 1] 22) = z := ⟨_, rfl⟩
  have b3 : Below w2.heap.size w2 w3 := by rw [← hw3]; exact (Below.refl _ _).alloc (Nat.le_refl _) _
  have H3 : Whole w3 w2.heap.size 22 #[.slice (some ⟨p1, 0, none⟩) 1 1, .slice (some ⟨p2, 0, none⟩) 1 1] := by rw [← hw3]; exact Whole.new w2 _ _
  have RE : Hid (RdEs w3 (some ⟨w2.heap.size, 0, none⟩) 2 [[⟨4, 0, 0⟩], [⟨1, 3, 1⟩]]) := hide ⟨[.slice (some ⟨p1, 0, none⟩) 1 1, .slice (some ⟨p2, 0, none⟩) 1 1], rfl,
    ⟨_, _, rfl, Nat.le_refl _, by unfold maxLen; omega, fun _ => ⟨w2.heap.size, 0, rfl, H3.lt, fun j v hv => by rw [Nat.zero_add, H3.cell j]; simpa using hv⟩⟩, fun i l hi => by
      match i, hi with
      | 0, hi =>
        obtain rfl : [(⟨4, 0, 0⟩ : NdD)] = l := by simpa using hi
        exact ⟨some ⟨p1, 0, none⟩, 1, rfl, (R1.out.below' B2.out).below' b3⟩
      | 1, hi =>
        obtain rfl : [(⟨1, 3, 1⟩ : NdD)] = l := by simpa using hi
        exact ⟨some ⟨p2, 0, none⟩, 1, rfl, R2.out.below' b3⟩
      | n + 2, hi => simp at hi⟩
  have HB3 : Hid (Below w0.heap.size w0 w3) := hide (Below.all (Below.all B1.out B2.out) b3)
  rw [hw3]
  clear hw3 b3 H3 R1 R2 B1 B2
  go_step; go_step
  refine (apply_any 5 3 [[⟨4, 0, 0⟩], [⟨1, 3, 1⟩]] (some ⟨w2.heap.size, 0, none⟩) 2 _ RE.out (by decide) (by decide)).mono ?_
  rintro en w4 ⟨v, rfl, hr, hb⟩
  have hr : RdN w4 3 v (ex3.map NdD.cells) := hr
  have HB4 : Hid (Below w0.heap.size w0 w4) := hide (Below.all HB3.out hb)
  have HBw4 : Hid (Below w.heap.size w w4) := hide (Below.all HBw0.out HB4.out)
  obtain ⟨_, EA, ec, ev, hec, hem, -⟩ := id hr
  obtain rfl : v = .slice EA 3 ec := ev
  have HX4 := hide hr
  clear hr hb RE HB3
  simp only []
  go_upto_region 3 with fail
  refine wp_region_lit ?_
  go_step; go_step; go_step
  refine wpList_load_mid (by rfl) _ _ rfl bF 0 (by rfl) (fnC w.heap.size) _ (HFn.out.below' HB4.out).range HUF.out rfl HIF.out ?_
  refine wpList_build_g (by rfl) _ _ rfl [.slice none 0 0, .slice none 0 0] (by kernel_rfl) ?_
  go_step; go_step
  refine (chk_any ex3 EA ec (.string ⟨#[]⟩) (.slice none 0 0) (.int .i64 0) (.slice none 0 0) (some ⟨w.heap.size, 0, none⟩) none none [3] 1 0 0 0 [] _ (HT.out.below HBw4.out) (HO.out.below HBw4.out) HX4.out (by decide) (HRg.out.below' HB4.out) fns_nil).mono ?_
  rintro en w5 ⟨rfl, hb⟩
  rw [show chkE [3] 0 ([] : List FD).length ex3 = (3, 0) from by decide +kernel]
  have HB5 := hide (Below.all HB4.out hb)
  have HBw5 := hide (Below.all HBw4.out hb)
  have HX5 := hide (HX4.out.below' hb)
  clear hb
  simp only []
  go_upto_region 4 with fail
  refine wp_region_lit ?_
  refine wpList_load_mid (by rfl) _ _ rfl bF 0 (by rfl) (fnC w.heap.size) _ (HFn.out.below' HB5.out).range HUF.out rfl HIF.out ?_
  refine wpList_build_g (by rfl) _ _ rfl [.slice none 0 0, .slice none 0 0] (by kernel_rfl) ?_
  go_step; go_step
  refine (chk_any [] none 0 (.string ⟨#[]⟩) (.slice none 0 0) (.int .i64 0) (.slice none 0 0) (some ⟨w.heap.size, 0, none⟩) none none [3] 1 0 0 0 [] _ (HT.out.below HBw5.out) (HO.out.below HBw5.out) (rdn_none _) (by decide) (HRg.out.below' HB5.out) fns_nil).mono ?_
  rintro en w6 ⟨rfl, hb⟩
  rw [show chkE [3] 0 ([] : List FD).length [] = (0, 4) from by decide +kernel]
  have HB6 := hide (Below.all HB5.out hb)
  have HBw6 := hide (Below.all HBw5.out hb)
  have HX6 := hide (HX5.out.below' hb)
  clear hb
  simp only []
  go_upto_region 5 with fail
  refine wp_region_lit ?_
  refine wpList_build_g (by rfl) _ _ rfl (NdD.cells ⟨4, 0, 0⟩) (by kernel_rfl) ?_
  refine wpList_build_g (by rfl) _ _ rfl (NdD.cells ⟨4, 0, 0⟩) (by kernel_rfl) ?_
  refine wpList_bslice_g (by rfl) 22 2 _ rfl #[(0, .agg (NdD.cells ⟨4, 0, 0⟩).toArray), (1, .agg (NdD.cells ⟨4, 0, 0⟩).toArray)] (by kernel_rfl) (.slice (some ⟨w6.heap.size, 0, none⟩) 2 2) (w6.alloc (.cells (NdD.cells ⟨4, 0, 0⟩ ++ NdD.cells ⟨4, 0, 0⟩).toArray 40)) (by kernel_rfl) ?_
  obtain ⟨w6b, hw6⟩ : ∃ z, w6.alloc (.cells (NdD.cells ⟨4, 0, 0⟩ ++ NdD.cells ⟨4, 0, 0⟩).toArray 40) = z := ⟨_, rfl⟩
  have R6 : Hid (RdN w6b 3 (.slice (some ⟨w6.heap.size, 0, none⟩) 2 2) (ex2.map NdD.cells)) := hide (by rw [← hw6]; exact rdn_two _ _ _ _)
  have b6 : Below w6.heap.size w6 w6b := by rw [← hw6]; exact (Below.refl _ _).alloc (Nat.le_refl _) _
  have HB6b := hide (Below.all HB6.out b6)
  have HBw6b := hide (Below.all HBw6.out b6)
  have HX6b := hide (HX6.out.below' b6)
  obtain ⟨p6, hp6⟩ : ∃ p, w6.heap.size = p := ⟨_, rfl⟩
  rw [hp6] at R6 ⊢
  rw [hw6]
  clear hw6 b6 hp6
  refine wpList_load_mid (by rfl) _ _ rfl bF 0 (by rfl) (fnC w.heap.size) _ (HFn.out.below' HB6b.out).range HUF.out rfl HIF.out ?_
  refine wpList_build_g (by rfl) _ _ rfl [.slice none 0 0, .slice none 0 0] (by kernel_rfl) ?_
  go_step; go_step
  refine (chk_any ex2 (some ⟨p6, 0, none⟩) 2 (.string ⟨#[]⟩) (.slice none 0 0) (.int .i64 0) (.slice none 0 0) (some ⟨w.heap.size, 0, none⟩) none none [3] 1 0 0 0 [] _ (HT.out.below HBw6b.out) (HO.out.below HBw6b.out) R6.out (by decide) (HRg.out.below' HB6b.out) fns_nil).mono ?_
  rintro en w7 ⟨rfl, hb⟩
  rw [show chkE [3] 0 ([] : List FD).length ex2 = (0, 5) from by decide +kernel]
  have HB7 := hide (Below.all HB6b.out hb)
  have HBw7 := hide (Below.all HBw6b.out hb)
  have HX7 := hide (HX6b.out.below' hb)
  clear hb
  simp only []
  go_upto_region 6 with fail
  refine wp_region_lit ?_
  refine wpList_build_g (by rfl) _ _ rfl (NdD.cells ⟨14, 3, 0⟩) (by kernel_rfl) ?_
  refine wpList_bslice_g (by rfl) 22 1 _ rfl #[(0, .agg (NdD.cells ⟨14, 3, 0⟩).toArray)] (by kernel_rfl) (.slice (some ⟨w7.heap.size, 0, none⟩) 1 1) (w7.alloc (.cells (NdD.cells ⟨14, 3, 0⟩).toArray 40)) (by kernel_rfl) ?_
  obtain ⟨w7b, hw7⟩ : ∃ z, w7.alloc (.cells (NdD.cells ⟨14, 3, 0⟩).toArray 40) = z := ⟨_, rfl⟩
  have R7 : Hid (RdN w7b 3 (.slice (some ⟨w7.heap.size, 0, none⟩) 1 1) (ex1.map NdD.cells)) := hide (by rw [← hw7]; exact rdn_nd _ _ _)
  have b7 : Below w7.heap.size w7 w7b := by rw [← hw7]; exact (Below.refl _ _).alloc (Nat.le_refl _) _
  have HB7b := hide (Below.all HB7.out b7)
  have HBw7b := hide (Below.all HBw7.out b7)
  have HX7b := hide (HX7.out.below' b7)
  obtain ⟨p7, hp7⟩ : ∃ p, w7.heap.size = p := ⟨_, rfl⟩
  rw [hp7] at R7 ⊢
  rw [hw7]
  clear hw7 b7 hp7
  refine wpList_load_mid (by rfl) _ _ rfl bF 0 (by rfl) (fnC w.heap.size) _ (HFn.out.below' HB7b.out).range HUF.out rfl HIF.out ?_
  refine wpList_build_g (by rfl) _ _ rfl [.slice none 0 0, .slice none 0 0] (by kernel_rfl) ?_
  go_step; go_step
  refine (chk_any ex1 (some ⟨p7, 0, none⟩) 1 (.string ⟨#[]⟩) (.slice none 0 0) (.int .i64 0) (.slice none 0 0) (some ⟨w.heap.size, 0, none⟩) none none [3] 1 0 0 0 [] _ (HT.out.below HBw7b.out) (HO.out.below HBw7b.out) R7.out (by decide) (HRg.out.below' HB7b.out) fns_nil).mono ?_
  rintro en w8 ⟨rfl, hb⟩
  rw [show chkE [3] 0 ([] : List FD).length ex1 = (0, 9) from by decide +kernel]
  have HB8 := hide (Below.all HB7b.out hb)
  have HBw8 := hide (Below.all HBw7b.out hb)
  have HX8 := hide (HX7b.out.below' hb)
  clear hb
  simp only []
  have hF := format_by ex3 exT EA ec w8 HX8.out (by decide) (by decide +kernel) (fun x hx W hW => by
    have hO' := HO.out.below (Below.all HBw8.out hW)
    simp only [ex3, List.mem_cons, List.not_mem_nil, or_false] at hx
    rcases hx with rfl | rfl | rfl
    · exact fnode_r W hO'
    · exact fnode_c W hO'
    · exact fnode_a W hO')
  rw [show txtE exT ex3 = [114, 48, 32, 99, 111, 110, 115, 116, 58, 105, 51, 50, 58, 49, 32, 97, 100, 100, 58, 105, 51, 50, 58, 48] from by decide +kernel] at hF
  have HFm := hide hF
  clear hF
  go_wp2_with (go_at_call 22; refine HFm.out.mono ?_; rintro en w9 ⟨rfl, hb9⟩; have HB9 := hide (Below.all HBw8.out hb9); clear hb9)
  go_ret
  exact ⟨by simp, HB9.out⟩
end Go.Proofs.YtnhaanjpcnnifaaDoor

/-
  Layer 20 (cfg): mapped, for structs: [api.Block]
-/
import Derived.Test.YthnehmfdadgklaaCfFins
import Derived.Deep.MidRow
import Derived.Deep.Cut
namespace Go.Proofs.Ythnehmfdadgklaa
open Go.RowKit Go.Deep

theorem BkD.all1' {x : BkD} : x.cells.toArray.all (·.oneCell') = true := all_oneCell_toArray (fun v hv => List.all_eq_true.1 (show x.cells.all (·.oneCell') = true by rfl) v hv)
set_option maxRecDepth 100000 in
set_option maxHeartbeats 1000000 in
theorem mapped_bk (V : Value) (l : List BkD) (w : World) (okp : World → BkD → Prop) (B : Nat) (f : FuncId) (caps : Array Value) (Q : BkD → BkD → Prop) (hV : RdN w 7 V (l.map BkD.cells)) (hI : ∀ x ∈ l, okp w x) (hL : l.length ≤ 1000000) (hF : FnS bkK Try.prog okp w B f caps Q) :
    Calls Try.prog 58 #[V, .func (.func f) #[] caps] w fun e w' => ∃ A ys, e = .returned (.slice A l.length l.length) ∧ MapD bkK w.heap.size w' 54 A l ys Q ∧ Below w.heap.size w w' := by
  obtain ⟨_, X, c0, hv, _, _, _⟩ := id hV
  rw [List.length_map] at hv
  subst hv
  have HV := hide hV
  have HI := hide hI
  have HF := hide hF
  have HL := hide hL
  have hu := Try.underlying54
  have hi : (Try.prog.info? 54).map (·.size) = some 7 := by kernel_rfl
  have HU := hide hu
  have HT := hide hi
  clear hV hI hF hu hi
  go_enter Try.func58, Try.ntmps58
  go_wp2_with (go_at_call 42; refine (copied_bk _ _ (l.map BkD.cells) [] _ HV.out (RdN.nil 7) BkD.one (fun _ h => by cases h) (by rw [List.length_map]; have := HL.out; simp; omega)).mono ?_; rintro en w1 ⟨A, n, rfl, hn, hM, hR, hB⟩; obtain rfl : n = l.length := (by rw [hn]; simp); rw [List.append_nil] at hM hR; replace hM := hide hM; replace hR := hide hR; replace hB := hide hB; clear hn)
  have hst : 0 < l.length → ∃ g c1, A = some ⟨g, 0, none⟩ ∧ MapAt bkK w.heap.size w1 54 g l.length c1 l Q 0 := fun h0 => by
    obtain ⟨c1, hown⟩ := hM.out.get h0
    obtain ⟨g, c2, e1, _⟩ := hown.form (by rw [List.length_map]; exact h0)
    rw [List.length_map] at e1
    injection e1 with e1 _ e2
    subst e1 e2
    exact ⟨g, c1, rfl, MapAt.start hown⟩
  have HS := hide hst
  clear hst
  go_loopw [12] (fun i wr => ∃ k : Nat, k ≤ l.length ∧ i = .int .i64 k ∧ Hid (0 < l.length → ∃ g c1, A = some ⟨g, 0, none⟩ ∧ MapAt bkK w.heap.size wr 54 g l.length c1 l Q k) ∧ Hid (Below w.heap.size w wr) ∧ Hid (Below w1.heap.size w1 wr ∨ 0 < l.length)) (fun i _ => l.length - (intOf i).toNat)
  case atStart => exact ⟨0, Nat.zero_le _, rfl, HS, hB, hide (.inl (Below.refl _ _))⟩
  case round =>
    clear HS
    obtain ⟨k, hk, rfl, hi, hb, hz⟩ := hrel
    by_cases hlt : k < l.length
    · clear hz
      obtain ⟨g, c1, rfl, hm⟩ := hi.out (by omega)
      obtain ⟨x, hx⟩ : ∃ x, l[k]? = some x := ⟨_, List.getElem?_eq_getElem hlt⟩
      have HX := hide hx
      have hok := HI.out x (List.mem_of_getElem? hx)
      have HM := hide hm
      have HR : Hid (wr.rangeAt g (k * 7) x.cells) := hide (hm.at hx).1
      clear hm hx hi
      go_upto_region 4 with fail
      refine wp_region_lit ?_
      go_step; go_step; go_step
      go_step; go_step; go_step
      refine wpList_load_mid (by rfl) _ _ rfl g (k * 7) (by rfl) x.cells _ HR.out HU.out rfl HT.out ?_
      go_step; go_step; go_step
      go_step; go_step; go_step
      refine wpList_store_new (by rfl) _ _ _ rfl _ _ x.cells (by rfl) (by rfl) (by rfl) HT.out BkD.all1' ?_
      obtain ⟨w2, hw2⟩ : ∃ z, wr.alloc (.cells x.cells.toArray 54) = z := ⟨_, rfl⟩
      have b12 : Below wr.heap.size wr w2 := by rw [← hw2]; exact (Below.refl _ _).alloc (Nat.le_refl _) _
      have A2 : w2.rangeAt wr.heap.size 0 x.cells := by rw [← hw2]; exact Whole.range (Whole.new wr 54 _)
      rw [hw2]
      have HA := hide A2
      have HB2 := hide b12
      have HOK := hide (HF.out.keep _ _ _ (HF.out.keep _ _ _ hok hb.out) b12)
      have s2 : Hid (wr.heap.size + 1 ≤ w2.heap.size) := hide (by rw [← hw2, World.size_alloc]; exact Nat.le_refl _)
      clear hw2 A2 b12 HR
      go_upto_region 5 with fail
      refine wp_region_lit ?_
      go_step; go_step; go_step
      go_step; go_step; go_step
      go_step; go_step; go_step
      refine wpList_load_mid (by rfl) _ _ rfl wr.heap.size 0 (by rfl) x.cells _ HA.out HU.out rfl HT.out ?_
      have hcf := HF.out.enter
      go_step; go_step
      clear hcf
      refine (HF.out.call _ ((hb.out.mono HF.out.le).trans (HB2.out.mono (Nat.le_trans HF.out.le hb.out.size))) x HOK.out).mono ?_
      rintro en w3 ⟨y, rfl, hq, hy, hn, hb3⟩
      have hb13 := HB2.out.trans (hb3.mono HB2.out.size)
      have HB13 := hide hb13
      have HM3 := hide (HM.out.frm hb13)
      have HS := hide (HM3.out.step HX.out (.inr ⟨w2.heap.size, hy, wr, hb13, HM.out, HB2.out.size⟩) hq hn)
      have HTh : Hid (w3.there g (k * 7) 7) := hide (HM3.out.at HX.out).2.1
      have HG := hide (HM3.out.at HX.out).2.2.1
      clear hq hy hn hb3 hb13 HB2 HA HM HM3 hok HOK
      simp only []
      go_step
      go_step; go_step; go_step
      refine wpList_store_mid (by rfl) _ _ _ rfl g (k * 7) y.cells.toArray (by rfl) (by rfl) HTh.out HT.out BkD.all1' ?_
      rw [show y.cells.toArray.toList = y.cells from rfl]
      replace hb := hide ((hb.out.trans (HB13.out.mono hb.out.size)).trans ((frm_setCells (g := g) y.cells (k * 7) w3).toBelow (B := w.heap.size) (fun a ha => by rw [List.mem_singleton.1 ha]; exact HG.out) (Nat.le_trans hb.out.size HB13.out.size)))
      obtain ⟨w4, hw4⟩ : ∃ z, w3.setCells g (k * 7) y.cells = z := ⟨_, rfl⟩
      have HS4 : Hid (MapAt bkK w.heap.size w4 54 g l.length c1 l Q (k + 1)) := hide (by rw [← hw4]; exact HS.out)
      rw [hw4] at hb
      rw [hw4]
      clear hw4 HS HTh HG HB13
      go_wp2_with fail
      go_roundw
      case rel => exact ⟨k + 1, by omega, by go_num, hide (fun _ => ⟨g, c1, rfl, HS4.out⟩), hb, hide (.inr (by omega))⟩
      case measure => simp [intOf]; omega
    · have hkl : k = l.length := by omega
      have HK := hide hkl
      clear hkl
      go_wp2_with fail
      go_ret
      rw [HK.out] at hi
      rcases Nat.eq_zero_or_pos l.length with h0 | h0
      · have hl : l = [] := List.eq_nil_of_length_eq_zero h0
        subst hl
        rcases hz.out with hz | hz
        · exact ⟨A, [], rfl, MapD.empty (hR.out.below' hz), hb.out⟩
        · simp at hz
      · obtain ⟨g, c1, rfl, hm⟩ := hi.out h0
        have hx : l.length ≤ maxLen := by have := HL.out; unfold maxLen; omega
        obtain ⟨ys, hys⟩ := hm.done hx h0
        exact ⟨_, ys, rfl, hys, hb.out⟩
end Go.Proofs.Ythnehmfdadgklaa

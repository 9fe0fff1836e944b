/-
  Layer 19 (refine): results compared.
-/
import Derived.Test.YtojeaghljebbbaaDoorVG
import Derived.Test.YtojeaghljebbbaaDoorMemA
import Derived.Test.YtojeaghljebbbaaDoorDeepM
import Derived.Deep.RegionHeld3
import Derived.Deep.Cut
namespace Go.Proofs.YtojeaghljebbbaaDoor
open Go.RowKit

def allR {α : Type} (r : α → α → Bool) : List α → List α → Bool
  | [], [] => true
  | x :: xs, y :: ys => r x y && allR r xs ys
  | _, _ => false
section
variable {α : Type} {r : α → α → Bool}
theorem allR_true : ∀ xs ys : List α, xs.length = ys.length → (∀ (j : Nat) (x y : α), xs[j]? = some x → ys[j]? = some y → r x y = true) → allR r xs ys = true
  | [], [], _, _ => rfl
  | x :: xs, y :: ys, hl, h => by
    simp only [allR, h 0 x y rfl rfl, Bool.true_and]
    exact allR_true xs ys (by simpa using hl) (fun j x y hx hy => h (j + 1) x y (by simpa using hx) (by simpa using hy))
  | [], _ :: _, hl, _ => by simp at hl
  | _ :: _, [], hl, _ => by simp at hl
theorem allR_false : ∀ (xs ys : List α) (j : Nat) (x y : α), xs[j]? = some x → ys[j]? = some y → r x y = false → allR r xs ys = false
  | [], _, j, x, y, hx, _, _ => by simp at hx
  | _ :: _, [], j, x, y, _, hy, _ => by simp at hy
  | a :: xs, b :: ys, 0, x, y, hx, hy, h => by
    simp at hx hy
    subst hx hy
    simp [allR, h]
  | a :: xs, b :: ys, j + 1, x, y, hx, hy, h => by
    simp only [allR, allR_false xs ys j x y (by simpa using hx) (by simpa using hy) h, Bool.and_false]
theorem allR_len : ∀ xs ys : List α, xs.length ≠ ys.length → allR r xs ys = false
  | [], [], h => absurd rfl h
  | [], _ :: _, _ => rfl
  | _ :: _, [], _ => rfl
  | a :: xs, b :: ys, h => by
    simp only [allR, allR_len xs ys (fun e => h (by simp [e])), Bool.and_false]
end
theorem wrap_succ {i n : Nat} (h : i < n) (hn : n ≤ maxLen) : wrap64 ((i : Int) + 1) = (i : Int) + 1 := by
  unfold maxLen at hn
  have h2 : (i : Int) + 1 ≤ 9223372036854775807 := by omega
  exact IntWalk.wrap64_in _ ⟨by omega, by omega⟩
theorem meas_succ {i n : Nat} (h : i < n) (h64 : wrap64 ((i : Int) + 1) = (i : Int) + 1) : n - (intOf (.int .i64 (wrap64 ((i : Int) + 1)))).toNat < n - (intOf (.int .i64 (i : Int))).toNat := by
  rw [h64]
  simp only [intOf]
  omega
def refD (x y : VD) : Bool := refV x.t x.o x.a x.b x.c x.d y.t y.o y.a y.b y.c y.d
/-- A list of values that lies in memory. -/
structure LD where
  A : Option Addr
  c : Nat
  vs : List VD
def LD.cl (d : LD) : List Value := [.slice d.A d.vs.length d.c]
def LD.ok (w : World) (d : LD) : Prop := RdN w 14 (.slice d.A d.vs.length d.c) (d.vs.map VD.cl)
def refL2 (x y : LD) : Bool := allR refD x.vs y.vs
theorem CellsAt.val {w : World} {b o : Nat} {v : VD} (h : CellsAt w b o v.cl) : w.cell? ⟨b, o, none⟩ = some (.int .i64 v.t) ∧ w.cell? ⟨b, o + 1, none⟩ = some (.int .i64 v.o) ∧ w.cell? ⟨b, o + 2, none⟩ = some (.int .i64 v.a.n) ∧ w.cell? ⟨b, o + 3, none⟩ = some (.bool v.a.p) ∧ w.cell? ⟨b, o + 4, none⟩ = some (.bool v.a.u) ∧ w.cell? ⟨b, o + 5, none⟩ = some (.int .i64 v.b.n) ∧ w.cell? ⟨b, o + 6, none⟩ = some (.bool v.b.p) ∧ w.cell? ⟨b, o + 7, none⟩ = some (.bool v.b.u) ∧ w.cell? ⟨b, o + 8, none⟩ = some (.int .i64 v.c.n) ∧ w.cell? ⟨b, o + 9, none⟩ = some (.bool v.c.p) ∧ w.cell? ⟨b, o + 10, none⟩ = some (.bool v.c.u) ∧ w.cell? ⟨b, o + 11, none⟩ = some (.int .i64 v.d.n) ∧ w.cell? ⟨b, o + 12, none⟩ = some (.bool v.d.p) ∧ w.cell? ⟨b, o + 13, none⟩ = some (.bool v.d.u) :=
  ⟨h 0 _ rfl, h 1 _ rfl, h 2 _ rfl, h 3 _ rfl, h 4 _ rfl, h 5 _ rfl, h 6 _ rfl, h 7 _ rfl, h 8 _ rfl, h 9 _ rfl, h 10 _ rfl, h 11 _ rfl, h 12 _ rfl, h 13 _ rfl⟩
theorem CellsAt.ld {w : World} {b o : Nat} {d : LD} (h : CellsAt w b o d.cl) : w.cell? ⟨b, o, none⟩ = some (.slice d.A d.vs.length d.c) := h 0 _ rfl
theorem CellsAt.drew {w : World} {b o : Nat} {cs : List Value} (h : CellsAt w b o cs) : CellsAt w.drew b o cs := fun j z hz => h j z hz
theorem RdN.form {w : World} {m : Nat} {v : Value} {rows : List (List Value)} (h : RdN w m v rows) : ∃ A c, v = .slice A rows.length c := by
  obtain ⟨_, A, c, e, _⟩ := h
  exact ⟨A, c, e⟩

set_option maxRecDepth 100000 in
set_option maxHeartbeats 8000000 in
theorem lwv_any (xs ys : List VD) (va vb : Value) (pb : Nat) (w : World) (hT : Tab w) (hp : w.cell? ⟨pb, 0, none⟩ = some (.func (.func 27) #[] #[])) (hpb : pb < w.heap.size) (ha : RdN w 14 va (xs.map VD.cl)) (hb : RdN w 14 vb (ys.map VD.cl)) :
    Calls Tryd.prog 42 #[va, vb, .pointer (some ⟨pb, 0, none⟩)] w fun e w' => e = .returned (.bool (allR refD xs ys)) ∧ Below w.heap.size w w' := by
  obtain ⟨A, c, rfl⟩ := ha.form
  obtain ⟨B, k, rfl⟩ := hb.form
  rw [List.length_map] at ha hb ⊢
  rw [List.length_map]
  have HA := hide ha
  have HB := hide hb
  have HT := hide hT
  have HP := hide hp
  have HPB := hide hpb
  clear ha hb hT hp hpb
  by_cases hl : xs.length = ys.length
  · have HL := hide hl
    have e1 : (((xs.length : Nat) : Int) != ((ys.length : Nat) : Int)) = false := by rw [hl]; simp
    have hlb : xs.length ≤ maxLen := by have := HA.out.room; omega
    have HLB := hide hlb
    obtain ⟨n, hn⟩ : ∃ n, xs.length = n := ⟨_, rfl⟩
    have hn2 : ys.length = n := by omega
    have HN := hide hn
    have HN2 := hide hn2
    rw [hn, hn2] at e1
    rw [hn, hn2]
    clear hl hlb hn hn2
    go_enter Tryd.func42, Tryd.ntmps42
    go_wp2_with fail
    clear e1
    go_loopw [14] (fun z wr => ∃ i : Nat, i ≤ n ∧ z = .int .i64 (i : Nat) ∧ Hid (∀ j x y, j < i → xs[j]? = some x → ys[j]? = some y → refD x y = true) ∧ Hid (Below w.heap.size w wr)) (fun z _ => n - (intOf z).toNat)
    case atStart => exact ⟨0, Nat.zero_le _, rfl, hide (fun j x y hj => by omega), hide (Below.refl _ _)⟩
    case round =>
      obtain ⟨wq, rfl⟩ : ∃ x, x = wr := ⟨_, rfl⟩
      obtain ⟨i, hi, rfl, HO, HF⟩ := hrel
      by_cases hlt : i < n
      · obtain ⟨x, hx⟩ : ∃ x, xs[i]? = some x := ⟨_, List.getElem?_eq_getElem (by rw [HN.out]; exact hlt)⟩
        obtain ⟨y, hy⟩ : ∃ y, ys[i]? = some y := ⟨_, List.getElem?_eq_getElem (by rw [HN2.out]; exact hlt)⟩
        obtain ⟨ba, oa, rfl, hba, hxa⟩ := HA.out.row (i := i) (r := x.cl) (by rw [List.getElem?_map, hx]; rfl)
        obtain ⟨bb, ob, rfl, hbb, hyb⟩ := HB.out.row (i := i) (r := y.cl) (by rw [List.getElem?_map, hy]; rfl)
        obtain ⟨kb, hkb⟩ : ∃ k, refD x y = k := ⟨_, rfl⟩
        have h64 : wrap64 ((i : Int) + 1) = (i : Int) + 1 := wrap_succ (n := n) hlt (by rw [← HN.out]; exact HLB.out)
        have HX := hide (hxa.below HF.out hba)
        have HY := hide (hyb.below HF.out hbb)
        have HBA : Hid (ba < wq.heap.size) := hide (Nat.lt_of_lt_of_le hba HF.out.size)
        have HBB : Hid (bb < wq.heap.size) := hide (Nat.lt_of_lt_of_le hbb HF.out.size)
        have HXE := hide hx
        have HYE := hide hy
        have HK := hide hkb
        have HPX : Hid (wq.cell? ⟨pb, 0, none⟩ = some (.func (.func 27) #[] #[])) := hide ((HF.out.cell (p := ⟨pb, 0, none⟩) HPB.out).trans HP.out)
        have HPBX : Hid (pb < wq.heap.size) := hide (Nat.lt_of_lt_of_le HPB.out HF.out.size)
        have HTX := hide (HT.out.below HF.out)
        clear hxa hyb hx hy hba hbb hkb
        go_wp2_with fail
        replace HX := hide HX.out.drew
        replace HY := hide HY.out.drew
        replace HF : Hid (Below w.heap.size w wq.drew) := hide HF.out.drew
        go_region_held3 (fun w' => w'.cell? ⟨pb, 0, none⟩ = some (.func (.func 27) #[] #[]) ∧ (w'.cell? ⟨ba, oa + i * 14, none⟩ = some (.int .i64 x.t) ∧ w'.cell? ⟨ba, oa + i * 14 + 1, none⟩ = some (.int .i64 x.o) ∧ w'.cell? ⟨ba, oa + i * 14 + 2, none⟩ = some (.int .i64 x.a.n) ∧ w'.cell? ⟨ba, oa + i * 14 + 3, none⟩ = some (.bool x.a.p) ∧ w'.cell? ⟨ba, oa + i * 14 + 4, none⟩ = some (.bool x.a.u) ∧ w'.cell? ⟨ba, oa + i * 14 + 5, none⟩ = some (.int .i64 x.b.n) ∧ w'.cell? ⟨ba, oa + i * 14 + 6, none⟩ = some (.bool x.b.p) ∧ w'.cell? ⟨ba, oa + i * 14 + 7, none⟩ = some (.bool x.b.u) ∧ w'.cell? ⟨ba, oa + i * 14 + 8, none⟩ = some (.int .i64 x.c.n) ∧ w'.cell? ⟨ba, oa + i * 14 + 9, none⟩ = some (.bool x.c.p) ∧ w'.cell? ⟨ba, oa + i * 14 + 10, none⟩ = some (.bool x.c.u) ∧ w'.cell? ⟨ba, oa + i * 14 + 11, none⟩ = some (.int .i64 x.d.n) ∧ w'.cell? ⟨ba, oa + i * 14 + 12, none⟩ = some (.bool x.d.p) ∧ w'.cell? ⟨ba, oa + i * 14 + 13, none⟩ = some (.bool x.d.u)) ∧ (w'.cell? ⟨bb, ob + i * 14, none⟩ = some (.int .i64 y.t) ∧ w'.cell? ⟨bb, ob + i * 14 + 1, none⟩ = some (.int .i64 y.o) ∧ w'.cell? ⟨bb, ob + i * 14 + 2, none⟩ = some (.int .i64 y.a.n) ∧ w'.cell? ⟨bb, ob + i * 14 + 3, none⟩ = some (.bool y.a.p) ∧ w'.cell? ⟨bb, ob + i * 14 + 4, none⟩ = some (.bool y.a.u) ∧ w'.cell? ⟨bb, ob + i * 14 + 5, none⟩ = some (.int .i64 y.b.n) ∧ w'.cell? ⟨bb, ob + i * 14 + 6, none⟩ = some (.bool y.b.p) ∧ w'.cell? ⟨bb, ob + i * 14 + 7, none⟩ = some (.bool y.b.u) ∧ w'.cell? ⟨bb, ob + i * 14 + 8, none⟩ = some (.int .i64 y.c.n) ∧ w'.cell? ⟨bb, ob + i * 14 + 9, none⟩ = some (.bool y.c.p) ∧ w'.cell? ⟨bb, ob + i * 14 + 10, none⟩ = some (.bool y.c.u) ∧ w'.cell? ⟨bb, ob + i * 14 + 11, none⟩ = some (.int .i64 y.d.n) ∧ w'.cell? ⟨bb, ob + i * 14 + 12, none⟩ = some (.bool y.d.p) ∧ w'.cell? ⟨bb, ob + i * 14 + 13, none⟩ = some (.bool y.d.u))) (exact ⟨HPX.out, HX.out.val, HY.out.val⟩) (first | (go_at_call 27; refine (refines_any x.t x.o x.a x.b x.c x.d y.t y.o y.a y.b y.c y.d _ (by exact HTX.out.drewN 1)).mono ?_; rintro en wb ⟨rfl, hbb⟩; rw [show refV x.t x.o x.a x.b x.c x.d y.t y.o y.a y.b y.c y.d = kb from HK.out]; replace HX := hide (HX.out.below hbb (by exact HBA.out)); replace HY := hide (HY.out.below hbb (by exact HBB.out)); replace HF := hide (HF.out.trans (hbb.mono HF.out.size)); replace HPX := hide ((hbb.cell (p := ⟨pb, 0, none⟩) (by exact HPBX.out)).trans HPX.out); clear hbb))
        all_goals
          clear HX HY
          cases kb
          · go_wp2_with fail
            go_ret
            exact ⟨by rw [allR_false xs ys i x y HXE.out HYE.out HK.out]; (try rfl), HF.out⟩
          · go_wp2_with fail
            go_roundw
            case rel => exact ⟨i + 1, by omega, by go_num, hide (fun j x' y' hj hx' hy' => by
              rcases Nat.lt_or_ge j i with h | h
              · exact HO.out j x' y' h hx' hy'
              · obtain rfl : j = i := by omega
                rw [HXE.out] at hx'; rw [HYE.out] at hy'
                injection hx' with hx'; injection hy' with hy'
                subst hx' hy'
                exact HK.out), HF⟩
            case measure => exact meas_succ hlt h64
      · obtain rfl : i = n := by omega
        clear hlt
        go_wp2_with fail
        go_ret
        exact ⟨by rw [allR_true xs ys HL.out (fun j x y hx hy => HO.out j x y (by have := (List.getElem?_eq_some_iff.1 hx).1; have := HN.out; omega) hx hy)]; (try rfl), HF.out⟩
  · have e1 : (((xs.length : Nat) : Int) != ((ys.length : Nat) : Int)) = true := by simp; omega
    have HL := hide hl
    clear hl
    go_enter Tryd.func42, Tryd.ntmps42
    go_wp2_with fail
    go_ret
    exact ⟨by rw [allR_len xs ys HL.out]; (try rfl), Below.refl _ _⟩
set_option maxRecDepth 100000 in
set_option maxHeartbeats 8000000 in
theorem rvalues_any (xs ys : List VD) (va vb : Value) (w : World) (ha : RdN w 14 va (xs.map VD.cl)) (hb : RdN w 14 vb (ys.map VD.cl)) :
    Calls Tryd.prog 14 #[va, vb] w fun e w' => e = .returned (.bool (allR refD xs ys)) ∧ Below w.heap.size w w' := by
  obtain ⟨A, c, rfl⟩ := ha.form
  obtain ⟨B, k, rfl⟩ := hb.form
  rw [List.length_map] at ha hb ⊢
  rw [List.length_map]
  have HA := hide ha
  have HB := hide hb
  clear ha hb
  by_cases hl : xs.length = ys.length
  · have HL := hide hl
    have e1 : (((xs.length : Nat) : Int) != ((ys.length : Nat) : Int)) = false := by rw [hl]; simp
    have hlb : xs.length ≤ maxLen := by have := HA.out.room; omega
    have HLB := hide hlb
    obtain ⟨n, hn⟩ : ∃ n, xs.length = n := ⟨_, rfl⟩
    have hn2 : ys.length = n := by omega
    have HN := hide hn
    have HN2 := hide hn2
    rw [hn, hn2] at e1
    rw [hn, hn2]
    clear hl hlb hn hn2
    go_enter Tryd.func14, Tryd.ntmps14
    go_wp2_with fail
    clear e1
    go_loopw [5] (fun z wr => ∃ i : Nat, i ≤ n ∧ z = .int .i64 (i : Nat) ∧ Hid (∀ j x y, j < i → xs[j]? = some x → ys[j]? = some y → refD x y = true) ∧ Hid (Below w.heap.size w wr)) (fun z _ => n - (intOf z).toNat)
    case atStart => exact ⟨0, Nat.zero_le _, rfl, hide (fun j x y hj => by omega), hide (Below.refl _ _)⟩
    case round =>
      obtain ⟨wq, rfl⟩ : ∃ x, x = wr := ⟨_, rfl⟩
      obtain ⟨i, hi, rfl, HO, HF⟩ := hrel
      by_cases hlt : i < n
      · obtain ⟨x, hx⟩ : ∃ x, xs[i]? = some x := ⟨_, List.getElem?_eq_getElem (by rw [HN.out]; exact hlt)⟩
        obtain ⟨y, hy⟩ : ∃ y, ys[i]? = some y := ⟨_, List.getElem?_eq_getElem (by rw [HN2.out]; exact hlt)⟩
        obtain ⟨ba, oa, rfl, hba, hxa⟩ := HA.out.row (i := i) (r := x.cl) (by rw [List.getElem?_map, hx]; rfl)
        obtain ⟨bb, ob, rfl, hbb, hyb⟩ := HB.out.row (i := i) (r := y.cl) (by rw [List.getElem?_map, hy]; rfl)
        obtain ⟨kb, hkb⟩ : ∃ k, refD x y = k := ⟨_, rfl⟩
        have h64 : wrap64 ((i : Int) + 1) = (i : Int) + 1 := wrap_succ (n := n) hlt (by rw [← HN.out]; exact HLB.out)
        have HX := hide (hxa.below HF.out hba)
        have HY := hide (hyb.below HF.out hbb)
        have HBA : Hid (ba < wq.heap.size) := hide (Nat.lt_of_lt_of_le hba HF.out.size)
        have HBB : Hid (bb < wq.heap.size) := hide (Nat.lt_of_lt_of_le hbb HF.out.size)
        have HXE := hide hx
        have HYE := hide hy
        have HK := hide hkb
        clear hxa hyb hx hy hba hbb hkb
        go_wp2_with fail
        replace HX := hide HX.out.drew
        replace HY := hide HY.out.drew
        replace HF : Hid (Below w.heap.size w wq.drew) := hide HF.out.drew
        go_region_held3 (fun w' => (w'.cell? ⟨ba, oa + i * 14, none⟩ = some (.int .i64 x.t) ∧ w'.cell? ⟨ba, oa + i * 14 + 1, none⟩ = some (.int .i64 x.o) ∧ w'.cell? ⟨ba, oa + i * 14 + 2, none⟩ = some (.int .i64 x.a.n) ∧ w'.cell? ⟨ba, oa + i * 14 + 3, none⟩ = some (.bool x.a.p) ∧ w'.cell? ⟨ba, oa + i * 14 + 4, none⟩ = some (.bool x.a.u) ∧ w'.cell? ⟨ba, oa + i * 14 + 5, none⟩ = some (.int .i64 x.b.n) ∧ w'.cell? ⟨ba, oa + i * 14 + 6, none⟩ = some (.bool x.b.p) ∧ w'.cell? ⟨ba, oa + i * 14 + 7, none⟩ = some (.bool x.b.u) ∧ w'.cell? ⟨ba, oa + i * 14 + 8, none⟩ = some (.int .i64 x.c.n) ∧ w'.cell? ⟨ba, oa + i * 14 + 9, none⟩ = some (.bool x.c.p) ∧ w'.cell? ⟨ba, oa + i * 14 + 10, none⟩ = some (.bool x.c.u) ∧ w'.cell? ⟨ba, oa + i * 14 + 11, none⟩ = some (.int .i64 x.d.n) ∧ w'.cell? ⟨ba, oa + i * 14 + 12, none⟩ = some (.bool x.d.p) ∧ w'.cell? ⟨ba, oa + i * 14 + 13, none⟩ = some (.bool x.d.u)) ∧ (w'.cell? ⟨bb, ob + i * 14, none⟩ = some (.int .i64 y.t) ∧ w'.cell? ⟨bb, ob + i * 14 + 1, none⟩ = some (.int .i64 y.o) ∧ w'.cell? ⟨bb, ob + i * 14 + 2, none⟩ = some (.int .i64 y.a.n) ∧ w'.cell? ⟨bb, ob + i * 14 + 3, none⟩ = some (.bool y.a.p) ∧ w'.cell? ⟨bb, ob + i * 14 + 4, none⟩ = some (.bool y.a.u) ∧ w'.cell? ⟨bb, ob + i * 14 + 5, none⟩ = some (.int .i64 y.b.n) ∧ w'.cell? ⟨bb, ob + i * 14 + 6, none⟩ = some (.bool y.b.p) ∧ w'.cell? ⟨bb, ob + i * 14 + 7, none⟩ = some (.bool y.b.u) ∧ w'.cell? ⟨bb, ob + i * 14 + 8, none⟩ = some (.int .i64 y.c.n) ∧ w'.cell? ⟨bb, ob + i * 14 + 9, none⟩ = some (.bool y.c.p) ∧ w'.cell? ⟨bb, ob + i * 14 + 10, none⟩ = some (.bool y.c.u) ∧ w'.cell? ⟨bb, ob + i * 14 + 11, none⟩ = some (.int .i64 y.d.n) ∧ w'.cell? ⟨bb, ob + i * 14 + 12, none⟩ = some (.bool y.d.p) ∧ w'.cell? ⟨bb, ob + i * 14 + 13, none⟩ = some (.bool y.d.u))) (exact ⟨HX.out.val, HY.out.val⟩) (first | (go_at_call 28; refine (rrefines_any x.t x.o x.a x.b x.c x.d y.t y.o y.a y.b y.c y.d _).mono ?_; rintro en wb ⟨rfl, hbb⟩; rw [show refV x.t x.o x.a x.b x.c x.d y.t y.o y.a y.b y.c y.d = kb from HK.out]; replace HX := hide (HX.out.below hbb (by exact HBA.out)); replace HY := hide (HY.out.below hbb (by exact HBB.out)); replace HF := hide (HF.out.trans (hbb.mono HF.out.size)); clear hbb))
        all_goals
          clear HX HY
          cases kb
          · go_wp2_with fail
            go_ret
            exact ⟨by rw [allR_false xs ys i x y HXE.out HYE.out HK.out]; (try rfl), HF.out⟩
          · go_wp2_with fail
            go_roundw
            case rel => exact ⟨i + 1, by omega, by go_num, hide (fun j x' y' hj hx' hy' => by
              rcases Nat.lt_or_ge j i with h | h
              · exact HO.out j x' y' h hx' hy'
              · obtain rfl : j = i := by omega
                rw [HXE.out] at hx'; rw [HYE.out] at hy'
                injection hx' with hx'; injection hy' with hy'
                subst hx' hy'
                exact HK.out), HF⟩
            case measure => exact meas_succ hlt h64
      · obtain rfl : i = n := by omega
        clear hlt
        go_wp2_with fail
        go_ret
        exact ⟨by rw [allR_true xs ys HL.out (fun j x y hx hy => HO.out j x y (by have := (List.getElem?_eq_some_iff.1 hx).1; have := HN.out; omega) hx hy)]; (try rfl), HF.out⟩
  · have e1 : (((xs.length : Nat) : Int) != ((ys.length : Nat) : Int)) = true := by simp; omega
    have HL := hide hl
    clear hl
    go_enter Tryd.func14, Tryd.ntmps14
    go_wp2_with fail
    go_ret
    exact ⟨by rw [allR_len xs ys HL.out]; (try rfl), Below.refl _ _⟩
end Go.Proofs.YtojeaghljebbbaaDoor
namespace Go.Proofs.YtojeaghljebbbaaDoor
open Go.RowKit

set_option maxRecDepth 100000 in
theorem listwise1_any (g : FuncId) (w : World) : Calls Tryd.prog 26 #[.func (.func g) #[] #[]] w fun e w' => ∃ pb, e = .returned (.func (.func 42) #[] #[.pointer (some ⟨pb, 0, none⟩)]) ∧ w'.cell? ⟨pb, 0, none⟩ = some (.func (.func g) #[] #[]) ∧ pb < w'.heap.size ∧ Below w.heap.size w w' := by
  go_enter Tryd.func26, Tryd.ntmps26
  go_wp2_with fail
  go_ret
  exact ⟨w.heap.size, rfl, by simp [go_sem], by simp, (Below.refl _ _).alloc (Nat.le_refl _) _⟩
set_option maxRecDepth 100000 in
theorem listwise2_any (g : FuncId) (w : World) : Calls Tryd.prog 25 #[.func (.func g) #[] #[]] w fun e w' => ∃ pb, e = .returned (.func (.func 41) #[] #[.pointer (some ⟨pb, 0, none⟩)]) ∧ w'.cell? ⟨pb, 0, none⟩ = some (.func (.func g) #[] #[]) ∧ pb < w'.heap.size ∧ Below w.heap.size w w' := by
  go_enter Tryd.func25, Tryd.ntmps25
  go_wp2_with fail
  go_ret
  exact ⟨w.heap.size, rfl, by simp [go_sem], by simp, (Below.refl _ _).alloc (Nat.le_refl _) _⟩
set_option maxRecDepth 100000 in
theorem values_any (xs ys : List VD) (va vb : Value) (w : World) (hT : Tab w) (ha : RdN w 14 va (xs.map VD.cl)) (hb : RdN w 14 vb (ys.map VD.cl)) :
    Calls Tryd.prog 13 #[va, vb] w fun e w' => e = .returned (.bool (allR refD xs ys)) ∧ Below w.heap.size w w' := by
  have HA := hide ha
  have HB := hide hb
  have HT := hide hT
  clear ha hb hT
  go_enter Tryd.func13, Tryd.ntmps13
  go_wp2_with fail
  refine (listwise1_any _ _).mono ?_
  rintro en w1 ⟨pb, rfl, hp, hpb, hb1⟩
  have HP := hide hp
  have HPB := hide hpb
  have HB1 := hide hb1
  clear hp hpb hb1
  go_wp2_with fail
  refine (lwv_any xs ys va vb pb _ (by exact HT.out.below HB1.out) (by exact HP.out) (by exact HPB.out) (by exact HA.out.below' HB1.out) (by exact HB.out.below' HB1.out)).mono ?_
  rintro en w2 ⟨rfl, hb2⟩
  have HB2 := hide (HB1.out.trans (hb2.mono HB1.out.size))
  clear hb2
  go_wp2_with fail
  go_ret
  exact ⟨rfl, HB2.out⟩
theorem LD.ok.below' {w w' : World} {d : LD} (h : d.ok w) (hb : Below w.heap.size w w') : d.ok w' := RdN.below' h hb
set_option maxRecDepth 100000 in
set_option maxHeartbeats 8000000 in
theorem lwl_any (xs ys : List LD) (va vb : Value) (pb : Nat) (w : World) (hT : Tab w) (hp : w.cell? ⟨pb, 0, none⟩ = some (.func (.func 13) #[] #[])) (hpb : pb < w.heap.size) (ha : RdN w 1 va (xs.map LD.cl)) (hb : RdN w 1 vb (ys.map LD.cl)) (hoa : ∀ d ∈ xs, d.ok w) (hob : ∀ d ∈ ys, d.ok w) :
    Calls Tryd.prog 41 #[va, vb, .pointer (some ⟨pb, 0, none⟩)] w fun e w' => e = .returned (.bool (allR refL2 xs ys)) ∧ Below w.heap.size w w' := by
  obtain ⟨A, c, rfl⟩ := ha.form
  obtain ⟨B, k, rfl⟩ := hb.form
  rw [List.length_map] at ha hb ⊢
  rw [List.length_map]
  have HA := hide ha
  have HB := hide hb
  have HT := hide hT
  have HP := hide hp
  have HPB := hide hpb
  have HOA := hide hoa
  have HOB := hide hob
  clear ha hb hT hp hpb hoa hob
  by_cases hl : xs.length = ys.length
  · have HL := hide hl
    have e1 : (((xs.length : Nat) : Int) != ((ys.length : Nat) : Int)) = false := by rw [hl]; simp
    have hlb : xs.length ≤ maxLen := by have := HA.out.room; omega
    have HLB := hide hlb
    obtain ⟨n, hn⟩ : ∃ n, xs.length = n := ⟨_, rfl⟩
    have hn2 : ys.length = n := by omega
    have HN := hide hn
    have HN2 := hide hn2
    rw [hn, hn2] at e1
    rw [hn, hn2]
    clear hl hlb hn hn2
    go_enter Tryd.func41, Tryd.ntmps41
    go_wp2_with fail
    clear e1
    go_loopw [14] (fun z wr => ∃ i : Nat, i ≤ n ∧ z = .int .i64 (i : Nat) ∧ Hid (∀ j x y, j < i → xs[j]? = some x → ys[j]? = some y → refL2 x y = true) ∧ Hid (Below w.heap.size w wr)) (fun z _ => n - (intOf z).toNat)
    case atStart => exact ⟨0, Nat.zero_le _, rfl, hide (fun j x y hj => by omega), hide (Below.refl _ _)⟩
    case round =>
      obtain ⟨wq, rfl⟩ : ∃ x, x = wr := ⟨_, rfl⟩
      obtain ⟨i, hi, rfl, HO, HF⟩ := hrel
      by_cases hlt : i < n
      · obtain ⟨x, hx⟩ : ∃ x, xs[i]? = some x := ⟨_, List.getElem?_eq_getElem (by rw [HN.out]; exact hlt)⟩
        obtain ⟨y, hy⟩ : ∃ y, ys[i]? = some y := ⟨_, List.getElem?_eq_getElem (by rw [HN2.out]; exact hlt)⟩
        obtain ⟨ba, oa, rfl, hba, hxa⟩ := HA.out.row (i := i) (r := x.cl) (by rw [List.getElem?_map, hx]; rfl)
        obtain ⟨bb, ob, rfl, hbb, hyb⟩ := HB.out.row (i := i) (r := y.cl) (by rw [List.getElem?_map, hy]; rfl)
        obtain ⟨kb, hkb⟩ : ∃ k, refL2 x y = k := ⟨_, rfl⟩
        have h64 : wrap64 ((i : Int) + 1) = (i : Int) + 1 := wrap_succ (n := n) hlt (by rw [← HN.out]; exact HLB.out)
        have HX := hide (hxa.below HF.out hba)
        have HY := hide (hyb.below HF.out hbb)
        have HBA : Hid (ba < wq.heap.size) := hide (Nat.lt_of_lt_of_le hba HF.out.size)
        have HBB : Hid (bb < wq.heap.size) := hide (Nat.lt_of_lt_of_le hbb HF.out.size)
        have HXE := hide hx
        have HYE := hide hy
        have HK := hide hkb
        have HPX : Hid (wq.cell? ⟨pb, 0, none⟩ = some (.func (.func 13) #[] #[])) := hide ((HF.out.cell (p := ⟨pb, 0, none⟩) HPB.out).trans HP.out)
        have HPBX : Hid (pb < wq.heap.size) := hide (Nat.lt_of_lt_of_le HPB.out HF.out.size)
        have HTX := hide (HT.out.below HF.out)
        have HXO : Hid (x.ok wq) := hide ((HOA.out x (List.mem_of_getElem? hx)).below' HF.out)
        have HYO : Hid (y.ok wq) := hide ((HOB.out y (List.mem_of_getElem? hy)).below' HF.out)
        clear hxa hyb hx hy hba hbb hkb
        go_wp2_with fail
        replace HX := hide HX.out.drew
        replace HY := hide HY.out.drew
        replace HF : Hid (Below w.heap.size w wq.drew) := hide HF.out.drew
        go_region_held3 (fun w' => w'.cell? ⟨pb, 0, none⟩ = some (.func (.func 13) #[] #[]) ∧ (w'.cell? ⟨ba, oa + i, none⟩ = some (.slice x.A x.vs.length x.c)) ∧ (w'.cell? ⟨bb, ob + i, none⟩ = some (.slice y.A y.vs.length y.c))) (exact ⟨HPX.out, by simpa using HX.out.ld, by simpa using HY.out.ld⟩) (first | (go_at_call 13; refine (values_any x.vs y.vs (.slice x.A x.vs.length x.c) (.slice y.A y.vs.length y.c) _ (by exact HTX.out.drewN 1) (by exact HXO.out) (by exact HYO.out)).mono ?_; rintro en wb ⟨rfl, hbb⟩; rw [show allR refD x.vs y.vs = kb from HK.out]; replace HX := hide (HX.out.below hbb (by exact HBA.out)); replace HY := hide (HY.out.below hbb (by exact HBB.out)); replace HF := hide (HF.out.trans (hbb.mono HF.out.size)); replace HPX := hide ((hbb.cell (p := ⟨pb, 0, none⟩) (by exact HPBX.out)).trans HPX.out); clear hbb))
        all_goals
          clear HX HY
          cases kb
          · go_wp2_with fail
            go_ret
            exact ⟨by rw [allR_false xs ys i x y HXE.out HYE.out HK.out]; (try rfl), HF.out⟩
          · go_wp2_with fail
            go_roundw
            case rel => exact ⟨i + 1, by omega, by go_num, hide (fun j x' y' hj hx' hy' => by
              rcases Nat.lt_or_ge j i with h | h
              · exact HO.out j x' y' h hx' hy'
              · obtain rfl : j = i := by omega
                rw [HXE.out] at hx'; rw [HYE.out] at hy'
                injection hx' with hx'; injection hy' with hy'
                subst hx' hy'
                exact HK.out), HF⟩
            case measure => exact meas_succ hlt h64
      · obtain rfl : i = n := by omega
        clear hlt
        go_wp2_with fail
        go_ret
        exact ⟨by rw [allR_true xs ys HL.out (fun j x y hx hy => HO.out j x y (by have := (List.getElem?_eq_some_iff.1 hx).1; have := HN.out; omega) hx hy)]; (try rfl), HF.out⟩
  · have e1 : (((xs.length : Nat) : Int) != ((ys.length : Nat) : Int)) = true := by simp; omega
    have HL := hide hl
    clear hl
    go_enter Tryd.func41, Tryd.ntmps41
    go_wp2_with fail
    go_ret
    exact ⟨by rw [allR_len xs ys HL.out]; (try rfl), Below.refl _ _⟩
set_option maxRecDepth 100000 in
set_option maxHeartbeats 8000000 in
theorem rcells_any (xs ys : List LD) (va vb : Value) (w : World) (ha : RdN w 1 va (xs.map LD.cl)) (hb : RdN w 1 vb (ys.map LD.cl)) (hoa : ∀ d ∈ xs, d.ok w) (hob : ∀ d ∈ ys, d.ok w) :
    Calls Tryd.prog 22 #[va, vb] w fun e w' => e = .returned (.bool (allR refL2 xs ys)) ∧ Below w.heap.size w w' := by
  obtain ⟨A, c, rfl⟩ := ha.form
  obtain ⟨B, k, rfl⟩ := hb.form
  rw [List.length_map] at ha hb ⊢
  rw [List.length_map]
  have HA := hide ha
  have HB := hide hb
  have HOA := hide hoa
  have HOB := hide hob
  clear ha hb hoa hob
  by_cases hl : xs.length = ys.length
  · have HL := hide hl
    have e1 : (((xs.length : Nat) : Int) != ((ys.length : Nat) : Int)) = false := by rw [hl]; simp
    have hlb : xs.length ≤ maxLen := by have := HA.out.room; omega
    have HLB := hide hlb
    obtain ⟨n, hn⟩ : ∃ n, xs.length = n := ⟨_, rfl⟩
    have hn2 : ys.length = n := by omega
    have HN := hide hn
    have HN2 := hide hn2
    rw [hn, hn2] at e1
    rw [hn, hn2]
    clear hl hlb hn hn2
    go_enter Tryd.func22, Tryd.ntmps22
    go_wp2_with fail
    clear e1
    go_loopw [5] (fun z wr => ∃ i : Nat, i ≤ n ∧ z = .int .i64 (i : Nat) ∧ Hid (∀ j x y, j < i → xs[j]? = some x → ys[j]? = some y → refL2 x y = true) ∧ Hid (Below w.heap.size w wr)) (fun z _ => n - (intOf z).toNat)
    case atStart => exact ⟨0, Nat.zero_le _, rfl, hide (fun j x y hj => by omega), hide (Below.refl _ _)⟩
    case round =>
      obtain ⟨wq, rfl⟩ : ∃ x, x = wr := ⟨_, rfl⟩
      obtain ⟨i, hi, rfl, HO, HF⟩ := hrel
      by_cases hlt : i < n
      · obtain ⟨x, hx⟩ : ∃ x, xs[i]? = some x := ⟨_, List.getElem?_eq_getElem (by rw [HN.out]; exact hlt)⟩
        obtain ⟨y, hy⟩ : ∃ y, ys[i]? = some y := ⟨_, List.getElem?_eq_getElem (by rw [HN2.out]; exact hlt)⟩
        obtain ⟨ba, oa, rfl, hba, hxa⟩ := HA.out.row (i := i) (r := x.cl) (by rw [List.getElem?_map, hx]; rfl)
        obtain ⟨bb, ob, rfl, hbb, hyb⟩ := HB.out.row (i := i) (r := y.cl) (by rw [List.getElem?_map, hy]; rfl)
        obtain ⟨kb, hkb⟩ : ∃ k, refL2 x y = k := ⟨_, rfl⟩
        have h64 : wrap64 ((i : Int) + 1) = (i : Int) + 1 := wrap_succ (n := n) hlt (by rw [← HN.out]; exact HLB.out)
        have HX := hide (hxa.below HF.out hba)
        have HY := hide (hyb.below HF.out hbb)
        have HBA : Hid (ba < wq.heap.size) := hide (Nat.lt_of_lt_of_le hba HF.out.size)
        have HBB : Hid (bb < wq.heap.size) := hide (Nat.lt_of_lt_of_le hbb HF.out.size)
        have HXE := hide hx
        have HYE := hide hy
        have HK := hide hkb
        have HXO : Hid (x.ok wq) := hide ((HOA.out x (List.mem_of_getElem? hx)).below' HF.out)
        have HYO : Hid (y.ok wq) := hide ((HOB.out y (List.mem_of_getElem? hy)).below' HF.out)
        clear hxa hyb hx hy hba hbb hkb
        go_wp2_with fail
        replace HX := hide HX.out.drew
        replace HY := hide HY.out.drew
        replace HF : Hid (Below w.heap.size w wq.drew) := hide HF.out.drew
        go_region_held3 (fun w' => (w'.cell? ⟨ba, oa + i, none⟩ = some (.slice x.A x.vs.length x.c)) ∧ (w'.cell? ⟨bb, ob + i, none⟩ = some (.slice y.A y.vs.length y.c))) (exact ⟨by simpa using HX.out.ld, by simpa using HY.out.ld⟩) (first | (go_at_call 14; refine (rvalues_any x.vs y.vs (.slice x.A x.vs.length x.c) (.slice y.A y.vs.length y.c) _ (by exact HXO.out) (by exact HYO.out)).mono ?_; rintro en wb ⟨rfl, hbb⟩; rw [show allR refD x.vs y.vs = kb from HK.out]; replace HX := hide (HX.out.below hbb (by exact HBA.out)); replace HY := hide (HY.out.below hbb (by exact HBB.out)); replace HF := hide (HF.out.trans (hbb.mono HF.out.size)); clear hbb))
        all_goals
          clear HX HY
          cases kb
          · go_wp2_with fail
            go_ret
            exact ⟨by rw [allR_false xs ys i x y HXE.out HYE.out HK.out]; (try rfl), HF.out⟩
          · go_wp2_with fail
            go_roundw
            case rel => exact ⟨i + 1, by omega, by go_num, hide (fun j x' y' hj hx' hy' => by
              rcases Nat.lt_or_ge j i with h | h
              · exact HO.out j x' y' h hx' hy'
              · obtain rfl : j = i := by omega
                rw [HXE.out] at hx'; rw [HYE.out] at hy'
                injection hx' with hx'; injection hy' with hy'
                subst hx' hy'
                exact HK.out), HF⟩
            case measure => exact meas_succ hlt h64
      · obtain rfl : i = n := by omega
        clear hlt
        go_wp2_with fail
        go_ret
        exact ⟨by rw [allR_true xs ys HL.out (fun j x y hx hy => HO.out j x y (by have := (List.getElem?_eq_some_iff.1 hx).1; have := HN.out; omega) hx hy)]; (try rfl), HF.out⟩
  · have e1 : (((xs.length : Nat) : Int) != ((ys.length : Nat) : Int)) = true := by simp; omega
    have HL := hide hl
    clear hl
    go_enter Tryd.func22, Tryd.ntmps22
    go_wp2_with fail
    go_ret
    exact ⟨by rw [allR_len xs ys HL.out]; (try rfl), Below.refl _ _⟩
end Go.Proofs.YtojeaghljebbbaaDoor
namespace Go.Proofs.YtojeaghljebbbaaDoor
open Go.RowKit

def resR (x y : VD) : Bool := (x.t == 0 && y.t == 0) || refD x y
theorem numL_zero : numL 0 = 0 := by unfold numL; simp
theorem refD_void {x y : VD} (h : x.t = 0 ∨ y.t = 0) : refD x y = false := by
  unfold refD refV
  have hv : ∀ (t : Int) (o : Int) (a b c d : LaneD), t = 0 → validB t o a b c d = false := by
    rintro t o a b c d rfl
    unfold validB
    rw [numL_zero]
    rfl
  rcases h with h | h
  · rw [hv _ _ _ _ _ _ h]; rfl
  · rw [hv y.t _ _ _ _ _ h]; simp
theorem resR_or {x y : VD} (h : (x.t == 0 && y.t == 0) = false) : resR x y = refD x y := by unfold resR; rw [h]; rfl
theorem resR_ff {x y : VD} (h : (x.t == 0) = false) (_ : (y.t == 0) = false) : resR x y = refD x y := resR_or (by rw [h]; rfl)
theorem resR_ft {x y : VD} (h : (x.t == 0) = false) (k : (y.t == 0) = true) : resR x y = false := by rw [resR_or (by rw [h]; rfl)]; exact refD_void (.inr (by simpa using k))
theorem resR_tf {x y : VD} (h : (x.t == 0) = true) (k : (y.t == 0) = false) : resR x y = false := by rw [resR_or (by rw [h, k]; rfl)]; exact refD_void (.inl (by simpa using h))
theorem resR_tt {x y : VD} (h : (x.t == 0) = true) (k : (y.t == 0) = true) : resR x y = true := by unfold resR; rw [h, k]; rfl
set_option maxRecDepth 100000 in
set_option maxHeartbeats 4000000 in
theorem resref_any (x y : VD) (w : World) (hT : Tab w) : Calls Tryd.prog 24 #[.agg #[.int .i64 x.t, .int .i64 x.o, .int .i64 x.a.n, .bool x.a.p, .bool x.a.u, .int .i64 x.b.n, .bool x.b.p, .bool x.b.u, .int .i64 x.c.n, .bool x.c.p, .bool x.c.u, .int .i64 x.d.n, .bool x.d.p, .bool x.d.u], .agg #[.int .i64 y.t, .int .i64 y.o, .int .i64 y.a.n, .bool y.a.p, .bool y.a.u, .int .i64 y.b.n, .bool y.b.p, .bool y.b.u, .int .i64 y.c.n, .bool y.c.p, .bool y.c.u, .int .i64 y.d.n, .bool y.d.p, .bool y.d.u]] w fun e w' => e = .returned (.bool (resR x y)) ∧ Below w.heap.size w w' := by
  obtain ⟨w1, hw1⟩ : ∃ z, (w.alloc (.cells #[.int .i64 x.t, .int .i64 x.o, .int .i64 x.a.n, .bool x.a.p, .bool x.a.u, .int .i64 x.b.n, .bool x.b.p, .bool x.b.u, .int .i64 x.c.n, .bool x.c.p, .bool x.c.u, .int .i64 x.d.n, .bool x.d.p, .bool x.d.u] 27)).alloc (.cells #[.int .i64 y.t, .int .i64 y.o, .int .i64 y.a.n, .bool y.a.p, .bool y.a.u, .int .i64 y.b.n, .bool y.b.p, .bool y.b.u, .int .i64 y.c.n, .bool y.c.p, .bool y.c.u, .int .i64 y.d.n, .bool y.d.p, .bool y.d.u] 27) = z := ⟨_, rfl⟩
  have hA : Whole w1 w.heap.size 27 #[.int .i64 x.t, .int .i64 x.o, .int .i64 x.a.n, .bool x.a.p, .bool x.a.u, .int .i64 x.b.n, .bool x.b.p, .bool x.b.u, .int .i64 x.c.n, .bool x.c.p, .bool x.c.u, .int .i64 x.d.n, .bool x.d.p, .bool x.d.u] := by rw [← hw1]; exact (Whole.new w _ _).alloc _
  have hB : Whole w1 (w.heap.size + 1) 27 #[.int .i64 y.t, .int .i64 y.o, .int .i64 y.a.n, .bool y.a.p, .bool y.a.u, .int .i64 y.b.n, .bool y.b.p, .bool y.b.u, .int .i64 y.c.n, .bool y.c.p, .bool y.c.u, .int .i64 y.d.n, .bool y.d.p, .bool y.d.u] := by rw [← hw1]; have := Whole.new (w.alloc (.cells #[.int .i64 x.t, .int .i64 x.o, .int .i64 x.a.n, .bool x.a.p, .bool x.a.u, .int .i64 x.b.n, .bool x.b.p, .bool x.b.u, .int .i64 x.c.n, .bool x.c.p, .bool x.c.u, .int .i64 x.d.n, .bool x.d.p, .bool x.d.u] 27)) 27 #[.int .i64 y.t, .int .i64 y.o, .int .i64 y.a.n, .bool y.a.p, .bool y.a.u, .int .i64 y.b.n, .bool y.b.p, .bool y.b.u, .int .i64 y.c.n, .bool y.c.p, .bool y.c.u, .int .i64 y.d.n, .bool y.d.p, .bool y.d.u]; rwa [World.size_alloc] at this
  have HB : Hid (Below w.heap.size w w1) := hide (by rw [← hw1]; exact ((Below.refl _ _).alloc (Nat.le_refl _) _).alloc (by simp) _)
  have HT : Hid (Tab w1) := hide (hT.below HB.out)
  clear hT
  have x0 : w1.cell? ⟨w.heap.size, 0, none⟩ = some (.int .i64 x.t) := hA.cell 0
  have x1 : w1.cell? ⟨w.heap.size, 1, none⟩ = some (.int .i64 x.o) := hA.cell 1
  have x2 : w1.cell? ⟨w.heap.size, 2, none⟩ = some (.int .i64 x.a.n) := hA.cell 2
  have x3 : w1.cell? ⟨w.heap.size, 3, none⟩ = some (.bool x.a.p) := hA.cell 3
  have x4 : w1.cell? ⟨w.heap.size, 4, none⟩ = some (.bool x.a.u) := hA.cell 4
  have x5 : w1.cell? ⟨w.heap.size, 5, none⟩ = some (.int .i64 x.b.n) := hA.cell 5
  have x6 : w1.cell? ⟨w.heap.size, 6, none⟩ = some (.bool x.b.p) := hA.cell 6
  have x7 : w1.cell? ⟨w.heap.size, 7, none⟩ = some (.bool x.b.u) := hA.cell 7
  have x8 : w1.cell? ⟨w.heap.size, 8, none⟩ = some (.int .i64 x.c.n) := hA.cell 8
  have x9 : w1.cell? ⟨w.heap.size, 9, none⟩ = some (.bool x.c.p) := hA.cell 9
  have x10 : w1.cell? ⟨w.heap.size, 10, none⟩ = some (.bool x.c.u) := hA.cell 10
  have x11 : w1.cell? ⟨w.heap.size, 11, none⟩ = some (.int .i64 x.d.n) := hA.cell 11
  have x12 : w1.cell? ⟨w.heap.size, 12, none⟩ = some (.bool x.d.p) := hA.cell 12
  have x13 : w1.cell? ⟨w.heap.size, 13, none⟩ = some (.bool x.d.u) := hA.cell 13
  have y0 : w1.cell? ⟨w.heap.size + 1, 0, none⟩ = some (.int .i64 y.t) := hB.cell 0
  have y1 : w1.cell? ⟨w.heap.size + 1, 1, none⟩ = some (.int .i64 y.o) := hB.cell 1
  have y2 : w1.cell? ⟨w.heap.size + 1, 2, none⟩ = some (.int .i64 y.a.n) := hB.cell 2
  have y3 : w1.cell? ⟨w.heap.size + 1, 3, none⟩ = some (.bool y.a.p) := hB.cell 3
  have y4 : w1.cell? ⟨w.heap.size + 1, 4, none⟩ = some (.bool y.a.u) := hB.cell 4
  have y5 : w1.cell? ⟨w.heap.size + 1, 5, none⟩ = some (.int .i64 y.b.n) := hB.cell 5
  have y6 : w1.cell? ⟨w.heap.size + 1, 6, none⟩ = some (.bool y.b.p) := hB.cell 6
  have y7 : w1.cell? ⟨w.heap.size + 1, 7, none⟩ = some (.bool y.b.u) := hB.cell 7
  have y8 : w1.cell? ⟨w.heap.size + 1, 8, none⟩ = some (.int .i64 y.c.n) := hB.cell 8
  have y9 : w1.cell? ⟨w.heap.size + 1, 9, none⟩ = some (.bool y.c.p) := hB.cell 9
  have y10 : w1.cell? ⟨w.heap.size + 1, 10, none⟩ = some (.bool y.c.u) := hB.cell 10
  have y11 : w1.cell? ⟨w.heap.size + 1, 11, none⟩ = some (.int .i64 y.d.n) := hB.cell 11
  have y12 : w1.cell? ⟨w.heap.size + 1, 12, none⟩ = some (.bool y.d.p) := hB.cell 12
  have y13 : w1.cell? ⟨w.heap.size + 1, 13, none⟩ = some (.bool y.d.u) := hB.cell 13
  clear hA hB
  cases e0 : x.t == 0 <;> cases e1 : y.t == 0
  · go_enter Tryd.func24, Tryd.ntmps24
    go_upto_region 1 with fail
    clear hw1
    go_wp2_with fail
    refine (refines_any x.t x.o x.a x.b x.c x.d y.t y.o y.a y.b y.c y.d _ (by exact HT.out)).mono ?_
    rintro en wb ⟨rfl, hbb⟩
    have HB2 := hide (HB.out.trans (hbb.mono HB.out.size))
    clear hbb
    go_wp2_with fail
    go_ret
    exact ⟨by rw [resR_ff e0 e1]; rfl, HB2.out⟩
  · go_enter Tryd.func24, Tryd.ntmps24
    go_upto_region 1 with fail
    clear hw1
    go_wp2_with fail
    refine (refines_any x.t x.o x.a x.b x.c x.d y.t y.o y.a y.b y.c y.d _ (by exact HT.out)).mono ?_
    rintro en wb ⟨rfl, hbb⟩
    have HB2 := hide (HB.out.trans (hbb.mono HB.out.size))
    clear hbb
    go_wp2_with fail
    go_ret
    exact ⟨by rw [resR_or (by rw [e0]; rfl)]; rfl, HB2.out⟩
  · go_enter Tryd.func24, Tryd.ntmps24
    go_upto_region 1 with fail
    clear hw1
    go_wp2_with fail
    refine (refines_any x.t x.o x.a x.b x.c x.d y.t y.o y.a y.b y.c y.d _ (by exact HT.out)).mono ?_
    rintro en wb ⟨rfl, hbb⟩
    have HB2 := hide (HB.out.trans (hbb.mono HB.out.size))
    clear hbb
    go_wp2_with fail
    go_ret
    exact ⟨by rw [resR_or (by rw [e0, e1]; rfl)]; rfl, HB2.out⟩
  · go_enter Tryd.func24, Tryd.ntmps24
    go_upto_region 1 with fail
    clear hw1
    go_wp2_with fail
    go_ret
    exact ⟨by rw [resR_tt e0 e1]; (try rfl), HB.out⟩
set_option maxRecDepth 100000 in
set_option maxHeartbeats 4000000 in
theorem results_any (x y : VD) (w : World) : Calls Tryd.prog 21 #[.agg #[.int .i64 x.t, .int .i64 x.o, .int .i64 x.a.n, .bool x.a.p, .bool x.a.u, .int .i64 x.b.n, .bool x.b.p, .bool x.b.u, .int .i64 x.c.n, .bool x.c.p, .bool x.c.u, .int .i64 x.d.n, .bool x.d.p, .bool x.d.u], .agg #[.int .i64 y.t, .int .i64 y.o, .int .i64 y.a.n, .bool y.a.p, .bool y.a.u, .int .i64 y.b.n, .bool y.b.p, .bool y.b.u, .int .i64 y.c.n, .bool y.c.p, .bool y.c.u, .int .i64 y.d.n, .bool y.d.p, .bool y.d.u]] w fun e w' => e = .returned (.bool (resR x y)) ∧ Below w.heap.size w w' := by
  obtain ⟨w1, hw1⟩ : ∃ z, (w.alloc (.cells #[.int .i64 x.t, .int .i64 x.o, .int .i64 x.a.n, .bool x.a.p, .bool x.a.u, .int .i64 x.b.n, .bool x.b.p, .bool x.b.u, .int .i64 x.c.n, .bool x.c.p, .bool x.c.u, .int .i64 x.d.n, .bool x.d.p, .bool x.d.u] 27)).alloc (.cells #[.int .i64 y.t, .int .i64 y.o, .int .i64 y.a.n, .bool y.a.p, .bool y.a.u, .int .i64 y.b.n, .bool y.b.p, .bool y.b.u, .int .i64 y.c.n, .bool y.c.p, .bool y.c.u, .int .i64 y.d.n, .bool y.d.p, .bool y.d.u] 27) = z := ⟨_, rfl⟩
  have hA : Whole w1 w.heap.size 27 #[.int .i64 x.t, .int .i64 x.o, .int .i64 x.a.n, .bool x.a.p, .bool x.a.u, .int .i64 x.b.n, .bool x.b.p, .bool x.b.u, .int .i64 x.c.n, .bool x.c.p, .bool x.c.u, .int .i64 x.d.n, .bool x.d.p, .bool x.d.u] := by rw [← hw1]; exact (Whole.new w _ _).alloc _
  have hB : Whole w1 (w.heap.size + 1) 27 #[.int .i64 y.t, .int .i64 y.o, .int .i64 y.a.n, .bool y.a.p, .bool y.a.u, .int .i64 y.b.n, .bool y.b.p, .bool y.b.u, .int .i64 y.c.n, .bool y.c.p, .bool y.c.u, .int .i64 y.d.n, .bool y.d.p, .bool y.d.u] := by rw [← hw1]; have := Whole.new (w.alloc (.cells #[.int .i64 x.t, .int .i64 x.o, .int .i64 x.a.n, .bool x.a.p, .bool x.a.u, .int .i64 x.b.n, .bool x.b.p, .bool x.b.u, .int .i64 x.c.n, .bool x.c.p, .bool x.c.u, .int .i64 x.d.n, .bool x.d.p, .bool x.d.u] 27)) 27 #[.int .i64 y.t, .int .i64 y.o, .int .i64 y.a.n, .bool y.a.p, .bool y.a.u, .int .i64 y.b.n, .bool y.b.p, .bool y.b.u, .int .i64 y.c.n, .bool y.c.p, .bool y.c.u, .int .i64 y.d.n, .bool y.d.p, .bool y.d.u]; rwa [World.size_alloc] at this
  have HB : Hid (Below w.heap.size w w1) := hide (by rw [← hw1]; exact ((Below.refl _ _).alloc (Nat.le_refl _) _).alloc (by simp) _)
  have x0 : w1.cell? ⟨w.heap.size, 0, none⟩ = some (.int .i64 x.t) := hA.cell 0
  have x1 : w1.cell? ⟨w.heap.size, 1, none⟩ = some (.int .i64 x.o) := hA.cell 1
  have x2 : w1.cell? ⟨w.heap.size, 2, none⟩ = some (.int .i64 x.a.n) := hA.cell 2
  have x3 : w1.cell? ⟨w.heap.size, 3, none⟩ = some (.bool x.a.p) := hA.cell 3
  have x4 : w1.cell? ⟨w.heap.size, 4, none⟩ = some (.bool x.a.u) := hA.cell 4
  have x5 : w1.cell? ⟨w.heap.size, 5, none⟩ = some (.int .i64 x.b.n) := hA.cell 5
  have x6 : w1.cell? ⟨w.heap.size, 6, none⟩ = some (.bool x.b.p) := hA.cell 6
  have x7 : w1.cell? ⟨w.heap.size, 7, none⟩ = some (.bool x.b.u) := hA.cell 7
  have x8 : w1.cell? ⟨w.heap.size, 8, none⟩ = some (.int .i64 x.c.n) := hA.cell 8
  have x9 : w1.cell? ⟨w.heap.size, 9, none⟩ = some (.bool x.c.p) := hA.cell 9
  have x10 : w1.cell? ⟨w.heap.size, 10, none⟩ = some (.bool x.c.u) := hA.cell 10
  have x11 : w1.cell? ⟨w.heap.size, 11, none⟩ = some (.int .i64 x.d.n) := hA.cell 11
  have x12 : w1.cell? ⟨w.heap.size, 12, none⟩ = some (.bool x.d.p) := hA.cell 12
  have x13 : w1.cell? ⟨w.heap.size, 13, none⟩ = some (.bool x.d.u) := hA.cell 13
  have y0 : w1.cell? ⟨w.heap.size + 1, 0, none⟩ = some (.int .i64 y.t) := hB.cell 0
  have y1 : w1.cell? ⟨w.heap.size + 1, 1, none⟩ = some (.int .i64 y.o) := hB.cell 1
  have y2 : w1.cell? ⟨w.heap.size + 1, 2, none⟩ = some (.int .i64 y.a.n) := hB.cell 2
  have y3 : w1.cell? ⟨w.heap.size + 1, 3, none⟩ = some (.bool y.a.p) := hB.cell 3
  have y4 : w1.cell? ⟨w.heap.size + 1, 4, none⟩ = some (.bool y.a.u) := hB.cell 4
  have y5 : w1.cell? ⟨w.heap.size + 1, 5, none⟩ = some (.int .i64 y.b.n) := hB.cell 5
  have y6 : w1.cell? ⟨w.heap.size + 1, 6, none⟩ = some (.bool y.b.p) := hB.cell 6
  have y7 : w1.cell? ⟨w.heap.size + 1, 7, none⟩ = some (.bool y.b.u) := hB.cell 7
  have y8 : w1.cell? ⟨w.heap.size + 1, 8, none⟩ = some (.int .i64 y.c.n) := hB.cell 8
  have y9 : w1.cell? ⟨w.heap.size + 1, 9, none⟩ = some (.bool y.c.p) := hB.cell 9
  have y10 : w1.cell? ⟨w.heap.size + 1, 10, none⟩ = some (.bool y.c.u) := hB.cell 10
  have y11 : w1.cell? ⟨w.heap.size + 1, 11, none⟩ = some (.int .i64 y.d.n) := hB.cell 11
  have y12 : w1.cell? ⟨w.heap.size + 1, 12, none⟩ = some (.bool y.d.p) := hB.cell 12
  have y13 : w1.cell? ⟨w.heap.size + 1, 13, none⟩ = some (.bool y.d.u) := hB.cell 13
  clear hA hB
  cases e0 : x.t == 0 <;> cases e1 : y.t == 0
  · go_enter Tryd.func21, Tryd.ntmps21
    go_upto_region 1 with fail
    clear hw1
    go_wp2_with fail
    refine (rrefines_any x.t x.o x.a x.b x.c x.d y.t y.o y.a y.b y.c y.d _).mono ?_
    rintro en wb ⟨rfl, hbb⟩
    have HB2 := hide (HB.out.trans (hbb.mono HB.out.size))
    clear hbb
    go_wp2_with fail
    go_ret
    exact ⟨by rw [resR_ff e0 e1]; rfl, HB2.out⟩
  · have e2 : (x.t == y.t) = false := by simp at e0 e1 ⊢; omega
    go_enter Tryd.func21, Tryd.ntmps21
    go_upto_region 1 with fail
    clear hw1
    go_wp2_with fail
    go_ret
    exact ⟨by rw [resR_ft e0 e1]; (try rfl), HB.out⟩
  · have e2 : (x.t == y.t) = false := by simp at e0 e1 ⊢; omega
    go_enter Tryd.func21, Tryd.ntmps21
    go_upto_region 1 with fail
    clear hw1
    go_wp2_with fail
    go_ret
    exact ⟨by rw [resR_tf e0 e1]; (try rfl), HB.out⟩
  · have e2 : (x.t == y.t) = true := by simp at e0 e1 ⊢; omega
    go_enter Tryd.func21, Tryd.ntmps21
    go_upto_region 1 with fail
    clear hw1
    go_wp2_with fail
    go_ret
    exact ⟨by rw [resR_tt e0 e1]; (try rfl), HB.out⟩
end Go.Proofs.YtojeaghljebbbaaDoor

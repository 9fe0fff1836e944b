/-
  WorklistTurn, layer 5 (worklist).
-/
import Derived.Test.YthdjgbkooeabfaaWorks
import Derived.Test.YthdjgbkooeabfaaOpen
namespace Go.Proofs.Ythdjgbkooeabfaa
open Go.RowKit

theorem rd_at {w : World} {A : Option Addr} {c : Nat} {l : List Int} {n : Nat} (h : Rd w .i64 (.slice A n c) l) {k : Nat} {x : Int} (hx : l[k]? = some x) : ∃ b off, A = some ⟨b, off, none⟩ ∧ b < w.heap.size ∧ w.cell? ⟨b, off + k, none⟩ = some (.int .i64 x) := by
  have := h.toV.at k (.int .i64 x) (by rw [List.getElem?_map, hx]; rfl)
  exact this

set_option maxRecDepth 100000 in
set_option maxHeartbeats 2000000 in
theorem lawTurn (n : Nat) (hn : n < 256) (v : Value) (l : List Int) (w : World) (hv : Rd w .i64 v l) :
    Calls Try.prog 6 #[.int .u8 n, v] w (LawDone w) := by
  have HV := hide hv
  obtain ⟨A, c, rfl, hc, hm, -⟩ := hv
  have hc9 : c ≤ 9223372036854775807 := by unfold maxLen at hm; omega
  clear hm
  by_cases h1 : (l.length : Int) > 300
  · have h1' : (300 : Int) < l.length := h1
    have HW := hide (works_any w)
    go_enter Try.func6, Try.ntmps6
    go_wp2_with fail
    refine HW.out.mono ?_
    rintro en w1 ⟨rfl, hb⟩
    go_wp2_with fail
    go_ret
    exact ⟨rfl, hb⟩
  · have h1' : ¬ ((300 : Int) < l.length) := h1
    have hrm : room (n : Int) = n := by unfold room; rw [if_neg (by omega), if_neg (by omega)]; omega
    have hn8 : (n : Int) < 256 := by omega
    go_enter Try.func6, Try.ntmps6
    go_wp2_with fail
    refine (new_ring n w).mono ?_
    rintro en w1 ⟨rfl, hq1, hf1⟩
    rw [hrm] at hq1
    have hlt1 : w.heap.size + 3 < w1.heap.size := hq1.lt
    have hb1 : Below w.heap.size w w1 := hf1.toBelow (by simp) (Nat.le_refl _)
    have H1 := hide (And.intro hq1 hb1)
    have HV1 := hide (HV.out.below' hb1)
    clear hq1 hf1 hb1 hrm
    go_wp2_with fail
    go_loopw [24, 6] (fun z iv wr => ∃ (k : Nat) (q : List Nat) (A2 : Option Addr) (c2 : Nat), k ≤ l.length ∧ z = .int .i64 k ∧ iv = .slice A2 q.length c2 ∧ q.length ≤ k ∧ QRing wr w.heap.size n q ∧ Own wr w1.heap.size 3 .i64 (.slice A2 q.length c2) (ints q) ∧ w1.heap.size ≤ wr.heap.size ∧ Below w.heap.size w wr) (fun z _ _ => l.length - (intOf z).toNat)
    case atStart => exact ⟨0, [], none, 0, Nat.zero_le _, rfl, rfl, Nat.le_refl _, H1.out.1, Own.nil, Nat.le_refl _, H1.out.2⟩
    case round =>
      clear H1 HV1
      obtain ⟨wq, rfl⟩ : ∃ x, x = wr := ⟨_, rfl⟩
      obtain ⟨k, q, A2, c2, hk, rfl, rfl, hqk, hq, ho, hsz, hb⟩ := hrel
      have hcm2 : c2 ≤ 9223372036854775807 ∧ q.length ≤ c2 := by
        obtain ⟨_, _, e, h1, h2, _⟩ := ho.rd
        rw [ints_len] at e h1
        injection e with _ _ e
        subst e
        unfold maxLen at h2
        omega
      have hcm9 := hcm2.1
      have hcm8 := hcm2.2
      clear hcm2
      have HQ := hide (And.intro hq (And.intro ho hb))
      have hql : (ints q).length = q.length := ints_len q
      clear hq ho hb
      by_cases hlt : k < l.length
      · obtain ⟨x, hx⟩ : ∃ x, l[k]? = some x := ⟨_, List.getElem?_eq_getElem hlt⟩
        obtain ⟨b, off, rfl, hbl, cx⟩ := rd_at (HV.out.below' HQ.out.2.2) hx
        have hlt' : (k : Int) < l.length := by omega
        clear hx
        by_cases hin : 0 ≤ x ∧ x < n ∧ x.toNat ∉ q
        · obtain ⟨y, rfl⟩ : ∃ y : Nat, x = y := ⟨x.toNat, by omega⟩
          have hyq : y ∉ q := by simpa using hin.2.2
          have HP := hide ((ringShop n).push y HQ.out.1 (show y < n by omega) hyq)
          clear hin hyq
          go_wp2_with fail
          refine HP.out.mono ?_
          rintro en w2 ⟨rfl, hq2, hf2⟩
          have hW3 : (ringShop n).W = 3 := rfl
          have ho2 := HQ.out.2.1.frmS hf2 (fun g hg hm => by have h1 := (HQ.out.2.1.size g hg).1; have h2 := (mem_blocks.1 hm).2; omega)
          have hb2 := HQ.out.2.2.trans (hf2.toBelow (fun g hg => (mem_blocks.1 hg).1) HQ.out.2.2.size)
          have hsz2 : w1.heap.size ≤ w2.heap.size := Nat.le_trans hsz hf2.size
          have H2 := hide (And.intro hq2 (And.intro ho2 hb2))
          clear hq2 ho2 hb2 hf2 HP HQ hW3
          go_wp2_with (first | (refine wpList_append_rd _ rfl _ _ 30 rfl w1.heap.size 3 .i64 8 intE _ (ints q) rfl (H2.out.2.1.alloc _) _ [(y : Int)] rfl (rd_one w2 3 (y : Int)) ?b1 ?b2 ?b3 ?_))
          case b1 => simp only [List.length_singleton, hql]; omega
          case b2 => unfold maxLen; simp only [List.length_singleton, hql]; omega
          case b3 => rw [World.size_alloc]; omega
          intro v' w3 ho hg hb hblk
          rw [ints_snoc] at ho
          obtain ⟨A3, c3, rfl, -, -, -⟩ := ho.rd
          rw [ints_len] at ho ⊢
          have hfr : Frm w2 w3 (Value.slice A2 q.length c2).ownBlock.toList := ((Frm.refl w2 _).alloc _).trans (Frm.grown hg)
          have hown : ∀ g ∈ (Value.slice A2 q.length c2).ownBlock.toList, w1.heap.size ≤ g := fun g hg => (H2.out.2.1.size g (by simpa using hg)).1
          have hq3 : QRing w3 w.heap.size n (q ++ [y]) := QRing.frm H2.out.1 hfr (fun g hg => .inr (by have := hown g hg; omega))
          have hb3 : Below w.heap.size w w3 := H2.out.2.2.trans (hfr.toBelow (fun g hg => by have := hown g hg; omega) H2.out.2.2.size)
          have hsz3 : w1.heap.size ≤ w3.heap.size := Nat.le_trans hsz2 hfr.size
          have H3 := hide (And.intro hq3 (And.intro ho (And.intro hsz3 hb3)))
          clear ho hg hb hblk hfr hown hq3 hb3 hsz3 H2
          go_wp2_with fail
          go_roundw
          case rel => exact ⟨k + 1, q ++ [y], _, _, by omega, by go_num, rfl, by simp; omega, H3.out.1, H3.out.2.1, H3.out.2.2.1, H3.out.2.2.2⟩
          case measure => simp [intOf]; omega
        · have HP := hide ((ringShop n).pushNo x HQ.out.1 hin)
          clear hin
          go_wp2_with (first | (go_at_call 14; refine HP.out.mono ?_; rintro en w' ⟨rfl, rfl⟩))
          go_roundw
          case rel => exact ⟨k + 1, q, _, _, by omega, by go_num, rfl, by omega, HQ.out.1, HQ.out.2.1, hsz, HQ.out.2.2⟩
          case measure => simp [intOf]; omega
      · obtain rfl : k = l.length := by omega
        have hqn : q.length ≤ n := HQ.out.1.1.len
        go_wp2_with fail
        have HS := HQ
        clear HQ
        go_loopw [38] (fun z wr => ∃ k : Nat, k ≤ q.length ∧ z = .int .i64 k ∧ QRing wr w.heap.size n (q.drop k) ∧ Own wr w1.heap.size 3 .i64 (.slice A2 q.length c2) (ints q) ∧ Below w.heap.size w wr) (fun z _ => q.length - (intOf z).toNat)
        case atStart => exact ⟨0, Nat.zero_le _, rfl, HS.out.1, HS.out.2.1, HS.out.2.2⟩
        case round =>
          have hfit := hide (HS.out.1.1.lt)
          clear HS
          obtain ⟨wv, rfl⟩ : ∃ x, x = wr := ⟨_, rfl⟩
          obtain ⟨m, hm, rfl, hq, ho, hb⟩ := hrel
          by_cases hlm : m < q.length
          · obtain ⟨x, hx⟩ : ∃ x, q[m]? = some x := ⟨_, List.getElem?_eq_getElem hlm⟩
            obtain ⟨b, off, rfl, hbl, cx⟩ := rd_at ho.rd (k := m) (x := (x : Int)) (by rw [ints_get, hx]; rfl)
            have hlm' : (m : Int) < q.length := by omega
            have hdr : q.drop m = x :: q.drop (m + 1) := by
              have h2 := List.getElem?_eq_some_iff.1 hx
              obtain ⟨h3, h4⟩ := h2
              rw [List.drop_eq_getElem_cons h3, h4]
            rw [hdr] at hq
            have hxn : x < n := hfit.out x (List.mem_of_getElem? hx)
            have hxn' : ¬ ((x : Int) ≥ n) := by omega
            have hx0 : ¬ ((x : Int) < 0) := by omega
            obtain ⟨k0, y, hk0, hp0, hpop⟩ := (ringShop n).pop hq (by simp)
            obtain rfl : k0 = 0 := hp0
            obtain rfl : x = y := by simpa using hk0
            have HP := hide hpop
            have H2 := hide (And.intro ho hb)
            clear hq ho hb hpop hx hdr hk0
            go_wp2_with fail
            refine HP.out.mono ?_
            rintro en w2 ⟨rfl, hq2, hf2⟩
            have hW3 : (ringShop n).W = 3 := rfl
            have ho2 := H2.out.1.frmS hf2 (fun g hg hm => by have h1 := (H2.out.1.size g hg).1; have h2 := (mem_blocks.1 hm).2; omega)
            have hb2 := H2.out.2.trans (hf2.toBelow (fun g hg => (mem_blocks.1 hg).1) H2.out.2.size)
            have hq2 : QRing w2 w.heap.size n (q.drop (m + 1)) := hq2
            have H3 := hide (And.intro hq2 (And.intro ho2 hb2))
            clear hq2 ho2 hb2 hf2 H2 HP
            go_wp2_with fail
            go_roundw
            case rel => exact ⟨m + 1, by omega, by go_num, H3.out.1, H3.out.2.1, H3.out.2.2⟩
            case measure => simp [intOf]; omega
          · obtain rfl : m = q.length := by omega
            rw [List.drop_length] at hq
            have H3 := hide (And.intro hq hb)
            clear hq ho hb
            go_wp2_with (first | (go_at_call 16; refine ((ringShop n).len H3.out.1).mono ?_; rintro en w' ⟨rfl, rfl⟩))
            refine (works_any _).mono ?_
            rintro en w4 ⟨rfl, hb4⟩
            have HB4 := hide (H3.out.2.trans (hb4.mono H3.out.2.size))
            clear hb4 H3
            go_wp2_with fail
            go_ret
            exact ⟨by simp, HB4.out⟩
end Go.Proofs.Ythdjgbkooeabfaa

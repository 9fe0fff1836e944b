/-
  Layer 7 (scc), the reference: ready.
-/
import Derived.Test.YtakojoedifhcnaaTRefOn
import Derived.Test.YtakojoedifhcnaaLists
namespace Go.Proofs.Ytakojoedifhcnaa
open Go.RowKit

/-- Of the nodes in part, what can be reached is in part or done. -/
def readyB (n : Nat) (M : Nat → Nat → Bool) (part : List Int) (dn : Nat → Bool) : Bool := part.all fun x => (List.range n).all fun k => !(M x.toNat k && !(decide ((k : Int) ∈ part)) && !(dn k))
def rowOk (n : Nat) (M : Nat → Nat → Bool) (part : List Int) (dn : Nat → Bool) (x : Nat) : Prop := ∀ k, k < n → M x k = true → (k : Int) ∈ part ∨ dn k = true
theorem readyB_true {n : Nat} {M : Nat → Nat → Bool} {part : List Int} {dn : Nat → Bool} (h : ∀ x ∈ part, rowOk n M part dn x.toNat) : readyB n M part dn = true := by
  unfold readyB
  rw [List.all_eq_true]
  intro x hx
  rw [List.all_eq_true]
  intro k hk
  have := h x hx k (List.mem_range.1 hk)
  cases hm : M x.toNat k with
  | false => rfl
  | true =>
    rcases this hm with c | c
    · simp [c]
    · simp [c]
theorem readyB_false {n : Nat} {M : Nat → Nat → Bool} {part : List Int} {dn : Nat → Bool} {x k : Nat} (hx : (x : Int) ∈ part) (hk : k < n) (h1 : M x k = true) (h2 : (k : Int) ∉ part) (h3 : dn k = false) : readyB n M part dn = false := by
  unfold readyB
  rw [List.all_eq_false]
  refine ⟨x, hx, ?_⟩
  rw [Bool.not_eq_true, List.all_eq_false]
  exact ⟨k, List.mem_range.2 hk, by simp [h1, h2, h3]⟩

set_option maxRecDepth 100000 in
set_option maxHeartbeats 4000000 in
theorem ready_any (A : Option Addr) (n cs base : Nat) (rs : List Nat) (M : Nat → Nat → Bool) (pv dv : Value) (pt : List Int) (dn : Nat → Bool) (w : World) (hM : BMat w base (.slice A n cs) n rs M) (hrs : rs.length = n) (hp : Rd w .i64 pv pt) (hpt : ∀ z ∈ pt, ∃ x : Nat, z = x ∧ x < n) (hd : RdV w dv (bl n dn)) (hN : n ≤ 65536) :
    Calls Try.prog 20 #[.slice A n cs, pv, dv] w fun en w' => en = .returned (.bool (readyB n M pt dn)) ∧ Below w.heap.size w w' := by
  have HM := hide hM
  have HRS := hide hrs
  have HPT := hide hpt
  have hcs9 : cs ≤ 9223372036854775807 := by obtain ⟨_, _, e, _, h, -⟩ := hM.own.rd; injection e with e1 e2 e3; subst e3; unfold maxLen at h; omega
  have HP := hide hp
  have HD := hide hd
  obtain ⟨Ap, cp, rfl, hp1, hp2, -⟩ := hp
  have hcp9 : cp ≤ 9223372036854775807 := by unfold maxLen at hp2; omega
  obtain ⟨Ad, cd, e0, hd1, hd2, -⟩ := hd
  rw [bl_len] at e0 hd1
  subst e0
  have hcd9 : cd ≤ 9223372036854775807 := by unfold maxLen at hd2; omega
  have hmk := run_made w 32 4 (.bool false) 1 Try.underlying32 infoBool rfl (by omega) n (by omega)
  obtain ⟨w1, h1⟩ : ∃ x, w.alloc (.cells (madeCells #[.bool false] n) 4) = x := ⟨_, rfl⟩
  have HI1 : Hid (OwnV w1 w.heap.size 4 (.slice (some ⟨w.heap.size, 0, none⟩) n n) (bl n (fun x => decide ((x : Int) ∈ pt.take 0)))) := hide (by
    rw [bl_congr (h := fun _ => false) (fun i _ => by simp), bl_false, ← h1]
    exact own_madeV w 4 (.bool false) n w.heap.size (by unfold maxLen; omega) (Nat.le_refl _))
  have HB1 : Hid (Below w.heap.size w w1) := hide (by rw [← h1]; exact (Below.refl _ _).alloc (Nat.le_refl _) _)
  clear hM hrs hpt hp2 hd2
  go_enter Try.func20, Try.ntmps20
  go_wp2_with fail
  clear h1 hmk
  go_loopw [18] (fun z wr => ∃ j : Nat, j ≤ pt.length ∧ z = .int .i64 (j : Nat) ∧ Hid (OwnV wr w.heap.size 4 (.slice (some ⟨w.heap.size, 0, none⟩) n n) (bl n (fun x => decide ((x : Int) ∈ pt.take j)))) ∧ Hid (Below w.heap.size w wr)) (fun z _ => pt.length - (intOf z).toNat)
  case atStart => exact ⟨0, Nat.zero_le _, rfl, HI1, HB1⟩
  case round =>
    clear HI1 HB1
    obtain ⟨wq, rfl⟩ : ∃ x, x = wr := ⟨_, rfl⟩
    obtain ⟨j, hj, rfl, HI, HB⟩ := hrel
    by_cases hlt : j < pt.length
    · have hlt' : (j : Int) < pt.length := by omega
      obtain ⟨z, hz⟩ : ∃ z, pt[j]? = some z := ⟨_, List.getElem?_eq_getElem hlt⟩
      obtain ⟨y, rfl, hy⟩ := HPT.out z (List.mem_of_getElem? hz)
      obtain ⟨b, off, rfl, hbl, cx⟩ := rd_at (HP.out.below' HB.out) hz
      have hy' : (y : Int) < n := by omega
      have fd := HI.out.freeAt y
      have cdd := HI.out.cellAt (bl_get (fun x => decide ((x : Int) ∈ pt.take j)) hy)
      have HMT := hide (fun x : Int => mem_take hz x)
      have hset := HI.out.set y (.bool true)
      rw [bl_set (g := fun x => decide ((x : Int) ∈ pt.take (j + 1))) (by rw [HMT.out]; simp) (fun i hi => by
        rw [HMT.out, decide_eq_false (show ¬ ((i : Int) = (y : Int)) by omega), Bool.or_false])] at hset
      have HS := hide hset
      clear hset hz hbl
      go_wp2_with fail
      go_roundw
      case rel => exact ⟨j + 1, by omega, by go_num, HS, hide (HB.out.setCell (p := ⟨w.heap.size, y, none⟩) (Nat.le_refl _) _)⟩
      case measure => simp [intOf]; omega
    · obtain rfl : j = pt.length := by omega
      have hI := HI.out
      rw [List.take_length] at hI
      have HI2 := hide hI
      clear hI HI
      go_wp2_with fail
      go_loopw [28] (fun z wr => ∃ j : Nat, j ≤ pt.length ∧ z = .int .i64 (j : Nat) ∧ Hid (∀ x ∈ pt.take j, rowOk n M pt dn x.toNat) ∧ Hid (Below wq.heap.size wq wr)) (fun z _ => pt.length - (intOf z).toNat)
      case atStart => exact ⟨0, Nat.zero_le _, rfl, hide (fun x hx => by simp at hx), hide (Below.refl _ _)⟩
      case round =>
        obtain ⟨wp, rfl⟩ : ∃ x, x = wr := ⟨_, rfl⟩
        obtain ⟨j, hj, rfl, HOK, HBP⟩ := hrel
        by_cases hlt : j < pt.length
        · have hlt' : (j : Int) < pt.length := by omega
          obtain ⟨z, hz⟩ : ∃ z, pt[j]? = some z := ⟨_, List.getElem?_eq_getElem hlt⟩
          obtain ⟨x, rfl, hx⟩ := HPT.out z (List.mem_of_getElem? hz)
          have HBW := hide (HB.out.trans (HBP.out.mono HB.out.size))
          obtain ⟨b, off, rfl, hbl, cx⟩ := rd_at (HP.out.below' HBW.out) hz
          have hx' : (x : Int) < n := by omega
          have HZ := hide hz
          obtain ⟨rx, hrx⟩ : ∃ r, rs[x]? = some r := ⟨_, List.getElem?_eq_getElem (by rw [HRS.out]; exact hx)⟩
          have HRX := hide hrx
          clear hz hbl hrx
          go_wp2_with fail
          clear cx
          go_loopw [12] (fun z wr => ∃ k : Nat, k ≤ n ∧ z = .int .i64 (k : Nat) ∧ Hid (∀ i, i < k → M x i = true → (i : Int) ∈ pt ∨ dn i = true) ∧ Hid (Below wq.heap.size wq wr)) (fun z _ => n - (intOf z).toNat)
          case atStart => exact ⟨0, Nat.zero_le _, rfl, hide (fun i hi => by omega), HBP⟩
          case round =>
            clear HBP HBW
            obtain ⟨wo, rfl⟩ : ∃ x, x = wr := ⟨_, rfl⟩
            obtain ⟨k, hk, rfl, HRO, HBP⟩ := hrel
            have HBW := hide (HB.out.trans (HBP.out.mono HB.out.size))
            by_cases hltk : k < n
            · have hltk' : (k : Int) < n := by omega
              have hMo := HM.out.still HBW.out
              obtain ⟨D, rfl, c1⟩ := hMo.head HRX.out
              have c2 := hMo.bit HRX.out hltk
              have c3 := (HI2.out.below' HBP.out).cellAt (bl_get (fun x => decide ((x : Int) ∈ pt)) hltk)
              obtain ⟨b4, off4, e4, -, c4⟩ := (HD.out.below' HBW.out).at k _ (bl_get dn hltk)
              subst e4
              have next : (M x k = true → (k : Int) ∈ pt ∨ dn k = true) → ∀ i, i < k + 1 → M x i = true → (i : Int) ∈ pt ∨ dn i = true := fun h i hi hm => by
                by_cases e : i = k
                · subst e; exact h hm
                · exact HRO.out i (by omega) hm
              have HNX := hide next
              clear hMo next
              cases hm : M x k with
              | false =>
                rw [hm] at c2
                have HN2 := hide (HNX.out (fun h => by rw [hm] at h; cases h))
                clear hm
                go_wp2_with fail
                go_roundw
                case rel => exact ⟨k + 1, by omega, by go_num, HN2, HBP⟩
                case measure => simp [intOf]; omega
              | true =>
                rw [hm] at c2
                cases hi : decide ((k : Int) ∈ pt) with
                | true =>
                  rw [hi] at c3
                  have HN2 := hide (HNX.out (fun _ => .inl (of_decide_eq_true hi)))
                  clear hm hi
                  go_wp2_with fail
                  go_roundw
                  case rel => exact ⟨k + 1, by omega, by go_num, HN2, HBP⟩
                  case measure => simp [intOf]; omega
                | false =>
                  rw [hi] at c3
                  cases hdk : dn k with
                  | true =>
                    rw [hdk] at c4
                    have HN2 := hide (HNX.out (fun _ => .inr hdk))
                    clear hm hi hdk
                    go_wp2_with fail
                    go_roundw
                    case rel => exact ⟨k + 1, by omega, by go_num, HN2, HBP⟩
                    case measure => simp [intOf]; omega
                  | false =>
                    rw [hdk] at c4
                    have HF := hide (readyB_false (List.mem_of_getElem? HZ.out) hltk hm (of_decide_eq_false hi) hdk)
                    clear hm hi hdk
                    go_wp2_with fail
                    go_ret
                    exact ⟨by rw [HF.out]; rfl, HBW.out⟩
            · obtain rfl : k = n := by omega
              have HO2 : Hid (∀ y ∈ pt.take (j + 1), rowOk k M pt dn y.toNat) := hide (by
                intro y hy
                rw [List.take_add_one, HZ.out] at hy
                rcases List.mem_append.1 hy with hy | hy
                · exact HOK.out y hy
                · have : y = (x : Int) := by simpa using hy
                  subst this
                  exact HRO.out)
              go_wp2_with fail
              go_roundw
              case rel => exact ⟨j + 1, by omega, by go_num, HO2, HBP⟩
              case measure => simp [intOf]; omega
        · obtain rfl : j = pt.length := by omega
          have hO := HOK.out
          rw [List.take_length] at hO
          have HT := hide (readyB_true hO)
          have HBW := hide (HB.out.trans (HBP.out.mono HB.out.size))
          clear hO
          go_wp2_with fail
          go_ret
          exact ⟨by rw [HT.out]; rfl, HBW.out⟩
end Go.Proofs.Ytakojoedifhcnaa

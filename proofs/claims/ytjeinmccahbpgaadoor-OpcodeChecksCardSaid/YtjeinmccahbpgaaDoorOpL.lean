/-
  Layer 12 (opcode): Lookup and TypeByName of both, for any name.
-/
import Derived.Deep.Strs
import Derived.Deep.MidRow
import Derived.Test.YtjeinmccahbpgaaDoorOpA
namespace Go.Proofs.YtjeinmccahbpgaaDoor
open Go.RowKit

/-- The first number from j on, of n, that p holds of. -/
def firstP (p : Nat → Bool) : Nat → Nat → Option Nat
  | 0, _ => none
  | n + 1, j => if p j then some j else firstP p n (j + 1)
def isNm (s : List UInt8) (j : Nat) : Bool := decide (0 < j) && decide (opNames[j]? = some s)
def isTn (s : List UInt8) (j : Nat) : Bool := decide (tyNames[j]? = some s)
def lookM (s : List UInt8) : Option Nat := firstP (isNm s) 34 0
def tlookM (s : List UInt8) : Option Nat := firstP (isTn s) 8 0
def numO : Option Nat → Int
  | some j => (j : Int)
  | none => 0
theorem firstP_step {p : Nat → Bool} {n k : Nat} (hk : k < n) (h : p k = false) : firstP p (n - k) k = firstP p (n - (k + 1)) (k + 1) := by
  obtain ⟨m, hm⟩ : ∃ m, n - k = m + 1 := ⟨n - k - 1, by omega⟩
  rw [hm, show n - (k + 1) = m by omega, firstP, h]; rfl
theorem firstP_hit {p : Nat → Bool} {n k : Nat} (hk : k < n) (h : p k = true) : firstP p (n - k) k = some k := by
  obtain ⟨m, hm⟩ : ∃ m, n - k = m + 1 := ⟨n - k - 1, by omega⟩
  rw [hm, firstP, h]; rfl

theorem run_index_str (t : TypeId) (n : Nat) (V : List Value) (i : Nat) (s : ByteArray) (hu : Tryd.prog.underlying t = some (.array n 9)) (hi : i < n) (hv : V[i]? = some (.string s)) (W : World) :
    Sem.run Tryd.prog (Instr.index t (.agg V.toArray) (.int .i64 (i : Int))) W = .ok (.string s) W := by
  have hs : ∀ W, (sizeOf 9).run Tryd.prog W = .ok 1 W := fun W => by kernel_rfl
  have ha : ∀ W, (isAgg 9).run Tryd.prog W = .ok false W := fun W => by kernel_rfl
  have hn : (0 : Int) ≤ (i : Int) ∧ (i : Int) < (n : Int) := by omega
  have hv' : V.toArray[i]? = some (.string s) := by simpa using hv
  simp [Instr.index, Sem.run_bind, run_underlying hu, asIntOf, hi, hs, part, ha, hv, go_sem]

set_option maxRecDepth 100000 in
theorem look_any (s : ByteArray) (w : World) (hT : OpTab w) : Calls Tryd.prog 32 #[.string s] w fun e w' => e = .returned (.tuple #[.int .i64 (numO (lookM s.toList)), .bool (lookM s.toList).isSome]) ∧ w = w' := by
  obtain ⟨l, hl⟩ : ∃ l, lookM s.toList = l := ⟨_, rfl⟩
  have hl0 : firstP (isNm s.toList) (34 - 0) 0 = l := hl
  rw [hl]
  clear hl
  obtain ⟨V, hV⟩ : ∃ V : List Value, opNames.map (fun s : List UInt8 => Value.string ⟨List.toArray s⟩) = V := ⟨_, rfl⟩
  have hVl : V.length = 34 := by rw [← hV]; rfl
  have hVi : ∀ (k : Nat) (s : List UInt8), opNames[k]? = some s → V[k]? = some (Value.string ⟨List.toArray s⟩) := fun k s h => by rw [← hV, List.getElem?_map, h]; rfl
  have hR : w.rangeAt 1 0 V := fun j v hv => by
    rw [← hV, List.getElem?_map, Option.map_eq_some_iff] at hv
    obtain ⟨s, h1, rfl⟩ := hv
    rw [Nat.zero_add]; exact hT.names j s h1
  clear hV
  have hu : Tryd.prog.underlying 84 = some (.array 34 9) := by kernel_rfl
  have hi : (Tryd.prog.info? 84).map (·.size) = some V.length := by rw [hVl]; kernel_rfl
  go_enter Tryd.func32, Tryd.ntmps32
  go_upto_region 1 with fail
  refine wp_region_lit ?_
  refine wpList_load_mid (by rfl) _ _ rfl 1 0 (by rfl) V _ hR hu rfl hi ?_
  go_wp2_with fail
  clear hR hi hT
  go_loop [7] (fun v => ∃ k : Nat, v = .int .i64 (k : Int) ∧ k ≤ 34 ∧ firstP (isNm s.toList) (34 - k) k = l) (fun v => 34 - (intOf v).toNat)
  case atStart => exact ⟨0, rfl, by omega, hl0⟩
  case round =>
    obtain ⟨k, rfl, hk, hI⟩ := hrel
    rcases Nat.lt_or_ge k 34 with hlt | hge
    · obtain ⟨nm, hnm⟩ : ∃ nm, opNames[k]? = some nm := ⟨_, List.getElem?_eq_getElem (by exact hlt)⟩
      have hix := fun W => run_index_str 84 34 V k _ hu hlt (hVi k nm hnm) W
      clear hVi hu
      by_cases hm : nm = s.toList
      · by_cases h0 : k = 0
        · have hp : isNm s.toList k = false := by simp [isNm, h0]
          have hop : isOp (k : Int) = false := by rw [h0]; rfl
          clear h0
          have hnext := (firstP_step (p := isNm s.toList) hlt hp).symm.trans hI
          clear hI hnm hp
          subst hm
          go_wp2_with fail
          refine (isop_any _ _).mono ?_
          rintro en wn ⟨rfl, rfl⟩
          rw [hop]
          go_wp2_with fail
          go_round
          case rel => exact ⟨k + 1, by go_num, by omega, hnext⟩
          case measure => simp [intOf]; omega
        · have hp : isNm s.toList k = true := by simp [isNm, hnm, hm]; omega
          have hit : some k = l := (firstP_hit (p := isNm s.toList) hlt hp).symm.trans hI
          have hop : isOp (k : Int) = true := by simp [isOp]; omega
          clear hI hnm hp
          subst hm
          go_wp2_with fail
          refine (isop_any _ _).mono ?_
          rintro en wn ⟨rfl, rfl⟩
          rw [hop]
          go_wp2_with fail
          subst hit
          refine bodyPost_ret (v := .tuple #[.int .i64 (k : Int), .bool true]) ?_ rfl ⟨rfl, rfl⟩
          simp [results, Tryd.f32, go_sem]
      · have hp : isNm s.toList k = false := by simp [isNm, hnm, hm]
        have hnext := (firstP_step (p := isNm s.toList) hlt hp).symm.trans hI
        clear hI hnm hp
        go_wp2_with fail
        all_goals first | rfl | exact ⟨⟨k + 1, by go_num, by omega, hnext⟩, by simp [intOf]; omega⟩
    · obtain rfl : k = 34 := by omega
      subst hI
      clear hVi hu
      go_wp2_with fail
      refine bodyPost_ret (v := .tuple #[.int .i64 0, .bool false]) ?_ rfl ⟨rfl, rfl⟩
      simp [results, Tryd.f32, go_sem]

set_option maxRecDepth 100000 in
theorem tlook_any (s : ByteArray) (w : World) (hT : OpTab w) : Calls Tryd.prog 34 #[.string s] w fun e w' => e = .returned (.tuple #[.int .i64 (numO (tlookM s.toList)), .bool (tlookM s.toList).isSome]) ∧ w = w' := by
  obtain ⟨l, hl⟩ : ∃ l, tlookM s.toList = l := ⟨_, rfl⟩
  have hl0 : firstP (isTn s.toList) (8 - 0) 0 = l := hl
  rw [hl]
  clear hl
  obtain ⟨V, hV⟩ : ∃ V : List Value, tyNames.map (fun s : List UInt8 => Value.string ⟨List.toArray s⟩) = V := ⟨_, rfl⟩
  have hVl : V.length = 8 := by rw [← hV]; rfl
  have hVi : ∀ (k : Nat) (s : List UInt8), tyNames[k]? = some s → V[k]? = some (Value.string ⟨List.toArray s⟩) := fun k s h => by rw [← hV, List.getElem?_map, h]; rfl
  have hR : w.rangeAt 2 0 V := fun j v hv => by
    rw [← hV, List.getElem?_map, Option.map_eq_some_iff] at hv
    obtain ⟨s, h1, rfl⟩ := hv
    rw [Nat.zero_add]; exact hT.types j s h1
  clear hV
  have hu : Tryd.prog.underlying 81 = some (.array 8 9) := by kernel_rfl
  have hi : (Tryd.prog.info? 81).map (·.size) = some V.length := by rw [hVl]; kernel_rfl
  go_enter Tryd.func34, Tryd.ntmps34
  go_upto_region 1 with fail
  refine wp_region_lit ?_
  refine wpList_load_mid (by rfl) _ _ rfl 2 0 (by rfl) V _ hR hu rfl hi ?_
  go_wp2_with fail
  clear hR hi hT
  go_loop [7] (fun v => ∃ k : Nat, v = .int .i64 (k : Int) ∧ k ≤ 8 ∧ firstP (isTn s.toList) (8 - k) k = l) (fun v => 8 - (intOf v).toNat)
  case atStart => exact ⟨0, rfl, by omega, hl0⟩
  case round =>
    obtain ⟨k, rfl, hk, hI⟩ := hrel
    rcases Nat.lt_or_ge k 8 with hlt | hge
    · obtain ⟨nm, hnm⟩ : ∃ nm, tyNames[k]? = some nm := ⟨_, List.getElem?_eq_getElem (by exact hlt)⟩
      have hix := fun W => run_index_str 81 8 V k _ hu hlt (hVi k nm hnm) W
      clear hVi hu
      by_cases hm : nm = s.toList
      · have hp : isTn s.toList k = true := by simp [isTn, hnm, hm]
        have hit : some k = l := (firstP_hit (p := isTn s.toList) hlt hp).symm.trans hI
        clear hI hnm hp
        subst hm
        go_wp2_with fail
        subst hit
        refine bodyPost_ret (v := .tuple #[.int .i64 (k : Int), .bool true]) ?_ rfl ⟨rfl, rfl⟩
        simp [results, Tryd.f34, go_sem]
      · have hmB : (nm == s.toList) = false := by simpa using hm
        have hp : isTn s.toList k = false := by simp [isTn, hnm, hm]
        have hnext := (firstP_step (p := isTn s.toList) hlt hp).symm.trans hI
        clear hI hnm hp
        go_wp2_with fail
        all_goals first | rfl | exact ⟨⟨k + 1, by go_num, by omega, hnext⟩, by simp [intOf]; omega⟩
    · obtain rfl : k = 8 := by omega
      subst hI
      clear hVi hu
      go_wp2_with fail
      refine bodyPost_ret (v := .tuple #[.int .i64 0, .bool false]) ?_ rfl ⟨rfl, rfl⟩
      simp [results, Tryd.f34, go_sem]

set_option maxRecDepth 100000 in
theorem rlook_any (s : ByteArray) (w : World) : Calls Tryd.prog 33 #[.string s] w fun e w' => e = .returned (.tuple #[.int .i64 (numO (lookM s.toList)), .bool (lookM s.toList).isSome]) ∧ Below w.heap.size w w' := by
  obtain ⟨l, hl⟩ : ∃ l, lookM s.toList = l := ⟨_, rfl⟩
  have hl0 : firstP (isNm s.toList) (34 - 0) 0 = l := hl
  rw [hl]
  clear hl
  go_enter Tryd.func33, Tryd.ntmps33
  go_wp2_with fail
  refine (rops_any _).mono ?_
  rintro en wn ⟨b, rfl, hb, hc⟩
  go_wp2_with fail
  have HB := hide hb
  clear hb
  go_loop [8] (fun v => ∃ k : Nat, v = .int .i64 (k : Int) ∧ k ≤ 34 ∧ firstP (isNm s.toList) (34 - k) k = l) (fun v => 34 - (intOf v).toNat)
  case atStart => exact ⟨0, rfl, by omega, hl0⟩
  case round =>
    obtain ⟨k, rfl, hk, hI⟩ := hrel
    rcases Nat.lt_or_ge k 34 with hlt | hge
    · obtain ⟨nm, hnm⟩ : ∃ nm, opNames[k]? = some nm := ⟨_, List.getElem?_eq_getElem (by exact hlt)⟩
      have hcell := hc k nm hnm
      clear hc
      by_cases hm : isNm s.toList k = true
      · have hit : some k = l := (firstP_hit (p := isNm s.toList) hlt hm).symm.trans hI
        have hm' : nm = s.toList := by simp [isNm, hnm] at hm; exact hm.2
        have HP : Hid (0 < k) := hide (by simp [isNm] at hm; omega)
        clear hI hnm hm
        subst hm'
        go_wp2_with fail
        all_goals
          first
            | (exfalso; exact absurd HP.out (by assumption))
            | (subst hit
               refine bodyPost_ret (v := .tuple #[.int .i64 (k : Int), .bool true]) ?_ rfl ⟨rfl, HB.out⟩
               simp [results, Tryd.f33, go_sem])
      · have hm0 : isNm s.toList k = false := by simpa using hm
        have hnext := (firstP_step (p := isNm s.toList) hlt hm0).symm.trans hI
        have hmm : Hid (¬ (0 < k ∧ nm = s.toList)) := hide (fun h => by simp [isNm, hnm, h.2] at hm; omega)
        clear hI hnm hm hm0
        go_wp2_with fail
        all_goals
          first
            | (exfalso; exact hmm.out (by first | assumption | exact ⟨by assumption, by assumption⟩))
            | (exfalso; have hq := eq_of_beq (a := nm) (b := s.toList) (by assumption); exact hmm.out (by first | assumption | exact ⟨by assumption, hq⟩))
            | rfl
            | (exact ⟨⟨k + 1, by go_num, by omega, hnext⟩, by simp [intOf]; omega⟩)
    · obtain rfl : k = 34 := by omega
      subst hI
      clear hc
      go_wp2_with fail
      refine bodyPost_ret (v := .tuple #[.int .i64 0, .bool false]) ?_ rfl ⟨rfl, HB.out⟩
      simp [results, Tryd.f33, go_sem]

set_option maxRecDepth 100000 in
theorem rtlook_any (s : ByteArray) (w : World) : Calls Tryd.prog 35 #[.string s] w fun e w' => e = .returned (.tuple #[.int .i64 (numO (tlookM s.toList)), .bool (tlookM s.toList).isSome]) ∧ Below w.heap.size w w' := by
  obtain ⟨l, hl⟩ : ∃ l, tlookM s.toList = l := ⟨_, rfl⟩
  have hl0 : firstP (isTn s.toList) (8 - 0) 0 = l := hl
  rw [hl]
  clear hl
  go_enter Tryd.func35, Tryd.ntmps35
  go_wp2_with fail
  refine (rtypes_any _).mono ?_
  rintro en wn ⟨b, rfl, hb, hc⟩
  go_wp2_with fail
  have HB := hide hb
  clear hb
  go_loop [8] (fun v => ∃ k : Nat, v = .int .i64 (k : Int) ∧ k ≤ 8 ∧ firstP (isTn s.toList) (8 - k) k = l) (fun v => 8 - (intOf v).toNat)
  case atStart => exact ⟨0, rfl, by omega, hl0⟩
  case round =>
    obtain ⟨k, rfl, hk, hI⟩ := hrel
    rcases Nat.lt_or_ge k 8 with hlt | hge
    · obtain ⟨nm, hnm⟩ : ∃ nm, tyNames[k]? = some nm := ⟨_, List.getElem?_eq_getElem (by exact hlt)⟩
      have hcell := hc k nm hnm
      clear hc
      by_cases hm : isTn s.toList k = true
      · have hit : some k = l := (firstP_hit (p := isTn s.toList) hlt hm).symm.trans hI
        have hm' : nm = s.toList := by simpa [isTn, hnm] using hm
        clear hI hnm hm
        subst hm'
        go_wp2_with fail
        all_goals
          first
            | (exfalso; exact absurd HP.out (by assumption))
            | (subst hit
               refine bodyPost_ret (v := .tuple #[.int .i64 (k : Int), .bool true]) ?_ rfl ⟨rfl, HB.out⟩
               simp [results, Tryd.f35, go_sem])
      · have hm0 : isTn s.toList k = false := by simpa using hm
        have hnext := (firstP_step (p := isTn s.toList) hlt hm0).symm.trans hI
        have hmm : Hid (¬ nm = s.toList) := hide (fun h => by simp [isTn, hnm, h] at hm)
        clear hI hnm hm hm0
        go_wp2_with fail
        all_goals
          first
            | (exfalso; exact hmm.out (by first | assumption | exact ⟨by assumption, by assumption⟩))
            | (exfalso; have hq := eq_of_beq (a := nm) (b := s.toList) (by assumption); exact hmm.out (by first | assumption | exact ⟨by assumption, hq⟩))
            | rfl
            | (exact ⟨⟨k + 1, by go_num, by omega, hnext⟩, by simp [intOf]; omega⟩)
    · obtain rfl : k = 8 := by omega
      subst hI
      clear hc
      go_wp2_with fail
      refine bodyPost_ret (v := .tuple #[.int .i64 0, .bool false]) ?_ rfl ⟨rfl, HB.out⟩
      simp [results, Tryd.f35, go_sem]
end Go.Proofs.YtjeinmccahbpgaaDoor

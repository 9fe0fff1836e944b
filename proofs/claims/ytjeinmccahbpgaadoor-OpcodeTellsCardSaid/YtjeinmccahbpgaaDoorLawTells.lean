/-
  OpcodeTells, layer 12 (opcode).
-/
import Derived.Test.YtjeinmccahbpgaaDoorOpN
namespace Go.Proofs.YtjeinmccahbpgaaDoor
open Go.RowKit

theorem rname_any (op : Int) (w : World) : Calls Tryd.prog 39 #[.int .i64 op] w fun e w' => e = .returned (.string ⟨(nameM op).toArray⟩) ∧ Below w.heap.size w w' := by
  by_cases h1 : op < 1
  · have g1 : decide (op < 1) = true := by simpa using h1
    have hn : nameM op = [] := by simp [nameM]; intro; omega
    rw [hn]; clear h1 hn
    go_enter Tryd.func39, Tryd.ntmps39
    go_wp2_with fail
    go_ret
    exact ⟨rfl, Below.refl _ _⟩
  have g1 : decide (op < 1) = false := by simpa using h1
  by_cases h2 : 33 < op
  · have g2 : decide (33 < op) = true := by simpa using h2
    have hn : nameM op = [] := by simp [nameM]; intro; omega
    rw [hn]; clear h1 h2 hn
    go_enter Tryd.func39, Tryd.ntmps39
    go_wp2_with fail
    go_ret
    exact ⟨rfl, Below.refl _ _⟩
  have g2 : decide (33 < op) = false := by simpa using h2
  obtain ⟨k, rfl⟩ : ∃ k : Nat, op = k := ⟨op.toNat, by omega⟩
  have hk : k < 34 := by omega
  have hn : nameM k = opNames.getD k [] := by unfold nameM; rw [if_pos (by omega)]; rfl
  rw [hn]
  have hs : opNames[k]? = some (opNames.getD k []) := by rw [List.getD_eq_getElem?_getD, List.getElem?_eq_getElem (by exact hk)]; rfl
  clear hn h1 h2
  go_enter Tryd.func39, Tryd.ntmps39
  go_wp2_with fail
  refine (rops_any _).mono ?_
  rintro en wn ⟨b, rfl, hb, hc⟩
  have hcell := hc k _ hs
  have HB := hide hb
  clear hb hc hs
  go_wp2_with fail
  go_ret
  exact ⟨rfl, HB.out⟩
theorem rtname_any (t : Int) (w : World) : Calls Tryd.prog 41 #[.int .i64 t] w fun e w' => e = .returned (.string ⟨(tnameM t).toArray⟩) ∧ Below w.heap.size w w' := by
  by_cases h1 : t < 0
  · have g1 : decide (t < 0) = true := by simpa using h1
    have hn : tnameM t = [] := by simp [tnameM]; intro; omega
    rw [hn]; clear h1 hn
    go_enter Tryd.func41, Tryd.ntmps41
    go_wp2_with fail
    go_ret
    exact ⟨rfl, Below.refl _ _⟩
  have g1 : decide (t < 0) = false := by simpa using h1
  by_cases h2 : 7 < t
  · have g2 : decide (7 < t) = true := by simpa using h2
    have hn : tnameM t = [] := by simp [tnameM]; intro; omega
    rw [hn]; clear h1 h2 hn
    go_enter Tryd.func41, Tryd.ntmps41
    go_wp2_with fail
    go_ret
    exact ⟨rfl, Below.refl _ _⟩
  have g2 : decide (7 < t) = false := by simpa using h2
  obtain ⟨k, rfl⟩ : ∃ k : Nat, t = k := ⟨t.toNat, by omega⟩
  have hk : k < 8 := by omega
  have hn : tnameM k = tyNames.getD k [] := by unfold tnameM; rw [if_pos (by omega)]; rfl
  rw [hn]
  have hs : tyNames[k]? = some (tyNames.getD k []) := by rw [List.getD_eq_getElem?_getD, List.getElem?_eq_getElem (by exact hk)]; rfl
  clear hn h1 h2
  go_enter Tryd.func41, Tryd.ntmps41
  go_wp2_with fail
  refine (rtypes_any _).mono ?_
  rintro en wn ⟨b, rfl, hb, hc⟩
  have hcell := hc k _ hs
  have HB := hide hb
  clear hb hc hs
  go_wp2_with fail
  go_ret
  exact ⟨rfl, HB.out⟩
theorem beq_self {α : Type} [BEq α] [LawfulBEq α] (a : α) : (a == a) = true := by simp
set_option maxRecDepth 100000 in
set_option maxHeartbeats 4000000 in
theorem tells_law (op t : Int) (s : ByteArray) (w : World) (hT : Tab w) (hO : OpTab w) : Calls Tryd.prog 9 #[.int .i64 op, .int .i64 t, .string s] w fun e w' => e = .returned (.bool true) ∧ Below w.heap.size w w' := by
  obtain ⟨l1, hl1⟩ : ∃ x, numO (lookM s.toList) = x := ⟨_, rfl⟩
  obtain ⟨l2, hl2⟩ : ∃ x, (lookM s.toList).isSome = x := ⟨_, rfl⟩
  obtain ⟨l3, hl3⟩ : ∃ x, numO (tlookM s.toList) = x := ⟨_, rfl⟩
  obtain ⟨l4, hl4⟩ : ∃ x, (tlookM s.toList).isSome = x := ⟨_, rfl⟩
  obtain ⟨n1, hn1⟩ : ∃ x : ByteArray, ⟨(nameM op).toArray⟩ = x := ⟨_, rfl⟩
  obtain ⟨n2, hn2⟩ : ∃ x : ByteArray, ⟨(tnameM t).toArray⟩ = x := ⟨_, rfl⟩
  obtain ⟨a1, ha1⟩ : ∃ x, accT t = x := ⟨_, rfl⟩
  obtain ⟨a2, ha2⟩ : ∃ x, accN t = x := ⟨_, rfl⟩
  obtain ⟨p1, hp1⟩ : ∃ x, pureM op = x := ⟨_, rfl⟩
  obtain ⟨p2, hp2⟩ : ∃ x, specM op = x := ⟨_, rfl⟩
  obtain ⟨p3, hp3⟩ : ∃ x, commM op = x := ⟨_, rfl⟩
  have HT : Hid (Tab w ∧ OpTab w ∧ Below w.heap.size w w) := hide ⟨hT, hO, Below.refl _ _⟩
  have q1 : (n1.toList == n1.toList) = true := beq_self _
  have q2 : (n2.toList == n2.toList) = true := beq_self _
  clear hT hO
  have H1 : Hid (∀ W, OpTab W → Calls Tryd.prog 32 #[.string s] W fun e w' => e = .returned (.tuple #[.int .i64 l1, .bool l2]) ∧ W = w') := hide (fun W h => by have := look_any s W h; rw [hl1, hl2] at this; exact this)
  have H2 : Hid (∀ W, Calls Tryd.prog 33 #[.string s] W fun e w' => e = .returned (.tuple #[.int .i64 l1, .bool l2]) ∧ Below W.heap.size W w') := hide (fun W => by have := rlook_any s W; rw [hl1, hl2] at this; exact this)
  have H3 : Hid (∀ W, OpTab W → Calls Tryd.prog 34 #[.string s] W fun e w' => e = .returned (.tuple #[.int .i64 l3, .bool l4]) ∧ W = w') := hide (fun W h => by have := tlook_any s W h; rw [hl3, hl4] at this; exact this)
  have H4 : Hid (∀ W, Calls Tryd.prog 35 #[.string s] W fun e w' => e = .returned (.tuple #[.int .i64 l3, .bool l4]) ∧ Below W.heap.size W w') := hide (fun W => by have := rtlook_any s W; rw [hl3, hl4] at this; exact this)
  have H5 : Hid (∀ W, Calls Tryd.prog 36 #[.int .i64 t] W fun e w' => e = .returned (.tuple #[.int .i64 a1, .int .i64 a2]) ∧ W = w') := hide (fun W => by have := acc_any t W; rw [ha1, ha2] at this; exact this)
  have H6 : Hid (∀ W, Calls Tryd.prog 37 #[.int .i64 t] W fun e w' => e = .returned (.tuple #[.int .i64 a1, .int .i64 a2]) ∧ W = w') := hide (fun W => by have := racc_any t W; rw [ha1, ha2] at this; exact this)
  have H7 : Hid (∀ W, OpTab W → Calls Tryd.prog 38 #[.int .i64 op] W fun e w' => e = .returned (.string n1) ∧ W = w') := hide (fun W h => by have := name_any op W h; rw [hn1] at this; exact this)
  have H8 : Hid (∀ W, Calls Tryd.prog 39 #[.int .i64 op] W fun e w' => e = .returned (.string n1) ∧ Below W.heap.size W w') := hide (fun W => by have := rname_any op W; rw [hn1] at this; exact this)
  have H9 : Hid (∀ W, OpTab W → Calls Tryd.prog 40 #[.int .i64 t] W fun e w' => e = .returned (.string n2) ∧ W = w') := hide (fun W h => by have := tname_any t W h; rw [hn2] at this; exact this)
  have H10 : Hid (∀ W, Calls Tryd.prog 41 #[.int .i64 t] W fun e w' => e = .returned (.string n2) ∧ Below W.heap.size W w') := hide (fun W => by have := rtname_any t W; rw [hn2] at this; exact this)
  have H11 : Hid (∀ W, Calls Tryd.prog 42 #[.int .i64 op] W fun e w' => e = .returned (.bool p1) ∧ W = w') := hide (fun W => by have := pure_any op W; rw [hp1] at this; exact this)
  have H12 : Hid (∀ W, Calls Tryd.prog 43 #[.int .i64 op] W fun e w' => e = .returned (.bool p1) ∧ W = w') := hide (fun W => by have := rpure_any op W; rw [hp1] at this; exact this)
  have H13 : Hid (∀ W, Calls Tryd.prog 44 #[.int .i64 op] W fun e w' => e = .returned (.bool p2) ∧ W = w') := hide (fun W => by have := spec_any op W; rw [hp2] at this; exact this)
  have H14 : Hid (∀ W, Calls Tryd.prog 45 #[.int .i64 op] W fun e w' => e = .returned (.bool p2) ∧ W = w') := hide (fun W => by have := rspec_any op W; rw [hp2] at this; exact this)
  have H15 : Hid (∀ W, Calls Tryd.prog 46 #[.int .i64 op] W fun e w' => e = .returned (.bool p3) ∧ W = w') := hide (fun W => by have := comm_any op W; rw [hp3] at this; exact this)
  have H16 : Hid (∀ W, Calls Tryd.prog 47 #[.int .i64 op] W fun e w' => e = .returned (.bool p3) ∧ W = w') := hide (fun W => by have := rcomm_any op W; rw [hp3] at this; exact this)
  clear hl1 hl2 hl3 hl4 hn1 hn2 ha1 ha2 hp1 hp2 hp3
  go_enter Tryd.func9, Tryd.ntmps9
  go_wp2_with fail
  refine (H1.out _ (HT.out.2.1.below HT.out.2.2)).mono ?_
  rintro en wn ⟨rfl, rfl⟩
  go_wp2_with fail
  refine (H2.out _).mono ?_
  rintro en xH2 ⟨rfl, hb⟩
  replace HT : Hid (Tab w ∧ OpTab w ∧ Below w.heap.size w xH2) := hide ⟨HT.out.1, HT.out.2.1, Below.all HT.out.2.2 hb⟩
  clear hb
  go_wp2_with fail
  refine (H3.out _ (HT.out.2.1.below HT.out.2.2)).mono ?_
  rintro en wn ⟨rfl, rfl⟩
  go_wp2_with fail
  refine (H4.out _).mono ?_
  rintro en xH4 ⟨rfl, hb⟩
  replace HT : Hid (Tab w ∧ OpTab w ∧ Below w.heap.size w xH4) := hide ⟨HT.out.1, HT.out.2.1, Below.all HT.out.2.2 hb⟩
  clear hb
  go_wp2_with fail
  refine (H5.out _).mono ?_
  rintro en wn ⟨rfl, rfl⟩
  go_wp2_with fail
  refine (H6.out _).mono ?_
  rintro en wn ⟨rfl, rfl⟩
  go_wp2_with fail
  refine (H7.out _ (HT.out.2.1.below HT.out.2.2)).mono ?_
  rintro en wn ⟨rfl, rfl⟩
  go_wp2_with fail
  refine (H8.out _).mono ?_
  rintro en xH8 ⟨rfl, hb⟩
  replace HT : Hid (Tab w ∧ OpTab w ∧ Below w.heap.size w xH8) := hide ⟨HT.out.1, HT.out.2.1, Below.all HT.out.2.2 hb⟩
  clear hb
  go_wp2_with fail
  refine (H9.out _ (HT.out.2.1.below HT.out.2.2)).mono ?_
  rintro en wn ⟨rfl, rfl⟩
  go_wp2_with fail
  refine (H10.out _).mono ?_
  rintro en xH10 ⟨rfl, hb⟩
  replace HT : Hid (Tab w ∧ OpTab w ∧ Below w.heap.size w xH10) := hide ⟨HT.out.1, HT.out.2.1, Below.all HT.out.2.2 hb⟩
  clear hb
  go_wp2_with fail
  refine (H11.out _).mono ?_
  rintro en wn ⟨rfl, rfl⟩
  go_wp2_with fail
  refine (H12.out _).mono ?_
  rintro en wn ⟨rfl, rfl⟩
  go_wp2_with fail
  refine (H13.out _).mono ?_
  rintro en wn ⟨rfl, rfl⟩
  go_wp2_with fail
  refine (H14.out _).mono ?_
  rintro en wn ⟨rfl, rfl⟩
  go_wp2_with fail
  refine (H15.out _).mono ?_
  rintro en wn ⟨rfl, rfl⟩
  go_wp2_with fail
  refine (H16.out _).mono ?_
  rintro en wn ⟨rfl, rfl⟩
  go_wp2_with fail
  refine (awake_any _ (HT.out.1.below HT.out.2.2) (HT.out.2.1.below HT.out.2.2)).mono ?_
  rintro en xe ⟨rfl, hb⟩
  replace HT : Hid (Tab w ∧ OpTab w ∧ Below w.heap.size w xe) := hide ⟨HT.out.1, HT.out.2.1, Below.all HT.out.2.2 hb⟩
  clear hb
  go_wp2_with fail
  go_ret
  exact ⟨rfl, HT.out.2.2⟩
end Go.Proofs.YtjeinmccahbpgaaDoor

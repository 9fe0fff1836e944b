/-
  The reference's Union, Subtract and Intersect of layer 3 (bitset): two sets of one capacity.
-/
import Derived.Test.YtbnikoomgeaboaaDoorRef3
namespace Go.Proofs.YtbnikoomgeaboaaDoor
open Go.RowKit

def opOr (a b : Bool) : Bool := a || b
def opSub (a b : Bool) : Bool := a && !b
def opAnd (a b : Bool) : Bool := a && b
/-- The marks behind k rounds. -/
def mix (op : Bool → Bool → Bool) (f o : Nat → Bool) (k : Nat) : Nat → Bool := fun j => if j < k then op (f j) (o j) else f j
/-- Whether k rounds have turned any. -/
def hit (op : Bool → Bool → Bool) (f o : Nat → Bool) (k : Nat) : Bool := decide (∃ j, j < k ∧ op (f j) (o j) ≠ f j)
theorem mix_zero (op : Bool → Bool → Bool) (f o : Nat → Bool) : mix op f o 0 = f := by
  funext j; simp [mix]
theorem mix_at (op : Bool → Bool → Bool) (f o : Nat → Bool) (k : Nat) : mix op f o k k = f k := by simp [mix]
theorem mix_new (op : Bool → Bool → Bool) (f o : Nat → Bool) (k : Nat) : mix op f o (k + 1) k = op (f k) (o k) := by simp [mix]
theorem mix_else (op : Bool → Bool → Bool) (f o : Nat → Bool) (k j : Nat) (h : j ≠ k) : mix op f o (k + 1) j = mix op f o k j := by
  unfold mix
  by_cases e : j < k
  · rw [if_pos (by omega), if_pos e]
  · rw [if_neg (by omega), if_neg e]
theorem mix_same (op : Bool → Bool → Bool) (f o : Nat → Bool) (k : Nat) (h : op (f k) (o k) = f k) : mix op f o (k + 1) = mix op f o k := by
  funext j
  by_cases e : j = k
  · subst e; rw [mix_new, mix_at, h]
  · exact mix_else op f o k j e
theorem hit_zero (op : Bool → Bool → Bool) (f o : Nat → Bool) : hit op f o 0 = false := by simp [hit]
theorem hit_same (op : Bool → Bool → Bool) (f o : Nat → Bool) (k : Nat) (h : op (f k) (o k) = f k) : hit op f o (k + 1) = hit op f o k := by
  unfold hit
  refine decide_eq_decide.2 ⟨?_, fun ⟨j, hj, hne⟩ => ⟨j, by omega, hne⟩⟩
  rintro ⟨j, hj, hne⟩
  by_cases e : j = k
  · subst e; exact absurd h hne
  · exact ⟨j, by omega, hne⟩
theorem hit_new (op : Bool → Bool → Bool) (f o : Nat → Bool) (k : Nat) (h : op (f k) (o k) ≠ f k) : hit op f o (k + 1) = true := by
  unfold hit
  rw [decide_eq_true_iff]
  exact ⟨k, Nat.lt_succ_self k, h⟩

set_option maxRecDepth 100000 in
set_option maxHeartbeats 1000000 in
theorem runion_set (w : World) (L R n R' : Nat) (f o : Nat → Bool) (F : List Nat) (h : RAt w L R n f F)
    (ho : ∀ (W : World) (i : Nat), Frm w W F → i ≤ n → RAt W L R n (mix opOr f o i) F → ∃ A' c', RRd W R' n c' A' ∧ (i < n → ∃ b off, A' = some ⟨b, off, none⟩ ∧ W.cell? ⟨b, off + i, none⟩ = some (.bool (o i)))) :
    Calls Tryd.prog 19 #[.pointer (some ⟨R, 0, none⟩), .pointer (some ⟨R', 0, none⟩)] w fun en w' => en = .returned (.bool (hit opOr f o n)) ∧ RAt w' L R n (mix opOr f o n) F ∧ Frm w w' F := by
  have H0 := hide h
  have HO := hide ho
  have h65 : n ≤ 65536 := by
    obtain ⟨hv, -, -, -, -, -, h65⟩ := h
    exact h65
  clear h ho
  go_enter Tryd.func19, Tryd.ntmps19
  go_wp2_with fail
  go_loopw [6, 5] (fun i ch wr => ∃ k : Nat, k ≤ n ∧ i = .int .i64 k ∧ ch = .bool (hit opOr f o k) ∧ RAt wr L R n (mix opOr f o k) F ∧ Frm w wr F) (fun i _ _ => n - (intOf i).toNat)
  case atStart => exact ⟨0, Nat.zero_le _, rfl, by rw [hit_zero], by rw [mix_zero]; exact H0.out, Frm.refl _ _⟩
  case round =>
    clear H0
    obtain ⟨wq, rfl⟩ : ∃ x, x = wr := ⟨_, rfl⟩
    obtain ⟨k, hk, rfl, rfl, hS, hf⟩ := hrel
    obtain ⟨A', c', hO, hOc⟩ := HO.out wq k hf hk hS
    obtain ⟨A, c, hrd, hcell⟩ := hS.rrd
    have HFT := hide (rfits_set wq R n c R' n c' A A' hrd hO)
    rw [decide_eq_true rfl] at HFT
    have d1 := hO.c1
    have hd9 := hO.big.2.2
    have HS := hide (And.intro hS hf)
    by_cases hlt : k < n
    · have hlt' : (k : Int) < n := by omega
      clear hrd hcell
      obtain ⟨b', off', rfl, dk⟩ := hOc hlt
      obtain ⟨B2, c2, c1, hnc, hcm, ck, fz, hz, hBF⟩ := hS.turn (g := mix opOr f o (k + 1)) (k := k) (b := opOr (f k) (o k)) hlt (mix_new _ _ _ _) (mix_else _ _ _ _)
      rw [mix_at] at ck
      have hc9 : c2 ≤ 9223372036854775807 := by unfold maxLen at hcm; omega
      have HZ := hide (And.intro hz hBF)
      obtain ⟨fk, hfk⟩ : ∃ x, x = f k := ⟨_, rfl⟩
      obtain ⟨ok, hok⟩ : ∃ x, x = o k := ⟨_, rfl⟩
      rw [← hfk] at ck
      rw [← hok] at dk
      rw [← hfk, ← hok] at HZ
      have HK := hide (And.intro hfk hok)
      clear hS hf hO hOc hz hBF hcm hfk hok
      go_wp2_with fail
      refine HFT.out.mono ?_
      rintro en w2 ⟨rfl, m, rfl⟩
      have c1' : (wq.drewN m).cell? ⟨R, 1, none⟩ = _ := c1
      have d1' : (wq.drewN m).cell? ⟨R', 1, none⟩ = _ := d1
      have ck' : (wq.drewN m).cell? ⟨B2, k, none⟩ = some (.bool fk) := ck
      have dk' : (wq.drewN m).cell? ⟨b', off' + k, none⟩ = some (.bool ok) := dk
      have fz' : (wq.drewN m).frozen? ⟨B2, k, none⟩ = false := fz
      clear c1 d1 ck dk fz HFT HO
      cases ok
      all_goals cases fk
      · have hop : opOr (f k) (o k) = f k := by rw [← HK.out.1, ← HK.out.2]; decide
        have HH := hide (And.intro (hit_same opOr f o k hop) (mix_same opOr f o k hop))
        have HW : Hid (RAt (wq.drewN m) L R n (mix opOr f o (k + 1)) F ∧ Frm w (wq.drewN m) F) := hide ⟨by rw [HH.out.2]; exact HS.out.1.frm (S := []) ((Frm.refl _ _).drewN m) (by simp), HS.out.2.drewN m⟩
        clear hop HZ HS
        go_wp2_with fail
        go_roundw
        case rel => exact ⟨k + 1, by omega, by go_num, by rw [HH.out.1], HW.out.1, HW.out.2⟩
        case measure => simp [intOf]; omega
      · have hop : opOr (f k) (o k) = f k := by rw [← HK.out.1, ← HK.out.2]; decide
        have HH := hide (And.intro (hit_same opOr f o k hop) (mix_same opOr f o k hop))
        have HW : Hid (RAt (wq.drewN m) L R n (mix opOr f o (k + 1)) F ∧ Frm w (wq.drewN m) F) := hide ⟨by rw [HH.out.2]; exact HS.out.1.frm (S := []) ((Frm.refl _ _).drewN m) (by simp), HS.out.2.drewN m⟩
        clear hop HZ HS
        go_wp2_with fail
        go_roundw
        case rel => exact ⟨k + 1, by omega, by go_num, by rw [HH.out.1], HW.out.1, HW.out.2⟩
        case measure => simp [intOf]; omega
      · have hop : opOr (f k) (o k) ≠ f k := by rw [← HK.out.1, ← HK.out.2]; decide
        have HH := hide (hit_new opOr f o k hop)
        have HW : Hid (RAt ((wq.drewN m).setCell ⟨B2, k, none⟩ (.bool true)) L R n (mix opOr f o (k + 1)) F ∧ Frm w ((wq.drewN m).setCell ⟨B2, k, none⟩ (.bool true)) F) := hide ⟨RAt.frm (w := wq.setCell ⟨B2, k, none⟩ (.bool true)) (S := []) HZ.out.1 ⟨rfl, rfl, rfl, Nat.le_refl _, fun _ _ _ => rfl⟩ (by simp), (HS.out.2.drewN m).setCell _ _ (.inl HZ.out.2)⟩
        clear hop HZ HS
        go_wp2_with fail
        go_roundw
        case rel => exact ⟨k + 1, by omega, by go_num, by rw [HH.out], HW.out.1, HW.out.2⟩
        case measure => simp [intOf]; omega
      · have hop : opOr (f k) (o k) = f k := by rw [← HK.out.1, ← HK.out.2]; decide
        have HH := hide (And.intro (hit_same opOr f o k hop) (mix_same opOr f o k hop))
        have HW : Hid (RAt (wq.drewN m) L R n (mix opOr f o (k + 1)) F ∧ Frm w (wq.drewN m) F) := hide ⟨by rw [HH.out.2]; exact HS.out.1.frm (S := []) ((Frm.refl _ _).drewN m) (by simp), HS.out.2.drewN m⟩
        clear hop HZ HS
        go_wp2_with fail
        go_roundw
        case rel => exact ⟨k + 1, by omega, by go_num, by rw [HH.out.1], HW.out.1, HW.out.2⟩
        case measure => simp [intOf]; omega
    · obtain rfl : k = n := by omega
      have c1 := hrd.c1
      have hc9 := hrd.big.2.2
      clear hcell hOc hS hf hO hrd
      go_wp2_with fail
      refine HFT.out.mono ?_
      rintro en w2 ⟨rfl, m, rfl⟩
      have hz : Hid (RAt (wq.drewN m) L R k (mix opOr f o k) F ∧ Frm w (wq.drewN m) F) := hide ⟨HS.out.1.frm (S := []) ((Frm.refl _ _).drewN m) (by simp), HS.out.2.drewN m⟩
      have c1' : (wq.drewN m).cell? ⟨R, 1, none⟩ = _ := c1
      clear HS HFT HO c1 d1
      go_wp2_with fail
      go_ret
      exact ⟨rfl, hz.out⟩

set_option maxRecDepth 100000 in
set_option maxHeartbeats 1000000 in
theorem rsub_set (w : World) (L R n R' : Nat) (f o : Nat → Bool) (F : List Nat) (h : RAt w L R n f F)
    (ho : ∀ (W : World) (i : Nat), Frm w W F → i ≤ n → RAt W L R n (mix opSub f o i) F → ∃ A' c', RRd W R' n c' A' ∧ (i < n → ∃ b off, A' = some ⟨b, off, none⟩ ∧ W.cell? ⟨b, off + i, none⟩ = some (.bool (o i)))) :
    Calls Tryd.prog 21 #[.pointer (some ⟨R, 0, none⟩), .pointer (some ⟨R', 0, none⟩)] w fun en w' => en = .returned (.bool (hit opSub f o n)) ∧ RAt w' L R n (mix opSub f o n) F ∧ Frm w w' F := by
  have H0 := hide h
  have HO := hide ho
  have h65 : n ≤ 65536 := by
    obtain ⟨hv, -, -, -, -, -, h65⟩ := h
    exact h65
  clear h ho
  go_enter Tryd.func21, Tryd.ntmps21
  go_wp2_with fail
  go_loopw [6, 5] (fun i ch wr => ∃ k : Nat, k ≤ n ∧ i = .int .i64 k ∧ ch = .bool (hit opSub f o k) ∧ RAt wr L R n (mix opSub f o k) F ∧ Frm w wr F) (fun i _ _ => n - (intOf i).toNat)
  case atStart => exact ⟨0, Nat.zero_le _, rfl, by rw [hit_zero], by rw [mix_zero]; exact H0.out, Frm.refl _ _⟩
  case round =>
    clear H0
    obtain ⟨wq, rfl⟩ : ∃ x, x = wr := ⟨_, rfl⟩
    obtain ⟨k, hk, rfl, rfl, hS, hf⟩ := hrel
    obtain ⟨A', c', hO, hOc⟩ := HO.out wq k hf hk hS
    obtain ⟨A, c, hrd, hcell⟩ := hS.rrd
    have HFT := hide (rfits_set wq R n c R' n c' A A' hrd hO)
    rw [decide_eq_true rfl] at HFT
    have d1 := hO.c1
    have hd9 := hO.big.2.2
    have HS := hide (And.intro hS hf)
    by_cases hlt : k < n
    · have hlt' : (k : Int) < n := by omega
      clear hrd hcell
      obtain ⟨b', off', rfl, dk⟩ := hOc hlt
      obtain ⟨B2, c2, c1, hnc, hcm, ck, fz, hz, hBF⟩ := hS.turn (g := mix opSub f o (k + 1)) (k := k) (b := opSub (f k) (o k)) hlt (mix_new _ _ _ _) (mix_else _ _ _ _)
      rw [mix_at] at ck
      have hc9 : c2 ≤ 9223372036854775807 := by unfold maxLen at hcm; omega
      have HZ := hide (And.intro hz hBF)
      obtain ⟨fk, hfk⟩ : ∃ x, x = f k := ⟨_, rfl⟩
      obtain ⟨ok, hok⟩ : ∃ x, x = o k := ⟨_, rfl⟩
      rw [← hfk] at ck
      rw [← hok] at dk
      rw [← hfk, ← hok] at HZ
      have HK := hide (And.intro hfk hok)
      clear hS hf hO hOc hz hBF hcm hfk hok
      go_wp2_with fail
      refine HFT.out.mono ?_
      rintro en w2 ⟨rfl, m, rfl⟩
      have c1' : (wq.drewN m).cell? ⟨R, 1, none⟩ = _ := c1
      have d1' : (wq.drewN m).cell? ⟨R', 1, none⟩ = _ := d1
      have ck' : (wq.drewN m).cell? ⟨B2, k, none⟩ = some (.bool fk) := ck
      have dk' : (wq.drewN m).cell? ⟨b', off' + k, none⟩ = some (.bool ok) := dk
      have fz' : (wq.drewN m).frozen? ⟨B2, k, none⟩ = false := fz
      clear c1 d1 ck dk fz HFT HO
      cases ok
      all_goals cases fk
      · have hop : opSub (f k) (o k) = f k := by rw [← HK.out.1, ← HK.out.2]; decide
        have HH := hide (And.intro (hit_same opSub f o k hop) (mix_same opSub f o k hop))
        have HW : Hid (RAt (wq.drewN m) L R n (mix opSub f o (k + 1)) F ∧ Frm w (wq.drewN m) F) := hide ⟨by rw [HH.out.2]; exact HS.out.1.frm (S := []) ((Frm.refl _ _).drewN m) (by simp), HS.out.2.drewN m⟩
        clear hop HZ HS
        go_wp2_with fail
        go_roundw
        case rel => exact ⟨k + 1, by omega, by go_num, by rw [HH.out.1], HW.out.1, HW.out.2⟩
        case measure => simp [intOf]; omega
      · have hop : opSub (f k) (o k) = f k := by rw [← HK.out.1, ← HK.out.2]; decide
        have HH := hide (And.intro (hit_same opSub f o k hop) (mix_same opSub f o k hop))
        have HW : Hid (RAt (wq.drewN m) L R n (mix opSub f o (k + 1)) F ∧ Frm w (wq.drewN m) F) := hide ⟨by rw [HH.out.2]; exact HS.out.1.frm (S := []) ((Frm.refl _ _).drewN m) (by simp), HS.out.2.drewN m⟩
        clear hop HZ HS
        go_wp2_with fail
        go_roundw
        case rel => exact ⟨k + 1, by omega, by go_num, by rw [HH.out.1], HW.out.1, HW.out.2⟩
        case measure => simp [intOf]; omega
      · have hop : opSub (f k) (o k) = f k := by rw [← HK.out.1, ← HK.out.2]; decide
        have HH := hide (And.intro (hit_same opSub f o k hop) (mix_same opSub f o k hop))
        have HW : Hid (RAt (wq.drewN m) L R n (mix opSub f o (k + 1)) F ∧ Frm w (wq.drewN m) F) := hide ⟨by rw [HH.out.2]; exact HS.out.1.frm (S := []) ((Frm.refl _ _).drewN m) (by simp), HS.out.2.drewN m⟩
        clear hop HZ HS
        go_wp2_with fail
        go_roundw
        case rel => exact ⟨k + 1, by omega, by go_num, by rw [HH.out.1], HW.out.1, HW.out.2⟩
        case measure => simp [intOf]; omega
      · have hop : opSub (f k) (o k) ≠ f k := by rw [← HK.out.1, ← HK.out.2]; decide
        have HH := hide (hit_new opSub f o k hop)
        have HW : Hid (RAt ((wq.drewN m).setCell ⟨B2, k, none⟩ (.bool false)) L R n (mix opSub f o (k + 1)) F ∧ Frm w ((wq.drewN m).setCell ⟨B2, k, none⟩ (.bool false)) F) := hide ⟨RAt.frm (w := wq.setCell ⟨B2, k, none⟩ (.bool false)) (S := []) HZ.out.1 ⟨rfl, rfl, rfl, Nat.le_refl _, fun _ _ _ => rfl⟩ (by simp), (HS.out.2.drewN m).setCell _ _ (.inl HZ.out.2)⟩
        clear hop HZ HS
        go_wp2_with fail
        go_roundw
        case rel => exact ⟨k + 1, by omega, by go_num, by rw [HH.out], HW.out.1, HW.out.2⟩
        case measure => simp [intOf]; omega
    · obtain rfl : k = n := by omega
      have c1 := hrd.c1
      have hc9 := hrd.big.2.2
      clear hcell hOc hS hf hO hrd
      go_wp2_with fail
      refine HFT.out.mono ?_
      rintro en w2 ⟨rfl, m, rfl⟩
      have hz : Hid (RAt (wq.drewN m) L R k (mix opSub f o k) F ∧ Frm w (wq.drewN m) F) := hide ⟨HS.out.1.frm (S := []) ((Frm.refl _ _).drewN m) (by simp), HS.out.2.drewN m⟩
      have c1' : (wq.drewN m).cell? ⟨R, 1, none⟩ = _ := c1
      clear HS HFT HO c1 d1
      go_wp2_with fail
      go_ret
      exact ⟨rfl, hz.out⟩

set_option maxRecDepth 100000 in
set_option maxHeartbeats 1000000 in
theorem rand_set (w : World) (L R n R' : Nat) (f o : Nat → Bool) (F : List Nat) (h : RAt w L R n f F)
    (ho : ∀ (W : World) (i : Nat), Frm w W F → i ≤ n → RAt W L R n (mix opAnd f o i) F → ∃ A' c', RRd W R' n c' A' ∧ (i < n → ∃ b off, A' = some ⟨b, off, none⟩ ∧ W.cell? ⟨b, off + i, none⟩ = some (.bool (o i)))) :
    Calls Tryd.prog 23 #[.pointer (some ⟨R, 0, none⟩), .pointer (some ⟨R', 0, none⟩)] w fun en w' => en = .returned (.bool (hit opAnd f o n)) ∧ RAt w' L R n (mix opAnd f o n) F ∧ Frm w w' F := by
  have H0 := hide h
  have HO := hide ho
  have h65 : n ≤ 65536 := by
    obtain ⟨hv, -, -, -, -, -, h65⟩ := h
    exact h65
  clear h ho
  go_enter Tryd.func23, Tryd.ntmps23
  go_wp2_with fail
  go_loopw [6, 5] (fun i ch wr => ∃ k : Nat, k ≤ n ∧ i = .int .i64 k ∧ ch = .bool (hit opAnd f o k) ∧ RAt wr L R n (mix opAnd f o k) F ∧ Frm w wr F) (fun i _ _ => n - (intOf i).toNat)
  case atStart => exact ⟨0, Nat.zero_le _, rfl, by rw [hit_zero], by rw [mix_zero]; exact H0.out, Frm.refl _ _⟩
  case round =>
    clear H0
    obtain ⟨wq, rfl⟩ : ∃ x, x = wr := ⟨_, rfl⟩
    obtain ⟨k, hk, rfl, rfl, hS, hf⟩ := hrel
    obtain ⟨A', c', hO, hOc⟩ := HO.out wq k hf hk hS
    obtain ⟨A, c, hrd, hcell⟩ := hS.rrd
    have HFT := hide (rfits_set wq R n c R' n c' A A' hrd hO)
    rw [decide_eq_true rfl] at HFT
    have d1 := hO.c1
    have hd9 := hO.big.2.2
    have HS := hide (And.intro hS hf)
    by_cases hlt : k < n
    · have hlt' : (k : Int) < n := by omega
      clear hrd hcell
      obtain ⟨b', off', rfl, dk⟩ := hOc hlt
      obtain ⟨B2, c2, c1, hnc, hcm, ck, fz, hz, hBF⟩ := hS.turn (g := mix opAnd f o (k + 1)) (k := k) (b := opAnd (f k) (o k)) hlt (mix_new _ _ _ _) (mix_else _ _ _ _)
      rw [mix_at] at ck
      have hc9 : c2 ≤ 9223372036854775807 := by unfold maxLen at hcm; omega
      have HZ := hide (And.intro hz hBF)
      obtain ⟨fk, hfk⟩ : ∃ x, x = f k := ⟨_, rfl⟩
      obtain ⟨ok, hok⟩ : ∃ x, x = o k := ⟨_, rfl⟩
      rw [← hfk] at ck
      rw [← hok] at dk
      rw [← hfk, ← hok] at HZ
      have HK := hide (And.intro hfk hok)
      clear hS hf hO hOc hz hBF hcm hfk hok
      go_wp2_with fail
      refine HFT.out.mono ?_
      rintro en w2 ⟨rfl, m, rfl⟩
      have c1' : (wq.drewN m).cell? ⟨R, 1, none⟩ = _ := c1
      have d1' : (wq.drewN m).cell? ⟨R', 1, none⟩ = _ := d1
      have ck' : (wq.drewN m).cell? ⟨B2, k, none⟩ = some (.bool fk) := ck
      have dk' : (wq.drewN m).cell? ⟨b', off' + k, none⟩ = some (.bool ok) := dk
      have fz' : (wq.drewN m).frozen? ⟨B2, k, none⟩ = false := fz
      clear c1 d1 ck dk fz HFT HO
      cases ok
      all_goals cases fk
      · have hop : opAnd (f k) (o k) = f k := by rw [← HK.out.1, ← HK.out.2]; decide
        have HH := hide (And.intro (hit_same opAnd f o k hop) (mix_same opAnd f o k hop))
        have HW : Hid (RAt (wq.drewN m) L R n (mix opAnd f o (k + 1)) F ∧ Frm w (wq.drewN m) F) := hide ⟨by rw [HH.out.2]; exact HS.out.1.frm (S := []) ((Frm.refl _ _).drewN m) (by simp), HS.out.2.drewN m⟩
        clear hop HZ HS
        go_wp2_with fail
        go_roundw
        case rel => exact ⟨k + 1, by omega, by go_num, by rw [HH.out.1], HW.out.1, HW.out.2⟩
        case measure => simp [intOf]; omega
      · have hop : opAnd (f k) (o k) ≠ f k := by rw [← HK.out.1, ← HK.out.2]; decide
        have HH := hide (hit_new opAnd f o k hop)
        have HW : Hid (RAt ((wq.drewN m).setCell ⟨B2, k, none⟩ (.bool false)) L R n (mix opAnd f o (k + 1)) F ∧ Frm w ((wq.drewN m).setCell ⟨B2, k, none⟩ (.bool false)) F) := hide ⟨RAt.frm (w := wq.setCell ⟨B2, k, none⟩ (.bool false)) (S := []) HZ.out.1 ⟨rfl, rfl, rfl, Nat.le_refl _, fun _ _ _ => rfl⟩ (by simp), (HS.out.2.drewN m).setCell _ _ (.inl HZ.out.2)⟩
        clear hop HZ HS
        go_wp2_with fail
        go_roundw
        case rel => exact ⟨k + 1, by omega, by go_num, by rw [HH.out], HW.out.1, HW.out.2⟩
        case measure => simp [intOf]; omega
      · have hop : opAnd (f k) (o k) = f k := by rw [← HK.out.1, ← HK.out.2]; decide
        have HH := hide (And.intro (hit_same opAnd f o k hop) (mix_same opAnd f o k hop))
        have HW : Hid (RAt (wq.drewN m) L R n (mix opAnd f o (k + 1)) F ∧ Frm w (wq.drewN m) F) := hide ⟨by rw [HH.out.2]; exact HS.out.1.frm (S := []) ((Frm.refl _ _).drewN m) (by simp), HS.out.2.drewN m⟩
        clear hop HZ HS
        go_wp2_with fail
        go_roundw
        case rel => exact ⟨k + 1, by omega, by go_num, by rw [HH.out.1], HW.out.1, HW.out.2⟩
        case measure => simp [intOf]; omega
      · have hop : opAnd (f k) (o k) = f k := by rw [← HK.out.1, ← HK.out.2]; decide
        have HH := hide (And.intro (hit_same opAnd f o k hop) (mix_same opAnd f o k hop))
        have HW : Hid (RAt (wq.drewN m) L R n (mix opAnd f o (k + 1)) F ∧ Frm w (wq.drewN m) F) := hide ⟨by rw [HH.out.2]; exact HS.out.1.frm (S := []) ((Frm.refl _ _).drewN m) (by simp), HS.out.2.drewN m⟩
        clear hop HZ HS
        go_wp2_with fail
        go_roundw
        case rel => exact ⟨k + 1, by omega, by go_num, by rw [HH.out.1], HW.out.1, HW.out.2⟩
        case measure => simp [intOf]; omega
    · obtain rfl : k = n := by omega
      have c1 := hrd.c1
      have hc9 := hrd.big.2.2
      clear hcell hOc hS hf hO hrd
      go_wp2_with fail
      refine HFT.out.mono ?_
      rintro en w2 ⟨rfl, m, rfl⟩
      have hz : Hid (RAt (wq.drewN m) L R k (mix opAnd f o k) F ∧ Frm w (wq.drewN m) F) := hide ⟨HS.out.1.frm (S := []) ((Frm.refl _ _).drewN m) (by simp), HS.out.2.drewN m⟩
      have c1' : (wq.drewN m).cell? ⟨R, 1, none⟩ = _ := c1
      clear HS HFT HO c1 d1
      go_wp2_with fail
      go_ret
      exact ⟨rfl, hz.out⟩
end Go.Proofs.YtbnikoomgeaboaaDoor

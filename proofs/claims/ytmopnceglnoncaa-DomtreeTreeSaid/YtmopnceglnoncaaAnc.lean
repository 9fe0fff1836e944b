/-
  Layer 8 (domtree): ancestors, and slices.Backward: iterators.
-/
import Derived.Test.YtmopnceglnoncaaDBase
import Derived.Test.YtmopnceglnoncaaSmall
import Derived.Deep.RegionHeld3
import Derived.RangeFuncNested
import Derived.RangeFuncBound
import Derived.RangeFuncCalls
import Derived.RangeFuncLeaves
import Derived.RangeFuncFrom
import Derived.RangeFuncBox
import Derived.Shelf.Abstract
import Derived.Shelf.RegionOpen
import Derived.WalkKit
import Derived.OwnWalkIn
import Derived.TacticsInMore
import Derived.LoopNIn
import Derived.LoopIn
namespace Go.Proofs.Ytmopnceglnoncaa
open Go.RowKit

/-- f is a tree over the first n numbers: r its root, dp the depths; -1: not in the tree. -/
structure Tr (n : Nat) (f : Nat → Int) (r : Nat) (dp : Nat → Nat) : Prop where
  rlt : r < n
  root : f r = (r : Int)
  dz : dp r = 0
  up : ∀ i, i < n → i ≠ r → f i = -1 ∨ ∃ u : Nat, f i = (u : Int) ∧ u < n ∧ f u ≠ -1 ∧ dp i = dp u + 1
def above (f : Nat → Int) (i : Nat) : Nat := (f i).toNat
def pathN (f : Nat → Int) : Nat → Nat → List Nat
  | 0, i => [i]
  | k + 1, i => i :: pathN f k (above f i)
/-- The way from i up to the root. -/
def pth (f : Nat → Int) (dp : Nat → Nat) (i : Nat) : List Nat := pathN f (dp i) i
section
variable {n r : Nat} {f : Nat → Int} {dp : Nat → Nat}
theorem pathN_len (f : Nat → Int) : ∀ k i, (pathN f k i).length = k + 1
  | 0, _ => rfl
  | k + 1, i => by unfold pathN; rw [List.length_cons, pathN_len f k]
theorem Tr.rin (T : Tr n f r dp) : f r ≠ -1 := by rw [T.root]; omega
/-- A node of the tree other than the root. -/
theorem Tr.node (T : Tr n f r dp) {i : Nat} (hi : i < n) (hf : f i ≠ -1) (hr : i ≠ r) : ∃ u : Nat, f i = (u : Int) ∧ above f i = u ∧ u < n ∧ f u ≠ -1 ∧ dp i = dp u + 1 ∧ u ≠ i ∧ pth f dp i = i :: pth f dp u := by
  rcases T.up i hi hr with h | ⟨u, h1, h2, h3, h4⟩
  · exact absurd h hf
  · have e : above f i = u := by unfold above; rw [h1]; rfl
    refine ⟨u, h1, e, h2, h3, h4, fun c => by subst c; omega, ?_⟩
    unfold pth
    rw [h4, pathN, e]
theorem Tr.ptop (T : Tr n f r dp) : pth f dp r = [r] := by unfold pth; rw [T.dz]; rfl
theorem Tr.val (T : Tr n f r dp) {i : Nat} (hi : i < n) (hf : f i ≠ -1) : ∃ u : Nat, f i = (u : Int) ∧ u < n ∧ f u ≠ -1 := by
  by_cases e : i = r
  · subst e; exact ⟨i, T.root, hi, hf⟩
  · obtain ⟨u, h1, _, h2, h3, _⟩ := T.node hi hf e
    exact ⟨u, h1, h2, h3⟩
theorem Tr.self (T : Tr n f r dp) {i : Nat} (hi : i < n) (hf : f i = (i : Int)) : i = r := by
  apply Classical.byContradiction
  intro c
  obtain ⟨u, h1, _, _, _, _, h5, _⟩ := T.node hi (by rw [hf]; omega) c
  omega
theorem pth_head (f : Nat → Int) (dp : Nat → Nat) (i : Nat) : ∃ l, pth f dp i = i :: l := by
  unfold pth
  cases dp i with
  | zero => exact ⟨[], rfl⟩
  | succ k => exact ⟨_, rfl⟩
theorem Tr.mem (T : Tr n f r dp) : ∀ k i, dp i = k → i < n → f i ≠ -1 → ∀ y ∈ pth f dp i, y < n ∧ f y ≠ -1 ∧ dp y ≤ dp i ∧ (y = i ∨ dp y < dp i) ∧ ∀ z ∈ pth f dp y, z ∈ pth f dp i := fun k => by
  induction k using Nat.strongRecOn with
  | _ k ih =>
    intro i hk hi hf y hy
    by_cases e : i = r
    · subst e
      rw [T.ptop, List.mem_singleton] at hy
      subst hy
      exact ⟨hi, hf, Nat.le_refl _, .inl rfl, fun z hz => hz⟩
    · obtain ⟨u, h1, h2, h3, h4, h5, h6, h7⟩ := T.node hi hf e
      rw [h7] at hy
      rcases List.mem_cons.1 hy with rfl | hy
      · exact ⟨hi, hf, Nat.le_refl _, .inl rfl, fun z hz => hz⟩
      · obtain ⟨a1, a2, a3, a4, a5⟩ := ih (dp u) (by omega) u rfl h3 h4 y hy
        exact ⟨a1, a2, by omega, .inr (by omega), fun z hz => by rw [h7]; exact List.mem_cons_of_mem _ (a5 z hz)⟩
theorem Tr.nodup (T : Tr n f r dp) : ∀ k i, dp i = k → i < n → f i ≠ -1 → (pth f dp i).Nodup := fun k => by
  induction k using Nat.strongRecOn with
  | _ k ih =>
    intro i hk hi hf
    by_cases e : i = r
    · subst e
      rw [T.ptop]; simp
    · obtain ⟨u, h1, h2, h3, h4, h5, h6, h7⟩ := T.node hi hf e
      rw [h7, List.nodup_cons]
      refine ⟨fun hm => ?_, ih (dp u) (by omega) u rfl h3 h4⟩
      have := (T.mem _ u rfl h3 h4 i hm).2.2.1
      omega
theorem Tr.dlt (T : Tr n f r dp) {i : Nat} (hi : i < n) (hf : f i ≠ -1) : dp i < n := by
  have h1 := nodup_len (T.nodup _ i rfl hi hf) (fun y hy => (T.mem _ i rfl hi hf y hy).1)
  unfold pth at h1
  rw [pathN_len] at h1
  omega
/-- On the way: pre has been passed, x comes now. -/
theorem Tr.step (T : Tr n f r dp) {i x : Nat} {pre : List Nat} (hx : x < n) (hf : f x ≠ -1) (hp : pth f dp i = pre ++ pth f dp x) (hr : x ≠ r) : ∃ u : Nat, f x = (u : Int) ∧ u < n ∧ f u ≠ -1 ∧ pth f dp i = (pre ++ [x]) ++ pth f dp u ∧ u ≠ x := by
  obtain ⟨u, h1, h2, h3, h4, h5, h6, h7⟩ := T.node hx hf hr
  exact ⟨u, h1, h3, h4, by rw [hp, h7]; simp, h6⟩
theorem Tr.unique (T : Tr n f r dp) {r' : Nat} {dp' : Nat → Nat} (T' : Tr n f r' dp') : r' = r ∧ ∀ i, i < n → f i ≠ -1 → dp' i = dp i := by
  have e : r' = r := T.self T'.rlt T'.root
  subst e
  refine ⟨rfl, fun i => ?_⟩
  have key : ∀ k i, dp i = k → i < n → f i ≠ -1 → dp' i = dp i := fun k => by
    induction k using Nat.strongRecOn with
    | _ k ih =>
      intro i hk hi hf
      by_cases e : i = r'
      · subst e; rw [T.dz, T'.dz]
      · obtain ⟨u, h1, h2, h3, h4, h5, _⟩ := T.node hi hf e
        obtain ⟨u', g1, g2, g3, g4, g5, _⟩ := T'.node hi hf e
        have : u' = u := by omega
        subst this
        rw [h5, g5, ih (dp u') (by omega) u' rfl h3 h4]
  exact key _ i rfl
end
end Go.Proofs.Ytmopnceglnoncaa
namespace Go.Proofs.Ytmopnceglnoncaa
open Go.RowKit

/-- Is i an index in the tree? -/
def inT (n : Nat) (f : Nat → Int) (i : Int) : Bool := decide (0 ≤ i ∧ i < n ∧ f i.toNat ≠ -1)

set_option maxRecDepth 100000 in
set_option maxHeartbeats 2000000 in
theorem inTree_any (A : Option Addr) (c n : Nat) (f : Nat → Int) (i : Int) (w : World) (hI : Rd w .i64 (.slice A n c) (fz n f)) :
    Calls Try.prog 38 #[.slice A n c, .int .i64 i] w fun en w' => en = .returned (.bool (inT n f i)) ∧ w' = w := by
  by_cases h0 : 0 ≤ i
  · obtain ⟨k, rfl⟩ := Int.eq_ofNat_of_zero_le h0
    have t1 : decide ((k : Int) ≥ 0) = true := decide_eq_true h0
    have t1' : decide (0 ≤ (k : Int)) = true := decide_eq_true h0
    by_cases h1 : k < n
    · have h1' : (k : Int) < n := by omega
      have t2 : decide ((k : Int) < (n : Int)) = true := decide_eq_true h1'
      obtain ⟨b, o, rfl, -, c1⟩ := rd_at hI (fz_get f h1)
      by_cases h2 : f k = -1
      · rw [h2] at c1
        have e : inT n f (k : Int) = false := decide_eq_false (fun h => h.2.2 h2)
        rw [e]
        clear hI h2 e
        go_enter Try.func38, Try.ntmps38
        go_wp2_with fail
        go_ret
        exact ⟨rfl, rfl⟩
      · have e : inT n f (k : Int) = true := decide_eq_true ⟨h0, h1', h2⟩
        obtain ⟨z, hz⟩ : ∃ z, f k = z := ⟨_, rfl⟩
        rw [hz] at c1 h2
        have t3 : (z != (-1 : Int)) = true := by simpa using h2
        rw [e]
        clear hI h2 e hz
        go_enter Try.func38, Try.ntmps38
        go_wp2_with fail
        go_ret
        exact ⟨rfl, rfl⟩
    · have e : inT n f (k : Int) = false := decide_eq_false (fun h => by have := h.2.1; omega)
      have t2 : decide ((k : Int) < (n : Int)) = false := decide_eq_false (by omega)
      have t2' : ¬ (k : Int) < (n : Int) := by omega
      rw [e]
      clear hI e
      go_enter Try.func38, Try.ntmps38
      go_wp2_with fail
      go_ret
      exact ⟨rfl, rfl⟩
  · have e : inT n f i = false := decide_eq_false (fun h => h0 h.1)
    have t1 : decide (i ≥ 0) = false := decide_eq_false h0
    have t1' : decide (0 ≤ i) = false := decide_eq_false h0
    rw [e]
    clear hI e
    go_enter Try.func38, Try.ntmps38
    go_wp2_with fail
    go_ret
    exact ⟨rfl, rfl⟩
theorem inT_yes {n : Nat} {f : Nat → Int} {k : Nat} (h : k < n) (hf : f k ≠ -1) : inT n f (k : Int) = true := decide_eq_true ⟨by omega, by omega, hf⟩

set_option maxRecDepth 100000 in
set_option maxHeartbeats 4000000 in
theorem linked_tree {n r : Nat} {f : Nat → Int} {dp : Nat → Nat} (T : Tr n f r dp) (A : Option Addr) (c : Nat) (w : World) (hI : Rd w .i64 (.slice A n c) (fz n f)) :
    Calls Try.prog 43 #[.slice A n c] w fun en w' => en = .returned (.bool true) ∧ w' = w := by
  have HT := hide T
  have HI := hide hI
  have hn9 : n ≤ 9223372036854775807 := by have := hI.len; rw [fz_len] at this; unfold maxLen at this; omega
  clear T hI
  go_enter Try.func43, Try.ntmps43
  go_wp2_with fail
  go_loopw [3, 8] (fun k z wr => ∃ i : Nat, i ≤ n ∧ z = .int .i64 (i : Nat) ∧ k = .int .i64 ((if r < i then 1 else 0 : Nat) : Nat) ∧ wr = w) (fun _ z _ => n - (intOf z).toNat)
  case atStart => exact ⟨0, Nat.zero_le _, rfl, rfl, rfl⟩
  case round =>
    obtain ⟨i, hi, rfl, rfl, rfl⟩ := hrel
    by_cases hlt : i < n
    · have hlt' : (i : Int) < n := by omega
      obtain ⟨b, o, rfl, -, c1⟩ := rd_at HI.out (fz_get f hlt)
      by_cases h2 : f i = -1
      · rw [h2] at c1
        have hri : i ≠ r := fun e => by subst e; exact HT.out.rin h2
        have e : (if r < i + 1 then 1 else 0 : Nat) = (if r < i then 1 else 0 : Nat) := by
          by_cases c : r < i
          · rw [if_pos c, if_pos (by omega)]
          · rw [if_neg c, if_neg (by omega)]
        have HE := hide e
        have t3 : ((-1 : Int) == (i : Int)) = false := by simp
        obtain ⟨q, hq⟩ : ∃ q, (if r < i then 1 else 0 : Nat) = q := ⟨_, rfl⟩
        rw [hq] at HE ⊢
        clear h2 e hri hq
        go_wp2_with fail
        go_roundw
        case rel => exact ⟨i + 1, by omega, by go_num, by rw [HE.out], by first | rfl | trivial⟩
        case measure => simp [intOf]; omega
      · obtain ⟨u, h3, h4, h5⟩ := HT.out.val hlt h2
        have HU := hide (inTree_any (some ⟨b, o, none⟩) c n f (u : Int) _ HI.out)
        have HU2 := hide (inT_yes h4 h5)
        rw [h3] at c1
        have t1 : ((u : Int) != (-1 : Int)) = true := by simp
        rw [HU2.out] at HU
        by_cases hur : u = i
        · have hir : i = r := HT.out.self hlt (by rw [h3, hur])
          have t3 : ((u : Int) == (i : Int)) = true := by simp [hur]
          have t4 : (u == i) = true := by simp [hur]
          have HE : Hid ((if r < i + 1 then 1 else 0 : Nat) = 1) := hide (by rw [if_pos (by omega)])
          have e0 : (if r < i then 1 else 0 : Nat) = 0 := by rw [if_neg (by omega)]
          rw [e0]
          clear h2 h3 h5 e0 hir
          subst hur
          go_wp2_with fail
          refine HU.out.mono ?_
          rintro en w2 ⟨rfl, rfl⟩
          go_wp2_with fail
          go_roundw
          case rel => exact ⟨u + 1, by omega, by go_num, by rw [HE.out]; rfl, by first | rfl | trivial⟩
          case measure => simp [intOf]; omega
        · have hir : i ≠ r := fun e => by
            subst e
            rw [HT.out.root] at h3
            omega
          have t3 : ((u : Int) == (i : Int)) = false := by simp; omega
          have t4 : (u == i) = false := by simp; omega
          have HE : Hid ((if r < i + 1 then 1 else 0 : Nat) = (if r < i then 1 else 0 : Nat)) := hide (by
            by_cases c : r < i
            · rw [if_pos c, if_pos (by omega)]
            · rw [if_neg c, if_neg (by omega)])
          obtain ⟨q, hq⟩ : ∃ q, (if r < i then 1 else 0 : Nat) = q := ⟨_, rfl⟩
          rw [hq] at HE ⊢
          clear h2 h3 h5 hir hur hq
          go_wp2_with fail
          refine HU.out.mono ?_
          rintro en w2 ⟨rfl, rfl⟩
          go_wp2_with fail
          go_roundw
          case rel => exact ⟨i + 1, by omega, by go_num, by rw [HE.out], by first | rfl | trivial⟩
          case measure => simp [intOf]; omega
    · obtain rfl : i = n := by omega
      have e0 : (if r < i then 1 else 0 : Nat) = 1 := by rw [if_pos HT.out.rlt]
      rw [e0]
      clear e0
      go_wp2_with fail
      go_ret
      exact ⟨rfl, rfl⟩
end Go.Proofs.Ytmopnceglnoncaa
namespace Go.Proofs.Ytmopnceglnoncaa
open Go.RowKit Go.Shelf

attribute [local go_sem] Oper.semAt_some

theorem Rd.blk {W W' : World} {b o n c : Nat} {l : List Int} (h : Rd W .i64 (.slice (some ⟨b, o, none⟩) n c) l) (hs : W.heap.size ≤ W'.heap.size) (hb : W'.heap[b]? = W.heap[b]?) : Rd W' .i64 (.slice (some ⟨b, o, none⟩) n c) l := by
  obtain ⟨A, c', e1, hc, hm, hr⟩ := h
  refine ⟨A, c', e1, hc, hm, fun hn => ?_⟩
  obtain ⟨b', off, e2, hlt, hcell⟩ := hr hn
  subst e2
  injection e1 with e1
  injection e1 with e1
  injection e1 with e1 e2
  subst e1
  exact ⟨_, off, rfl, Nat.lt_of_lt_of_le hlt hs, fun j z hz => (World.cell?_of_block (a := ⟨b, off + j, none⟩) hb).trans (hcell j z hz)⟩

set_option maxRecDepth 100000 in
set_option maxHeartbeats 2000000 in
/-- The iterator's body, for every loop body that keeps the list and its cell. -/
theorem anc1_in {n r : Nat} {f : Nat → Int} {dp : Nat → Nat} (T : Tr n f r dp) (m l ib lb b o c i : Nat) (Kp : World → World → Prop) (hK : ∀ W W' : World, Kp W W' → W.heap.size ≤ W'.heap.size ∧ ∀ k, k = lb ∨ k = b → W'.heap[k]? = W.heap[k]?) (J Jx : List Nat → World → Prop) (hm : 1 ≤ m) (hi : i < n) (hf : f i ≠ -1)
    (hY : ∀ pre x W, (x < n ∧ f x ≠ -1) → J pre W → pre.length < (pth f dp i).length → YieldAt Fence.wide (m - 1) Try.prog l #[.int .i64 ((x : Nat) : Int)] W fun e W' =>
      (e = .returned (.bool true) ∧ J (pre ++ [x]) W' ∧ Kp W W') ∨ (e = .returned (.bool false) ∧ Jx (pre ++ [x]) W'))
    (W : World) (hB : W.cell? ⟨ib, 0, none⟩ = some (.int .i64 (i : Nat))) (hL : W.cell? ⟨lb, 0, none⟩ = some (.slice (some ⟨b, o, none⟩) n c)) (hI : Rd W .i64 (.slice (some ⟨b, o, none⟩) n c) (fz n f)) (h0 : J [] W) :
    CallsIn Fence.wide m Try.prog 53 #[.func (.yield l) #[] #[], .pointer (some ⟨ib, 0, none⟩), .pointer (some ⟨lb, 0, none⟩)] W fun e W' => (∃ v, e = .returned v) ∧
      ((∃ ys, ys = pth f dp i ∧ J ys W') ∨ (∃ pre, pre <+: pth f dp i ∧ Jx pre W')) := by
  have HT := hide T
  have HY := hide hY
  have HST := hide (And.intro hL hI)
  have hn9 : n ≤ 9223372036854775807 := by have := hI.len; rw [fz_len] at this; unfold maxLen at this; omega
  clear hY hL hI T
  refine callsIn_of_wp Try.func53 rfl trivial ?_ rfl
  simp only [Try.ntmps53, List.size_toArray, List.length_cons, List.length_nil, Nat.reduceAdd, Nat.reduceSub, Array.replicate_succ, Array.replicate_zero, List.push_toArray, List.append_toArray, List.nil_append, List.cons_append]
  gi_wp2
  gi_loopw [4] (fun v wr => ∃ (pre : List Nat) (x : Nat), v = .int .i64 (x : Nat) ∧ x < n ∧ Hid (f x ≠ -1) ∧ Hid (pth f dp i = pre ++ pth f dp x) ∧ Hid (J pre wr) ∧ Hid (wr.cell? ⟨lb, 0, none⟩ = some (.slice (some ⟨b, o, none⟩) n c) ∧ Rd wr .i64 (.slice (some ⟨b, o, none⟩) n c) (fz n f)))
    (fun v _ => dp (intOf v).toNat)
  case atStart => exact ⟨[], i, rfl, hi, hide hf, hide rfl, hide h0, HST⟩
  case round =>
    obtain ⟨pre, x, rfl, hx, HF, HP, HJ, HS⟩ := hrel
    obtain ⟨fn, tmps, assign, body, hy, hR⟩ := HY.out pre x wr ⟨hx, HF.out⟩ HJ.out (by
      have h1 := congrArg List.length HP.out
      obtain ⟨q, hq⟩ := pth_head f dp x
      rw [hq, List.length_append, List.length_cons] at h1
      omega)
    clear hB h0
    gi_wp2
    refine hR.mono ?_
    rintro e W3 (⟨rfl, hJ3, hk3⟩ | ⟨rfl, hJx3⟩)
    · obtain ⟨hsz, hkk⟩ := hK _ _ hk3
      have hI3 := HS.out.2.blk hsz (hkk b (.inr rfl))
      have hL3 : W3.cell? ⟨lb, 0, none⟩ = some (.slice (some ⟨b, o, none⟩) n c) := (World.cell?_of_block (a := ⟨lb, 0, none⟩) (hkk lb (.inl rfl))).trans HS.out.1
      obtain ⟨b1, o1, e1, -, cx⟩ := rd_at hI3 (fz_get f hx)
      injection e1 with e1
      injection e1 with e1 e2
      subst e1 e2
      have hx' : (x : Int) < n := by omega
      have HS3 := hide (And.intro hL3 hI3)
      have HJ3 := hide hJ3
      clear hJ3 hk3 hsz hkk hI3 HS hR hy HJ
      by_cases hxr : x = r
      · subst hxr
        rw [HT.out.root] at cx
        have t1 : ((x : Int) != (x : Int)) = false := by simp
        have HPE : Hid (pre ++ [x] = pth f dp i) := hide (by rw [HP.out, HT.out.ptop])
        gi_wp2
        go_end0
        exact ⟨⟨_, rfl⟩, .inl ⟨_, HPE.out, HJ3.out⟩⟩
      · obtain ⟨u, h1, h2, h3, h4, h5⟩ := HT.out.step hx HF.out HP.out hxr
        rw [h1] at cx
        have t1 : ((u : Int) != (x : Int)) = true := by simp; omega
        have t2 : (u != x) = true := by simp; omega
        have hdu : dp u < dp x := by
          obtain ⟨u', g1, _, _, _, g2, _⟩ := HT.out.node hx HF.out hxr
          have : u' = u := by omega
          subst this
          omega
        have HH := hide (And.intro h3 h4)
        clear h1 h3 h4 h5
        gi_wp2
        go_roundw
        case rel => exact ⟨pre ++ [x], u, rfl, h2, hide HH.out.1, hide HH.out.2, HJ3, HS3⟩
        case measure => simp [intOf]; omega
    · have HPX : Hid (pre ++ [x] <+: pth f dp i) := hide (by
        obtain ⟨q, hq⟩ := pth_head f dp x
        exact ⟨q, by rw [HP.out, hq]; simp⟩)
      clear hR hy HJ HS
      gi_wp2
      go_end0
      exact ⟨⟨_, rfl⟩, .inr ⟨pre ++ [x], HPX.out, hJx3⟩⟩

/-- What a round keeps: whatever lay below n₀, but for the blocks of S. -/
def Kq (n₀ : Nat) (S : List Nat) (W W' : World) : Prop := W.heap.size ≤ W'.heap.size ∧ ∀ i, i < n₀ → i ∉ S → W'.heap[i]? = W.heap[i]?
theorem Kq.t {n₀ : Nat} {S : List Nat} {A B C : World} (h : Kq n₀ S A B) (k : Kq n₀ S B C) : Kq n₀ S A C := ⟨Nat.le_trans h.1 k.1, fun i h1 h2 => (k.2 i h1 h2).trans (h.2 i h1 h2)⟩
theorem Kq.b {n₀ : Nat} {S : List Nat} {w : World} (hn : n₀ ≤ w.heap.size) (W : World) (l : Nat) (o o' : Obj) (hl : w.heap.size ≤ l) (_ : W.heap[l]? = some o) (_ : o.isCells = false) (_ : o.isWalk = false) : Kq n₀ S W (W.putObj l o') :=
  ⟨by simp [World.putObj], fun i h1 _ => World.putObj_heap_other (by omega)⟩
theorem Kq.set {n₀ : Nat} {S : List Nat} (W : World) (p : Addr) (u : Value) (hp : p.block ∈ S ∨ n₀ ≤ p.block) : Kq n₀ S W (W.setCell p u) :=
  ⟨by simp [World.setCell], fun i h1 h2 => Below.heap_setCell W p u i (fun e => by
    rcases hp with h | h
    · exact h2 (e ▸ h)
    · omega)⟩
theorem Kq.refl (n₀ : Nat) (S : List Nat) (W : World) : Kq n₀ S W W := ⟨Nat.le_refl _, fun _ _ _ => rfl⟩
/-- Nodes with a property. -/
abbrev Nd (Pd : Nat → Prop) := {x : Nat // Pd x}
theorem anc_stops {n r : Nat} {f : Nat → Int} {dp : Nat → Nat} (T : Tr n f r dp) (m ib lb b o c i n₀ : Nat) (S : List Nat) (hm : 1 ≤ m) (hi : i < n) (hf : f i ≠ -1) (w : World) (hS : ∀ k, k = lb ∨ k = b → k < n₀ ∧ k ∉ S) (hib : ib < w.heap.size) (hlb : lb < w.heap.size) (hB : w.cell? ⟨ib, 0, none⟩ = some (.int .i64 (i : Nat))) (hL : w.cell? ⟨lb, 0, none⟩ = some (.slice (some ⟨b, o, none⟩) n c)) (hI : Rd w .i64 (.slice (some ⟨b, o, none⟩) n c) (fz n f)) :
    SeqStopsK Fence.wide m Try.prog 53 #[.pointer (some ⟨ib, 0, none⟩), .pointer (some ⟨lb, 0, none⟩)] (fun x : Nd (fun x => x < n ∧ f x ≠ -1) => #[Value.int .i64 ((x.1 : Nat) : Int)]) (Kq n₀ S) (fun ys => ys.map Subtype.val = pth f dp i) (fun pre => pre.map Subtype.val <+: pth f dp i) (pth f dp i).length w := fun l J Jx W hW _ _ hY h0 => by
  refine (anc1_in T m l ib lb b o c i (Kq n₀ S) (fun _ _ hk => ⟨hk.1, fun k hk' => hk.2 k (hS k hk').1 (hS k hk').2⟩) (fun pre W => ∃ ps : List (Nd (fun x => x < n ∧ f x ≠ -1)), ps.map Subtype.val = pre ∧ J ps W) (fun pre W => ∃ ps : List (Nd (fun x => x < n ∧ f x ≠ -1)), ps.map Subtype.val = pre ∧ Jx ps W) hm hi hf ?_ W ((hW.cell (p := ⟨ib, 0, none⟩) hib).trans hB) ((hW.cell (p := ⟨lb, 0, none⟩) hlb).trans hL) (hI.below' hW) ⟨[], rfl, h0⟩).mono ?_
  · rintro pre x W ⟨h1, h2⟩ ⟨ps, rfl, hJ⟩ hlen
    refine (hY ps ⟨x, h1, h2⟩ W hJ (by simpa using hlen)).mono ?_
    rintro e W' (⟨h3, h4, h5⟩ | ⟨h3, h4⟩)
    · exact .inl ⟨h3, ⟨_, by simp, h4⟩, h5⟩
    · exact .inr ⟨h3, _, by simp, h4⟩
  · rintro e W' ⟨h1, ⟨ys, rfl, ps, h2, h3⟩ | ⟨pre, h4, ps, rfl, h5⟩⟩
    · exact ⟨h1, .inl ⟨ps, h2, h3⟩⟩
    · exact ⟨h1, .inr ⟨ps, h4, h5⟩⟩
theorem anc_call (A : Option Addr) (n c i : Nat) (w : World) :
    Calls Try.prog 39 #[.slice A n c, .int .i64 (i : Nat)] w fun en w' => en = .returned (.func (.func 53) #[] #[.pointer (some ⟨w.heap.size + 1, 0, none⟩), .pointer (some ⟨w.heap.size, 0, none⟩)]) ∧ (w.alloc (.cells #[.slice A n c] 28)).alloc (.cells #[.int .i64 (i : Nat)] 3) = w' := by
  go_enter Try.func39, Try.ntmps39
  go_wp2_with fail
  go_ret
  exact ⟨rfl, rfl⟩

set_option maxRecDepth 100000 in
set_option maxHeartbeats 2000000 in
/-- slices.Backward's body: the places and what stands there, from the end. -/
theorem back1_in (m l lb c : Nat) (A : Option Addr) (s : List Nat) (hs9 : s.length ≤ 100000) (Kp : World → World → Prop) (hK : ∀ W W' : World, Kp W W' → W.heap.size ≤ W'.heap.size ∧ ∀ k, (k = lb ∨ ∃ o, A = some ⟨k, o, none⟩) → W'.heap[k]? = W.heap[k]?) (J Jx : List (Nat × Nat) → World → Prop) (hm : 1 ≤ m)
    (Pd : Nat → Prop) (hPd : ∀ x ∈ s, Pd x) (hY : ∀ pre x W, Pd x.2 → J pre W → pre.length < s.length → YieldAt Fence.wide (m - 1) Try.prog l #[.int .i64 ((x.1 : Nat) : Int), .int .i64 ((x.2 : Nat) : Int)] W fun e W' =>
      (e = .returned (.bool true) ∧ J (pre ++ [x]) W' ∧ Kp W W') ∨ (e = .returned (.bool false) ∧ Jx (pre ++ [x]) W'))
    (W : World) (hL : W.cell? ⟨lb, 0, none⟩ = some (.slice A s.length c)) (hI : Rd W .i64 (.slice A s.length c) (ints s)) (h0 : J [] W) :
    CallsIn Fence.wide m Try.prog 54 #[.func (.yield l) #[] #[], .pointer (some ⟨lb, 0, none⟩)] W fun e W' => (∃ v, e = .returned v) ∧
      ((∃ ys, ys = s.zipIdx.reverse.map (fun p => (p.2, p.1)) ∧ J ys W') ∨ (∃ pre, pre <+: s.zipIdx.reverse.map (fun p => (p.2, p.1)) ∧ Jx pre W')) := by
  have HY := hide hY
  have HST := hide (And.intro hL hI)
  obtain ⟨Z, hZ⟩ : ∃ Z, s.zipIdx.reverse.map (fun p => (p.2, p.1)) = Z := ⟨_, rfl⟩
  have hZl : Z.length = s.length := by rw [← hZ]; simp
  have hZg : ∀ k, k < s.length → Z[k]? = some (s.length - 1 - k, s.getD (s.length - 1 - k) 0) := fun k hk => by
    rw [← hZ, List.getElem?_map, List.getElem?_reverse (by simpa using hk), List.length_zipIdx, List.getElem?_zipIdx, List.getElem?_eq_getElem (by omega), List.getD_eq_getElem?_getD, List.getElem?_eq_getElem (by omega)]
    simp
  rw [hZ]
  have HZ := hide (And.intro hZl hZg)
  have hw1 : IntKind.i64.wrap ((s.length : Int) - 1) = (s.length : Int) - 1 := IntWalk.i64_in _ (by omega)
  clear hY hI hZ hZl hZg
  refine callsIn_of_wp Try.func54 rfl trivial ?_ rfl
  simp only [Try.ntmps54, List.size_toArray, List.length_cons, List.length_nil, Nat.reduceAdd, Nat.reduceSub, Array.replicate_succ, Array.replicate_zero, List.push_toArray, List.append_toArray, List.nil_append, List.cons_append]
  gi_wp2
  clear hw1
  gi_loopw [3] (fun v wr => ∃ k : Nat, k ≤ s.length ∧ v = .int .i64 ((s.length : Int) - 1 - k) ∧ Hid (J (Z.take k) wr) ∧ Hid (wr.cell? ⟨lb, 0, none⟩ = some (.slice A s.length c) ∧ Rd wr .i64 (.slice A s.length c) (ints s)))
    (fun v _ => (intOf v + 1).toNat)
  case atStart => exact ⟨0, Nat.zero_le _, by simp, hide (by simpa using h0), HST⟩
  case round =>
    obtain ⟨k, hk, rfl, HJ, HS⟩ := hrel
    clear hL h0
    by_cases hlt : k < s.length
    · have hcell := HS.out.1
      have hj : ((s.length : Int) - 1 - k) = ((s.length - 1 - k : Nat) : Int) := by omega
      obtain ⟨j, hjj⟩ : ∃ j, s.length - 1 - k = j := ⟨_, rfl⟩
      have hjl : j < s.length := by omega
      obtain ⟨x, hx⟩ : ∃ x, s[j]? = some x := ⟨_, List.getElem?_eq_getElem hjl⟩
      obtain ⟨b1, o1, rfl, -, cx⟩ := rd_at HS.out.2 (k := j) (x := (x : Int)) (by rw [ints_get, hx]; rfl)
      rw [hj, hjj]
      have hjl' : (j : Int) < s.length := by omega
      have t1 : decide ((j : Int) ≥ 0) = true := decide_eq_true (by omega)
      have t1' : decide (0 ≤ (j : Int)) = true := decide_eq_true (by omega)
      have hzk : Z[k]? = some (j, x) := by rw [HZ.out.2 k hlt, hjj, List.getD_eq_getElem?_getD, hx]; rfl
      have HTK : Hid (Z.take (k + 1) = Z.take k ++ [(j, x)]) := hide (by rw [List.take_add_one, hzk]; rfl)
      obtain ⟨fn, tmps, assign, body, hy, hR⟩ := HY.out (Z.take k) (j, x) wr (hPd x (List.mem_of_getElem? hx)) HJ.out (by rw [List.length_take, HZ.out.1]; omega)
      have hw2 : IntKind.i64.wrap ((j : Int) - 1) = (s.length : Int) - 1 - ((k + 1 : Nat) : Int) := by rw [IntWalk.i64_in _ (by omega)]; omega
      have HJJ := hide hjj
      clear hzk hjj hj
      gi_wp2
      refine hR.mono ?_
      rintro e W3 (⟨rfl, hJ3, hk3⟩ | ⟨rfl, hJx3⟩)
      · obtain ⟨hsz, hkk⟩ := hK _ _ hk3
        have hI3 := HS.out.2.blk hsz (hkk b1 (.inr ⟨o1, rfl⟩))
        have hL3 := (World.cell?_of_block (a := ⟨lb, 0, none⟩) (hkk lb (.inl rfl))).trans HS.out.1
        have HS3 := hide (And.intro hL3 hI3)
        have HJ3 := hide hJ3
        clear hJ3 hk3 hsz hkk hI3 hL3 HS hR hy HJ
        gi_wp2
        go_roundw
        case rel => exact ⟨k + 1, by omega, rfl, hide (by rw [HTK.out]; exact HJ3.out), HS3⟩
        case measure => have := HJJ.out; simp [intOf]; omega
      · clear hR hy HJ HS
        gi_wp2
        first | (refine bodyPost_ret (results_none rfl _ _ _) rfl ?_) | go_end0
        exact ⟨⟨_, rfl⟩, .inr ⟨Z.take k ++ [(j, x)], by rw [← HTK.out]; exact List.take_prefix _ _, hJx3⟩⟩
    · obtain rfl : k = s.length := by omega
      have e : ((s.length : Int) - 1 - (s.length : Nat)) = -1 := by omega
      rw [e]
      have HJE : Hid (J Z wr) := hide (by have := HJ.out; rwa [List.take_of_length_le (by rw [HZ.out.1]; exact Nat.le_refl _)] at this)
      gi_wp2
      go_end0
      exact ⟨⟨_, rfl⟩, .inl ⟨Z, rfl, HJE.out⟩⟩
/-- The list from its end. -/
theorem zip_rev (s : List Nat) : (s.zipIdx.reverse.map (fun p => (p.2, p.1))).map (fun p : Nat × Nat => p.2) = s.reverse := by
  rw [List.map_map]
  have e : ((fun p : Nat × Nat => p.2) ∘ fun p : Nat × Nat => (p.2, p.1)) = Prod.fst := rfl
  rw [e, List.map_reverse, List.zipIdx_map_fst]
theorem back_stops (m lb c n₀ : Nat) (A : Option Addr) (S : List Nat) (s : List Nat) (hs9 : s.length ≤ 100000) (Pd : Nat → Prop) (hPd : ∀ x ∈ s, Pd x) (hm : 1 ≤ m) (w : World) (hS : ∀ k, (k = lb ∨ ∃ o, A = some ⟨k, o, none⟩) → k < n₀ ∧ k ∉ S) (hlb : lb < w.heap.size) (hL : w.cell? ⟨lb, 0, none⟩ = some (.slice A s.length c)) (hI : Rd w .i64 (.slice A s.length c) (ints s)) :
    SeqStopsK Fence.wide m Try.prog 54 #[.pointer (some ⟨lb, 0, none⟩)] (fun x : Nat × Nd Pd => #[Value.int .i64 ((x.1 : Nat) : Int), Value.int .i64 ((x.2.1 : Nat) : Int)]) (Kq n₀ S) (fun ys => ys.map (fun p => p.2.1) = s.reverse) (fun pre => pre.map (fun p => p.2.1) <+: s.reverse) s.length w := fun l J Jx W hW _ _ hY h0 => by
  refine (back1_in m l lb c A s hs9 (Kq n₀ S) (fun _ _ hk => ⟨hk.1, fun k hk' => hk.2 k (hS k hk').1 (hS k hk').2⟩) (fun pre W => ∃ ps : List (Nat × Nd Pd), ps.map (fun p => (p.1, p.2.1)) = pre ∧ J ps W) (fun pre W => ∃ ps : List (Nat × Nd Pd), ps.map (fun p => (p.1, p.2.1)) = pre ∧ Jx ps W) hm Pd hPd ?_ W ((hW.cell (p := ⟨lb, 0, none⟩) hlb).trans hL) (hI.below' hW) ⟨[], rfl, h0⟩).mono ?_
  · rintro pre ⟨j, x⟩ W h1 ⟨ps, rfl, hJ⟩ hlen
    refine (hY ps (j, ⟨x, h1⟩) W hJ (by simpa using hlen)).mono ?_
    rintro e W' (⟨h3, h4, h5⟩ | ⟨h3, h4⟩)
    · exact .inl ⟨h3, ⟨_, by simp, h4⟩, h5⟩
    · exact .inr ⟨h3, _, by simp, h4⟩
  · have key : ∀ ps : List (Nat × Nd Pd), ps.map (fun p => p.2.1) = (ps.map (fun p => (p.1, p.2.1))).map (fun p : Nat × Nat => p.2) := fun ps => by rw [List.map_map]; rfl
    rintro e W' ⟨h1, ⟨ys, h2, ps, h3, h4⟩ | ⟨pre, h2, ps, h3, h4⟩⟩
    · exact ⟨h1, .inl ⟨ps, (by show ps.map (fun p => p.2.1) = s.reverse; rw [key, h3, h2, zip_rev]), h4⟩⟩
    · exact ⟨h1, .inr ⟨ps, (by show ps.map (fun p => p.2.1) <+: s.reverse; rw [key, h3, ← zip_rev]; exact h2.map _), h4⟩⟩
theorem back_call (A : Option Addr) (n c : Nat) (w : World) :
    Calls Try.prog 44 #[.slice A n c] w fun en w' => en = .returned (.func (.func 54) #[] #[.pointer (some ⟨w.heap.size, 0, none⟩)]) ∧ w.alloc (.cells #[.slice A n c] 28) = w' := by
  go_enter Try.func44, Try.ntmps44
  go_wp2_with fail
  go_ret
  exact ⟨rfl, rfl⟩
end Go.Proofs.Ytmopnceglnoncaa

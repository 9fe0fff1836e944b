/-
  BitsetOps, layer 3 (bitset): sequences of operations within the bounds.
-/
import Derived.Test.YtbnikoomgeaboaaDoorLawOps
import Derived.Test.YtbnikoomgeaboaaDoorOpenN
import Derived.Deep.CutRange
import Derived.Deep.CutBlock
import Derived.Deep.RegionHeld3
namespace Go.Proofs.YtbnikoomgeaboaaDoor
open Go.RowKit

theorem pair_new (w : World) (n : Int) (hn : n ≤ 65536) :
    Calls Tryd.prog 7 #[.int .i64 n] w fun en w' => ∃ p, en = .returned (.pointer p) ∧
      Calls Tryd.prog 8 #[.int .i64 n] w' fun en w'' => ∃ q o G, en = .returned (.pointer q) ∧ Pr w'' w.heap.size (.pointer p) (.pointer q) o G ∧ Frm w w'' [] := by
  by_cases h0 : n < 0
  · refine (new_nil n w (.inl h0)).mono fun _ w' ⟨a, b⟩ => ⟨_, a, ?_⟩
    subst b
    exact (rnew_nil n w (.inl h0)).mono fun _ w'' ⟨c, d⟩ => by subst d; exact ⟨_, _, _, c, Pr.none, Frm.refl _ _⟩
  · obtain ⟨m, rfl⟩ : ∃ m : Nat, n = m := ⟨n.toNat, by omega⟩
    refine (new_set m w (by omega)).mono fun _ w' ⟨a, b, c⟩ => ⟨_, a, ?_⟩
    have hlt := b.lt
    refine (rnew_set m w' (by omega)).mono fun _ w'' ⟨d, e, f⟩ => ⟨_, _, _, d, Pr.some w.heap.size (w'.heap.size + 1) w'.heap.size m _ _ (b.frm f (by simp) (by simp)) (e.congr fun j hj => ?_) (Nat.le_refl _) c.size (by simp; omega) (by simp; omega), c.trans f⟩
    simp [bit_zeros]

/-- The sets of the sequence beside each other, and the other pair of the round; X: the operation's block. -/
def Duo (X : Nat) (w0 wx : World) (p q pa qa : Option Addr) : Prop :=
  ∃ o G o2 G2 M, Pr wx w0.heap.size (.pointer p) (.pointer q) o G ∧ Pr wx M (.pointer pa) (.pointer qa) o2 G2 ∧ (∀ g ∈ G, g ∉ G2) ∧ Tab wx ∧ Below w0.heap.size w0 wx ∧ X ∉ G
/-- The sets of the sequence. -/
def Mono (w0 wx : World) (p q : Option Addr) : Prop :=
  ∃ o G, Pr wx w0.heap.size (.pointer p) (.pointer q) o G ∧ Tab wx ∧ Below w0.heap.size w0 wx
theorem Mono.frm {w0 w w' : World} {p q : Option Addr} (h : Mono w0 w p q) (hf : Frm w w' []) : Mono w0 w' p q := by
  obtain ⟨o, G, a, b, c⟩ := h
  exact ⟨o, G, a.frm hf (by simp), b.frm hf (by simp), c.trans (hf.toBelow (by simp) c.size)⟩
theorem Duo.frm {X : Nat} {w0 w w' : World} {p q pa qa : Option Addr} (h : Duo X w0 w p q pa qa) (hf : Frm w w' []) : Duo X w0 w' p q pa qa := by
  obtain ⟨o, G, o2, G2, M, a, b, d, e, c, x⟩ := h
  exact ⟨o, G, o2, G2, M, a.frm hf (by simp), b.frm hf (by simp), d, e.frm hf (by simp), c.trans (hf.toBelow (by simp) c.size), x⟩
theorem Duo.mono {X : Nat} {w0 w : World} {p q pa qa : Option Addr} (h : Duo X w0 w p q pa qa) : Mono w0 w p q := by
  obtain ⟨o, G, o2, G2, M, a, b, d, e, c, x⟩ := h
  exact ⟨o, G, a, e, c⟩
/-- A second pair, made later. -/
theorem Mono.duo {w0 w w' : World} {p q pa qa : Option Addr} {o2 : Option (Nat × List Nat)} {G2 : List Nat} {M : Nat} (h : Mono w0 w p q) (hf : Frm w w' []) (k : Pr w' M (.pointer pa) (.pointer qa) o2 G2) (hM : w.heap.size ≤ M) : Duo w.heap.size w0 w' p q pa qa := by
  obtain ⟨o, G, a, b, c⟩ := h
  exact ⟨o, G, o2, G2, M, a.frm hf (by simp), k, fun g hg hg' => by
    have h1 := (a.low g hg).2
    have h2 := (k.low g hg').1
    omega, b.frm hf (by simp), c.trans (hf.toBelow (by simp) c.size), fun h => Nat.lt_irrefl _ (a.low _ h).2⟩
theorem Pr.weak {w : World} {L L' : Nat} {v u : Value} {o : Option (Nat × List Nat)} {G : List Nat} (h : Pr w L v u o G) (hl : L' ≤ L) : Pr w L' v u o G := by
  cases h with
  | none => exact .none
  | some B R M n ws F h1 h2 h3 h4 h5 h6 => exact .some B R M n ws F h1 h2 (Nat.le_trans hl h3) (Nat.le_trans hl h4) h5 h6

/-- What a call on the first set leaves for the same call on the reference. -/
def Next (X : Nat) (w0 w w' : World) (f : FuncId) (args : Array Value) (p q pa qa : Option Addr) (b : Bool) : Prop :=
  Calls Tryd.prog f args w' fun en w'' => en = .returned (.bool b) ∧ Duo X w0 w'' p q pa qa ∧ ∀ j z, w.cell? ⟨X, j, none⟩ = some z → w''.cell? ⟨X, j, none⟩ = some z
section
variable {X : Nat} {w0 w : World} {p q pa qa : Option Addr}
theorem duo_then {w' : World} {f : FuncId} {args : Array Value} {o o2 : Option (Nat × List Nat)} {G G2 : List Nat} {M : Nat} {b : Bool} (h0 : 0 < w0.heap.size) (a : Pr w w0.heap.size (.pointer p) (.pointer q) o G) (k : Pr w M (.pointer pa) (.pointer qa) o2 G2) (d : ∀ g ∈ G, g ∉ G2) (e : Tab w) (c : Below w0.heap.size w0 w) (x : X ∉ G)
    (h : Then w w' w0.heap.size f args (.pointer p) (.pointer q) G b) : Next X w0 w w' f args p q pa qa b :=
  Calls.mono h fun _ _ ⟨h1, ⟨o', h2⟩, h3⟩ => ⟨h1, ⟨o', G, o2, G2, M, h2, k.frm h3 (fun g hg hg' => d g hg' hg), d, e.frm h3 (fun h4 => by
    have h5 := (a.low 0 h4).1
    omega), c.trans (h3.toBelow (fun g hg => (a.low g hg).1) c.size), x⟩, fun j z hz => (h3.cell (p := ⟨X, j, none⟩) (lt_of_cell hz) x).trans hz⟩
theorem nx_has (h : Duo X w0 w p q pa qa) (h0 : 0 < w0.heap.size) (i : Int) {z : Value} (hx : w.cell? ⟨X, 1, none⟩ = some z) :
    Calls Tryd.prog 16 #[.pointer p, .int .i64 i] w fun en w' => ∃ b, en = .returned (.bool b) ∧ w'.cell? ⟨X, 1, none⟩ = some z ∧ Next X w0 w w' 17 #[.pointer q, .int .i64 i] p q pa qa b := by
  obtain ⟨o, G, o2, G2, M, a, k, d, e, c, x⟩ := h
  exact (pair_has a i).mono fun _ w' ⟨b, hb, hf, ht⟩ => ⟨b, hb, (hf.cell (p := ⟨X, 1, none⟩) (lt_of_cell hx) x).trans hx, duo_then h0 a k d e c x ht⟩
theorem nx_add (h : Duo X w0 w p q pa qa) (h0 : 0 < w0.heap.size) (i : Int) {z : Value} (hx : w.cell? ⟨X, 1, none⟩ = some z) :
    Calls Tryd.prog 12 #[.pointer p, .int .i64 i] w fun en w' => ∃ b, en = .returned (.bool b) ∧ w'.cell? ⟨X, 1, none⟩ = some z ∧ Next X w0 w w' 13 #[.pointer q, .int .i64 i] p q pa qa b := by
  obtain ⟨o, G, o2, G2, M, a, k, d, e, c, x⟩ := h
  exact (pair_add a i).mono fun _ w' ⟨b, hb, hf, ht⟩ => ⟨b, hb, (hf.cell (p := ⟨X, 1, none⟩) (lt_of_cell hx) x).trans hx, duo_then h0 a k d e c x ht⟩
theorem nx_remove (h : Duo X w0 w p q pa qa) (h0 : 0 < w0.heap.size) (i : Int) {z : Value} (hx : w.cell? ⟨X, 1, none⟩ = some z) :
    Calls Tryd.prog 14 #[.pointer p, .int .i64 i] w fun en w' => ∃ b, en = .returned (.bool b) ∧ w'.cell? ⟨X, 1, none⟩ = some z ∧ Next X w0 w w' 15 #[.pointer q, .int .i64 i] p q pa qa b := by
  obtain ⟨o, G, o2, G2, M, a, k, d, e, c, x⟩ := h
  exact (pair_remove a i).mono fun _ w' ⟨b, hb, hf, ht⟩ => ⟨b, hb, (hf.cell (p := ⟨X, 1, none⟩) (lt_of_cell hx) x).trans hx, duo_then h0 a k d e c x ht⟩
theorem nx_Union (h : Duo X w0 w p q pa qa) (h0 : 0 < w0.heap.size) :
    Calls Tryd.prog 18 #[.pointer p, .pointer pa] w fun en w' => ∃ b, en = .returned (.bool b) ∧ Next X w0 w w' 19 #[.pointer q, .pointer qa] p q pa qa b := by
  obtain ⟨o, G, o2, G2, M, a, k, d, e, c, x⟩ := h
  exact (pair_Union a k d).mono fun _ w' ⟨b, hb, ht⟩ => ⟨b, hb, duo_then h0 a k d e c x ht⟩
theorem nx_Union_self (h : Duo X w0 w p q pa qa) (h0 : 0 < w0.heap.size) :
    Calls Tryd.prog 18 #[.pointer p, .pointer p] w fun en w' => ∃ b, en = .returned (.bool b) ∧ Next X w0 w w' 19 #[.pointer q, .pointer q] p q pa qa b := by
  obtain ⟨o, G, o2, G2, M, a, k, d, e, c, x⟩ := h
  exact (pair_Union_self a).mono fun _ w' ⟨b, hb, ht⟩ => ⟨b, hb, duo_then h0 a k d e c x ht⟩
theorem nx_Subtract (h : Duo X w0 w p q pa qa) (h0 : 0 < w0.heap.size) :
    Calls Tryd.prog 20 #[.pointer p, .pointer pa] w fun en w' => ∃ b, en = .returned (.bool b) ∧ Next X w0 w w' 21 #[.pointer q, .pointer qa] p q pa qa b := by
  obtain ⟨o, G, o2, G2, M, a, k, d, e, c, x⟩ := h
  exact (pair_Subtract a k d).mono fun _ w' ⟨b, hb, ht⟩ => ⟨b, hb, duo_then h0 a k d e c x ht⟩
theorem nx_Subtract_self (h : Duo X w0 w p q pa qa) (h0 : 0 < w0.heap.size) :
    Calls Tryd.prog 20 #[.pointer p, .pointer p] w fun en w' => ∃ b, en = .returned (.bool b) ∧ Next X w0 w w' 21 #[.pointer q, .pointer q] p q pa qa b := by
  obtain ⟨o, G, o2, G2, M, a, k, d, e, c, x⟩ := h
  exact (pair_Subtract_self a).mono fun _ w' ⟨b, hb, ht⟩ => ⟨b, hb, duo_then h0 a k d e c x ht⟩
theorem nx_Intersect (h : Duo X w0 w p q pa qa) (h0 : 0 < w0.heap.size) :
    Calls Tryd.prog 22 #[.pointer p, .pointer pa] w fun en w' => ∃ b, en = .returned (.bool b) ∧ Next X w0 w w' 23 #[.pointer q, .pointer qa] p q pa qa b := by
  obtain ⟨o, G, o2, G2, M, a, k, d, e, c, x⟩ := h
  exact (pair_Intersect a k d).mono fun _ w' ⟨b, hb, ht⟩ => ⟨b, hb, duo_then h0 a k d e c x ht⟩
theorem nx_Intersect_self (h : Duo X w0 w p q pa qa) (h0 : 0 < w0.heap.size) :
    Calls Tryd.prog 22 #[.pointer p, .pointer p] w fun en w' => ∃ b, en = .returned (.bool b) ∧ Next X w0 w w' 23 #[.pointer q, .pointer q] p q pa qa b := by
  obtain ⟨o, G, o2, G2, M, a, k, d, e, c, x⟩ := h
  exact (pair_Intersect_self a).mono fun _ w' ⟨b, hb, ht⟩ => ⟨b, hb, duo_then h0 a k d e c x ht⟩
theorem nx_clone (h : Duo X w0 w p q pa qa) (hX : X < w.heap.size) :
    Calls Tryd.prog 24 #[.pointer p] w fun en w' => ∃ p', en = .returned (.pointer p') ∧ Calls Tryd.prog 25 #[.pointer q] w' fun en w'' => ∃ q', en = .returned (.pointer q') ∧ Duo X w0 w'' p' q' pa qa := by
  obtain ⟨o, G, o2, G2, M, a, k, d, e, c, x⟩ := h
  refine (pair_clone a).mono fun _ w' ⟨v', hb, ⟨p', hp'⟩, ht⟩ => ?_
  subst hp'
  refine ⟨p', hb, ht.mono fun _ w'' ⟨u', G', h1, ⟨q', hq'⟩, h2, h3⟩ => ?_⟩
  subst hq'
  refine ⟨q', h1, o, G', o2, G2, M, h2.weak c.size, k.frm h3 (by simp), fun g hg hg' => ?_, e.frm h3 (by simp), c.trans (h3.toBelow (by simp) c.size), fun hg => ?_⟩
  · have h4 := (h2.low g hg).1
    have h5 := (k.low g hg').2
    omega
  · have h4 := (h2.low X hg).1
    omega
theorem duo_same (h : Duo X w0 w p q pa qa) : Calls Tryd.prog 26 #[.pointer p, .pointer q] w fun en w' => en = .returned (.bool true) ∧ Duo X w0 w' p q pa qa := by
  have h' := h
  obtain ⟨o, G, o2, G2, M, a, k, d, e, c, x⟩ := h
  exact (pair_same a e).mono fun _ w' ⟨h1, h2⟩ => ⟨h1, h'.frm (Frm.below h2)⟩
theorem duo_same2 (h : Duo X w0 w p q pa qa) : Calls Tryd.prog 26 #[.pointer pa, .pointer qa] w fun en w' => en = .returned (.bool true) ∧ Duo X w0 w' p q pa qa := by
  have h' := h
  obtain ⟨o, G, o2, G2, M, a, k, d, e, c, x⟩ := h
  exact (pair_same k e).mono fun _ w' ⟨h1, h2⟩ => ⟨h1, h'.frm (Frm.below h2)⟩
theorem duo_equal (h : Duo X w0 w p q pa qa) : Calls Tryd.prog 27 #[.pointer p, .pointer pa] w fun en w' => ∃ b, en = .returned (.bool b) ∧ Calls Tryd.prog 28 #[.pointer q, .pointer qa] w' fun en w'' => en = .returned (.bool b) ∧ Duo X w0 w'' p q pa qa := by
  have h' := h
  obtain ⟨o, G, o2, G2, M, a, k, d, e, c, x⟩ := h
  exact (pair_equal a k).mono fun _ w' ⟨b, h1, h2, h3⟩ => ⟨b, h1, h3.mono fun _ _ ⟨h4, h5⟩ => ⟨h4, h'.frm (h2.trans h5)⟩⟩
theorem duo_equal2 (h : Duo X w0 w p q pa qa) : Calls Tryd.prog 27 #[.pointer pa, .pointer p] w fun en w' => ∃ b, en = .returned (.bool b) ∧ Calls Tryd.prog 28 #[.pointer qa, .pointer q] w' fun en w'' => en = .returned (.bool b) ∧ Duo X w0 w'' p q pa qa := by
  have h' := h
  obtain ⟨o, G, o2, G2, M, a, k, d, e, c, x⟩ := h
  exact (pair_equal k a).mono fun _ w' ⟨b, h1, h2, h3⟩ => ⟨b, h1, h3.mono fun _ _ ⟨h4, h5⟩ => ⟨h4, h'.frm (h2.trans h5)⟩⟩
end

set_option maxRecDepth 100000 in
set_option maxHeartbeats 8000000 in
theorem ops_any (n : Int) (hn : n ≤ 2000) (v : Value) (ss : List OpS) (w : World) (hT : Tab w) (hv : RdN w 4 v (ss.map OpS.row)) (hs : ∀ s ∈ ss, Rd w .i64 s.v s.l) (h100 : ss.length ≤ 100) :
    Calls Tryd.prog 3 #[.int .i64 n, v] w (LawDone w) := by
  obtain ⟨_, A, c, rfl, hc, hm, hr⟩ := hv
  have hc9 : c ≤ 9223372036854775807 := by unfold maxLen at hm; omega
  rw [List.length_map] at hc hr ⊢
  have HR := hide hr
  have HS := hide hs
  have HT := hide hT
  have h1 : ¬ (n > 2000) := by omega
  have h1' : ¬ (2000 < n) := by omega
  have h2 : ¬ ((100 : Int) < ss.length) := by omega
  clear hT hm hr hs
  go_enter Tryd.func3, Tryd.ntmps3
  go_wp2_with fail
  refine (pair_new w n (by omega)).mono ?_
  rintro en w1 ⟨p, rfl, hcall⟩
  go_wp2_with fail
  refine hcall.mono ?_
  rintro en w2 ⟨q, o, G, rfl, hP, hf⟩
  have HP : Hid (Mono w w2 p q) := hide ⟨o, G, hP, HT.out.frm hf (by simp), hf.toBelow (by simp) (Nat.le_refl _)⟩
  have hpq : (p = none ∧ q = none) ∨ (∃ a b, p = some a ∧ q = some b) := by
    cases hP with
    | none => exact .inl ⟨rfl, rfl⟩
    | some => exact .inr ⟨_, _, rfl, rfl⟩
  clear hP hf hcall
  go_upto_region 2 with fail
  go_cut [5, 6, 21] from 22 (fun s t z wx => s = .pointer p ∧ t = .pointer q ∧ z = .bool false ∧ wx = w2)
  case first =>
    rcases hpq with ⟨rfl, rfl⟩ | ⟨a, b, rfl, rfl⟩
    · go_wp2_with fail
      go_meet
      exact ⟨rfl, rfl, rfl, rfl⟩
    · go_wp2_with fail
      go_meet
      exact ⟨rfl, rfl, rfl, rfl⟩
  case rest =>
    obtain ⟨rfl, rfl, rfl, rfl⟩ := hcut
    clear hpq
    go_wp2_with fail
    go_loopw [32, 5, 6] (fun z sv tv wr => ∃ (k : Nat) (p q : Option Addr), k ≤ ss.length ∧ z = .int .i64 k ∧ sv = .pointer p ∧ tv = .pointer q ∧ Mono w wr p q) (fun z _ _ _ => ss.length - (intOf z).toNat)
    case atStart => exact ⟨0, _, _, Nat.zero_le _, rfl, rfl, rfl, HP.out⟩
    case round =>
      clear HP
      obtain ⟨wq, rfl⟩ : ∃ x, x = wr := ⟨_, rfl⟩
      obtain ⟨k, p, q, hk, rfl, rfl, rfl, hP⟩ := hrel
      have HQ := hide hP
      clear hP
      by_cases hlt : k < ss.length
      · obtain ⟨b, off, rfl, hbl, hcell⟩ := HR.out (by omega)
        obtain ⟨⟨kind, num, cap, lv, l⟩, hx⟩ : ∃ x, ss[k]? = some x := ⟨_, List.getElem?_eq_getElem hlt⟩
        have hl : Rd w .i64 lv l := HS.out _ (List.mem_of_getElem? hx)
        have hbw : Below w.heap.size w wq := HQ.out.elim fun _ h => h.elim fun _ h => h.2.2
        have get : ∀ (j : Nat) (z : Value), (OpS.row ⟨kind, num, cap, lv, l⟩)[j]? = some z → wq.cell? ⟨b, off + (k * 4 + j), none⟩ = some z := fun j z hz => (hbw.cell (p := ⟨b, off + (k * 4 + j), none⟩) hbl).trans (hcell k j _ _ (by rw [List.getElem?_map, hx]; rfl) hz)
        have c0 : wq.cell? ⟨b, off + k * 4, none⟩ = some (.int .i64 kind) := get 0 _ rfl
        have c1 : wq.cell? ⟨b, off + k * 4 + 1, none⟩ = some (.int .i64 num) := get 1 _ rfl
        have c2 : wq.cell? ⟨b, off + k * 4 + 2, none⟩ = some (.int .i64 cap) := get 2 _ rfl
        have c3 : wq.cell? ⟨b, off + k * 4 + 3, none⟩ = some lv := get 3 _ rfl
        have HL := hide (hl.below2 (Frm.below hbw))
        obtain ⟨Al, cl, rfl, hcl, hml, -⟩ := hl
        have hcl9 : cl ≤ 9223372036854775807 := by unfold maxLen at hml; omega
        have hlt' : (k : Int) < ss.length := by omega
        have HA : Hid (Frm wq (wq.alloc (.cells #[.int .i64 kind, .int .i64 num, .int .i64 cap, .slice Al l.length cl] 30)) []) := hide ((Frm.refl wq []).alloc _)
        clear get hcell hx hml hbw
        by_cases hg1 : (l.length : Int) > 100
        · have hg1' : (100 : Int) < l.length := hg1
          go_wp2_with fail
          go_roundw
          case rel => exact ⟨k + 1, _, _, by omega, by go_num, rfl, rfl, HQ.out.frm HA.out⟩
          case measure => simp [intOf]; omega
        · have hg1' : ¬ ((100 : Int) < l.length) := hg1
          by_cases hg2 : cap > 3000
          · have hg2' : 3000 < cap := hg2
            go_wp2_with fail
            go_roundw
            case rel => exact ⟨k + 1, _, _, by omega, by go_num, rfl, rfl, HQ.out.frm HA.out⟩
            case measure => simp [intOf]; omega
          · have hg2' : ¬ (3000 < cap) := hg2
            go_upto_region 10 with fail
            have hx0 : (wq.alloc (.cells #[.int .i64 kind, .int .i64 num, .int .i64 cap, .slice Al l.length cl] 30)).drew.cell? ⟨wq.heap.size, 0, none⟩ = some (.int .i64 kind) := by simp [go_sem]
            have hx1 : (wq.alloc (.cells #[.int .i64 kind, .int .i64 num, .int .i64 cap, .slice Al l.length cl] 30)).drew.cell? ⟨wq.heap.size, 1, none⟩ = some (.int .i64 num) := by simp [go_sem]
            have hx2 : (wq.alloc (.cells #[.int .i64 kind, .int .i64 num, .int .i64 cap, .slice Al l.length cl] 30)).drew.cell? ⟨wq.heap.size, 2, none⟩ = some (.int .i64 cap) := by simp [go_sem]
            have hx3 : (wq.alloc (.cells #[.int .i64 kind, .int .i64 num, .int .i64 cap, .slice Al l.length cl] 30)).drew.cell? ⟨wq.heap.size, 3, none⟩ = some (.slice Al l.length cl) := by simp [go_sem]
            have hsz : wq.heap.size < (wq.alloc (.cells #[.int .i64 kind, .int .i64 num, .int .i64 cap, .slice Al l.length cl] 30)).drew.heap.size := by show wq.heap.size < (wq.alloc _).heap.size; rw [World.size_alloc]; exact Nat.lt_succ_self _
            have HD : Hid (Mono w wq p q ∧ Frm wq (wq.alloc (.cells #[.int .i64 kind, .int .i64 num, .int .i64 cap, .slice Al l.length cl] 30)).drew [] ∧ Rd (wq.alloc (.cells #[.int .i64 kind, .int .i64 num, .int .i64 cap, .slice Al l.length cl] 30)).drew .i64 (.slice Al l.length cl) l) := hide ⟨HQ.out, HA.out.trans (Frm.drew _ _), HL.out.below2 (HA.out.trans (Frm.drew _ _))⟩
            clear HA HL HQ c0 c1 c2 c3
            go_cut [9, 10, 32] from 32 to 174 (fun a b z wx => z = .int .i64 k ∧ ∃ pa qa, a = .pointer pa ∧ b = .pointer qa ∧ Duo wq.heap.size w wx p q pa qa ∧ wx.cell? ⟨wq.heap.size, 0, none⟩ = some (.int .i64 kind) ∧ wx.cell? ⟨wq.heap.size, 1, none⟩ = some (.int .i64 num))
            case first =>
              go_region_held3 (fun w' => w'.cell? ⟨wq.heap.size, 2, none⟩ = some (.int .i64 cap) ∧ w'.cell? ⟨wq.heap.size, 3, none⟩ = some (.slice Al l.length cl)) (first | exact ⟨hx2, hx3⟩ | exact ⟨hy2, hy3⟩ | exact ⟨hz2, hz3⟩) (first | (go_at_call 10; refine (pair_of _ cap (by omega) _ _ HD.out.2.2).mono ?_; rintro en w1 ⟨v, rfl, ⟨pa, rfl⟩, hf1, hc2⟩; have hy2 := (hf1.cell (p := ⟨wq.heap.size, 2, none⟩) hsz (by simp)).trans hx2; have hy3 := (hf1.cell (p := ⟨wq.heap.size, 3, none⟩) hsz (by simp)).trans hx3) | (go_at_call 11; refine hc2.mono ?_; rintro en w2 ⟨u, o', G', rfl, ⟨qa, rfl⟩, hP2, hf2⟩; have hz2 := (hf2.cell (p := ⟨wq.heap.size, 2, none⟩) hsz (by simp)).trans hx2; have hz3 := (hf2.cell (p := ⟨wq.heap.size, 3, none⟩) hsz (by simp)).trans hx3))
              all_goals
                have HE : Hid (Duo wq.heap.size w w2 p q pa qa) := hide (HD.out.1.duo (HD.out.2.1.trans hf2) hP2 (Nat.le_of_lt hsz))
                have hz0 := (hf2.cell (p := ⟨wq.heap.size, 0, none⟩) hsz (by simp)).trans hx0
                have hz1 := (hf2.cell (p := ⟨wq.heap.size, 1, none⟩) hsz (by simp)).trans hx1
                clear hP2 hf2 hf1 hy2 hy3 hz2 hz3 hx0 hx1 hx2 hx3 HD
                go_wp2_with fail
                go_meet
                exact ⟨rfl, _, _, rfl, rfl, HE.out, hz0, hz1⟩
            case rest =>
              clear HD hx0 hx1 hx2 hx3
              obtain ⟨rfl, pa, qa, rfl, rfl, hD, hx0, hx1⟩ := hcut
              have HD := hide hD
              have hX := lt_of_cell hx0
              clear hD hsz
              go_upto_block 2 with fail
              go_cut [5, 6, 11, 12, 32] from 32 to 174 (fun s t u v z wx => z = .int .i64 k ∧ ∃ p' q', s = .pointer p' ∧ t = .pointer q' ∧ ∃ b : Bool, u = .bool b ∧ v = .bool b ∧ Duo wq.heap.size w wx p' q' pa qa)
              case first =>
                have h0 : 0 < w.heap.size := HT.out.1
                by_cases e0 : kind = 0
                · subst e0
                  go_upto_region 14 with fail
                  have HE : Hid (Duo wq.heap.size w wc.drew p q pa qa) := hide (HD.out.frm (Frm.drew _ _))
                  replace hx1 : wc.drew.cell? ⟨wq.heap.size, 1, none⟩ = some (.int .i64 num) := hx1
                  clear HD
                  go_region_held3 (fun w' => w'.cell? ⟨wq.heap.size, 1, none⟩ = some (.int .i64 num)) (first | exact hx1 | exact hy1 | exact hz1 | (go_keep)) (first | (go_at_call 12; refine (nx_add HE.out h0 num hx1).mono ?_; rintro en w1 ⟨b1, rfl, hy1, hnext⟩) | (go_at_call 13; refine (Calls.mono hnext ?_); rintro en w2 ⟨rfl, hd, hk9⟩; have hz1 := hk9 1 _ hx1))
                  all_goals
                    have HF := hide hd
                    clear hd hk9 hx1 hy1 hz1 HE
                    go_wp2_with fail
                    go_meet
                    exact ⟨rfl, p, q, rfl, rfl, b1, rfl, rfl, HF.out⟩
                by_cases e1 : kind = 1
                · subst e1
                  go_upto_region 16 with fail
                  have HE : Hid (Duo wq.heap.size w wc.drew p q pa qa) := hide (HD.out.frm (Frm.drew _ _))
                  replace hx1 : wc.drew.cell? ⟨wq.heap.size, 1, none⟩ = some (.int .i64 num) := hx1
                  clear HD
                  go_region_held3 (fun w' => w'.cell? ⟨wq.heap.size, 1, none⟩ = some (.int .i64 num)) (first | exact hx1 | exact hy1 | exact hz1 | (go_keep)) (first | (go_at_call 14; refine (nx_remove HE.out h0 num hx1).mono ?_; rintro en w1 ⟨b1, rfl, hy1, hnext⟩) | (go_at_call 15; refine (Calls.mono hnext ?_); rintro en w2 ⟨rfl, hd, hk9⟩; have hz1 := hk9 1 _ hx1))
                  all_goals
                    have HF := hide hd
                    clear hd hk9 hx1 hy1 hz1 HE
                    go_wp2_with fail
                    go_meet
                    exact ⟨rfl, p, q, rfl, rfl, b1, rfl, rfl, HF.out⟩
                by_cases e2 : kind = 2
                · subst e2
                  go_upto_region 18 with fail
                  have HE : Hid (Duo wq.heap.size w wc.drew p q pa qa) := hide (HD.out.frm (Frm.drew _ _))
                  replace hx1 : wc.drew.cell? ⟨wq.heap.size, 1, none⟩ = some (.int .i64 num) := hx1
                  clear HD
                  go_region_held3 (fun w' => w'.cell? ⟨wq.heap.size, 1, none⟩ = some (.int .i64 num)) (first | exact hx1 | exact hy1 | exact hz1 | (go_keep)) (first | (go_at_call 16; refine (nx_has HE.out h0 num hx1).mono ?_; rintro en w1 ⟨b1, rfl, hy1, hnext⟩) | (go_at_call 17; refine (Calls.mono hnext ?_); rintro en w2 ⟨rfl, hd, hk9⟩; have hz1 := hk9 1 _ hx1))
                  all_goals
                    have HF := hide hd
                    clear hd hk9 hx1 hy1 hz1 HE
                    go_wp2_with fail
                    go_meet
                    exact ⟨rfl, p, q, rfl, rfl, b1, rfl, rfl, HF.out⟩
                by_cases e3 : kind = 3
                · subst e3
                  go_wp2_with (first | (go_at_call 18; refine (nx_Union HD.out h0).mono ?_; rintro en w1 ⟨b1, rfl, hnext⟩) | (go_at_call 19; refine (Calls.mono hnext ?_); rintro en w2 ⟨rfl, hd, -⟩))
                  have HF := hide hd
                  clear hd
                  go_wp2_with fail
                  go_meet
                  exact ⟨rfl, p, q, rfl, rfl, b1, rfl, rfl, HF.out⟩
                by_cases e4 : kind = 4
                · subst e4
                  go_wp2_with (first | (go_at_call 20; refine (nx_Subtract HD.out h0).mono ?_; rintro en w1 ⟨b1, rfl, hnext⟩) | (go_at_call 21; refine (Calls.mono hnext ?_); rintro en w2 ⟨rfl, hd, -⟩))
                  have HF := hide hd
                  clear hd
                  go_wp2_with fail
                  go_meet
                  exact ⟨rfl, p, q, rfl, rfl, b1, rfl, rfl, HF.out⟩
                by_cases e5 : kind = 5
                · subst e5
                  go_wp2_with (first | (go_at_call 22; refine (nx_Intersect HD.out h0).mono ?_; rintro en w1 ⟨b1, rfl, hnext⟩) | (go_at_call 23; refine (Calls.mono hnext ?_); rintro en w2 ⟨rfl, hd, -⟩))
                  have HF := hide hd
                  clear hd
                  go_wp2_with fail
                  go_meet
                  exact ⟨rfl, p, q, rfl, rfl, b1, rfl, rfl, HF.out⟩
                by_cases e6 : kind = 6
                · subst e6
                  go_wp2_with (first | (go_at_call 18; refine (nx_Union_self HD.out h0).mono ?_; rintro en w1 ⟨b1, rfl, hnext⟩) | (go_at_call 19; refine (Calls.mono hnext ?_); rintro en w2 ⟨rfl, hd, -⟩))
                  have HF := hide hd
                  clear hd
                  go_wp2_with fail
                  go_meet
                  exact ⟨rfl, p, q, rfl, rfl, b1, rfl, rfl, HF.out⟩
                by_cases e7 : kind = 7
                · subst e7
                  go_wp2_with (first | (go_at_call 20; refine (nx_Subtract_self HD.out h0).mono ?_; rintro en w1 ⟨b1, rfl, hnext⟩) | (go_at_call 21; refine (Calls.mono hnext ?_); rintro en w2 ⟨rfl, hd, -⟩))
                  have HF := hide hd
                  clear hd
                  go_wp2_with fail
                  go_meet
                  exact ⟨rfl, p, q, rfl, rfl, b1, rfl, rfl, HF.out⟩
                by_cases e8 : kind = 8
                · subst e8
                  go_wp2_with (first | (go_at_call 22; refine (nx_Intersect_self HD.out h0).mono ?_; rintro en w1 ⟨b1, rfl, hnext⟩) | (go_at_call 23; refine (Calls.mono hnext ?_); rintro en w2 ⟨rfl, hd, -⟩))
                  have HF := hide hd
                  clear hd
                  go_wp2_with fail
                  go_meet
                  exact ⟨rfl, p, q, rfl, rfl, b1, rfl, rfl, HF.out⟩
                by_cases e9 : kind = 9
                · subst e9
                  go_wp2_with (first | (go_at_call 24; refine (nx_clone HD.out hX).mono ?_; rintro en w1 ⟨p', rfl, hnext⟩) | (go_at_call 25; refine (Calls.mono hnext ?_); rintro en w2 ⟨q', rfl, hd⟩))
                  have HF := hide hd
                  clear hd
                  go_wp2_with fail
                  go_meet
                  exact ⟨rfl, p', q', rfl, rfl, false, rfl, rfl, HF.out⟩
                · go_wp2_with fail
                  go_meet
                  exact ⟨rfl, p, q, rfl, rfl, false, rfl, rfl, HD.out⟩
              case rest =>
                clear HD hx0 hx1 hX
                obtain ⟨rfl, p', q', rfl, rfl, b1, rfl, rfl, hD⟩ := hcut
                have HD := hide hD
                clear hD
                go_wp2_with fail
                refine (duo_same HD.out).mono ?_
                rintro en w3 ⟨rfl, hD⟩
                have HE := hide hD
                clear hD HD
                go_wp2_with fail
                refine (duo_same2 HE.out).mono ?_
                rintro en w4 ⟨rfl, hD⟩
                have HD := hide hD
                clear hD HE
                go_wp2_with fail
                refine (duo_equal HD.out).mono ?_
                rintro en w5 ⟨b2, rfl, hD⟩
                go_wp2_with fail
                refine hD.mono ?_
                rintro en w6 ⟨rfl, hD6⟩
                have HE := hide hD6
                clear hD hD6 HD
                go_wp2_with fail
                refine (duo_equal2 HE.out).mono ?_
                rintro en w7 ⟨b3, rfl, hD⟩
                go_wp2_with fail
                refine hD.mono ?_
                rintro en w8 ⟨rfl, hD6⟩
                have HF := hide hD6.mono
                clear hD hD6 HE
                go_wp2_with fail
                go_roundw
                case rel => exact ⟨k + 1, _, _, by omega, by go_num, rfl, rfl, HF.out⟩
                case measure => simp [intOf]; omega
      · obtain rfl : k = ss.length := by omega
        have hT9 : Tab wq := HQ.out.elim fun _ h => h.elim fun _ h => h.2.1
        go_wp2_with fail
        refine (awake_any wq hT9).mono ?_
        rintro en w3 ⟨rfl, hB⟩
        have HB3 : Hid (Below w.heap.size w w3) := hide (HQ.out.elim fun _ h => h.elim fun _ h => h.2.2.trans (hB.mono h.2.2.size))
        clear hB HQ hT9
        go_wp2_with fail
        go_ret
        exact ⟨rfl, HB3.out⟩
end Go.Proofs.YtbnikoomgeaboaaDoor

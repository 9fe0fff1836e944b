/-
  Layer 6 (digraph): least, and what ShortestPath hands to it.
-/
import Derived.Test.YtaehfohljblmoaaDist
namespace Go.Proofs.Ytaehfohljblmoaa
open Go.RowKit

/-- The least number of a list that is wanted, -1 if there is none. -/
def lst (P : Int → Bool) (l : List Int) : Int := l.foldl (fun f x => if P x = true ∧ (f < 0 ∨ x < f) then x else f) (-1)
theorem lst_snoc (P : Int → Bool) (l : List Int) (x : Int) : lst P (l ++ [x]) = if P x = true ∧ (lst P l < 0 ∨ x < lst P l) then x else lst P l := by unfold lst; rw [List.foldl_append]; rfl
theorem lst_take (P : Int → Bool) (l : List Int) (i : Nat) (x : Int) (h : l[i]? = some x) : lst P (l.take (i + 1)) = if P x = true ∧ (lst P (l.take i) < 0 ∨ x < lst P (l.take i)) then x else lst P (l.take i) := by
  rw [List.take_add_one, h, ← lst_snoc]; rfl

/-- One edge nearer to the target than u. -/
def nearer (d : List Int) (u : Nat) (x : Int) : Bool := decide (d.getD x.toNat 0 = d.getD u 0 - 1)

set_option maxRecDepth 100000 in
theorem nearer_any (w : World) (n base D lp np u x : Nat) (d : List Int) (_hn : n ≤ 65536) (hl : w.cell? ⟨lp, 0, none⟩ = some (.slice (some ⟨D, 0, none⟩) n n)) (hp : w.cell? ⟨np, 0, none⟩ = some (.int .i64 (u : Nat))) (ho : Own w base 3 .i64 (.slice (some ⟨D, 0, none⟩) n n) d) (hd : d.length = n) (hx : x < n) (hu : u < n) (hdu : -1 ≤ d.getD u 0 ∧ d.getD u 0 ≤ 65536) :
    Calls Try.prog 38 #[.int .i64 (x : Nat), .pointer (some ⟨lp, 0, none⟩), .pointer (some ⟨np, 0, none⟩)] w fun en w' => en = .returned (.bool (nearer d u (x : Nat))) ∧ ∃ m, w' = w.drewN m := by
  have hx' : (x : Int) < n := by omega
  have hu' : (u : Int) < n := by omega
  obtain ⟨y, hy⟩ : ∃ y, d.getD x 0 = y := ⟨_, rfl⟩
  obtain ⟨e, he⟩ : ∃ e, d.getD u 0 = e := ⟨_, rfl⟩
  have c1 : w.cell? ⟨D, x, none⟩ = some (.int .i64 y) := ho.cellAt (by rw [← hy]; exact getD_get (by omega))
  have c2 : w.cell? ⟨D, u, none⟩ = some (.int .i64 e) := ho.cellAt (by rw [← he]; exact getD_get (by omega))
  have hnear : nearer d u (x : Nat) = (y == e - 1) := by
    unfold nearer
    rw [Int.toNat_natCast, hy, he]
    by_cases h : y = e - 1 <;> simp [h]
  rw [he] at hdu
  have hw : IntKind.i64.wrap (e - 1) = e - 1 := IntWalk.i64_in _ (by omega)
  have HN := hide hnear
  clear hnear ho hd hy he hdu
  go_enter Try.func38, Try.ntmps38
  go_wp2_with fail
  go_quiet (fail)
  go_wp2_with fail
  go_ret
  exact ⟨by rw [HN.out]; rfl, _, rfl⟩

set_option maxRecDepth 100000 in
set_option maxHeartbeats 2000000 in
theorem least_any (w : World) (n base D lp np u : Nat) (d : List Int) (hn : n ≤ 65536) (hl : w.cell? ⟨lp, 0, none⟩ = some (.slice (some ⟨D, 0, none⟩) n n)) (hp : w.cell? ⟨np, 0, none⟩ = some (.int .i64 (u : Nat))) (ho : Own w base 3 .i64 (.slice (some ⟨D, 0, none⟩) n n) d) (hd : d.length = n) (hu : u < n) (hdu : -1 ≤ d.getD u 0 ∧ d.getD u 0 ≤ 65536)
    (v : Value) (l : List Int) (hv : Rd w .i64 v l) (hin : ∀ (i : Nat) (m : Int), l[i]? = some m → ∃ x : Nat, m = x ∧ x < n) :
    Calls Try.prog 37 #[v, .func (.func 38) #[] #[.pointer (some ⟨lp, 0, none⟩), .pointer (some ⟨np, 0, none⟩)]] w fun en w' => en = .returned (.int .i64 (lst (nearer d u) l)) ∧ ∃ m, w' = w.drewN m := by
  obtain ⟨A, c, rfl, hc, hm, hr⟩ := hv
  have hc9 : c ≤ 9223372036854775807 := by unfold maxLen at hm; omega
  have HR := hide hr
  have HIn := hide hin
  have HC : Hid (∀ (m x : Nat), x < n → Calls Try.prog 38 #[.int .i64 (x : Nat), .pointer (some ⟨lp, 0, none⟩), .pointer (some ⟨np, 0, none⟩)] (w.drewN m) fun en w' => en = .returned (.bool (nearer d u (x : Nat))) ∧ ∃ m', w' = (w.drewN m).drewN m') := hide fun m x hx => nearer_any (w.drewN m) n base D lp np u x d hn hl hp (ho.drewN m) hd hx hu hdu
  clear hr hin hl hp ho hd hdu hm
  go_enter Try.func37, Try.ntmps37
  go_wp2_with fail
  go_loopw [10, 5] (fun z f wr => ∃ (i q : Nat), i ≤ l.length ∧ z = .int .i64 i ∧ f = .int .i64 (lst (nearer d u) (l.take i)) ∧ wr = w.drewN q) (fun z _ _ => l.length - (intOf z).toNat)
  case atStart => exact ⟨0, 0, Nat.zero_le _, rfl, rfl, rfl⟩
  case round =>
    obtain ⟨i, q, hi, rfl, rfl, rfl⟩ := hrel
    by_cases hlt : i < l.length
    · have hlt' : (i : Int) < l.length := by omega
      obtain ⟨m, hm⟩ : ∃ m, l[i]? = some m := ⟨_, List.getElem?_eq_getElem hlt⟩
      obtain ⟨b, off, rfl, hbl, hcell⟩ := HR.out (by omega)
      have c1 := hcell i m hm
      obtain ⟨x, rfl, hx⟩ := HIn.out i m hm
      have hst := lst_take (nearer d u) l i _ hm
      obtain ⟨f, hf⟩ : ∃ f, lst (nearer d u) (l.take i) = f := ⟨_, rfl⟩
      rw [hf] at hst ⊢
      have HST := hide hst
      clear hcell hm hst hf
      go_wp2_with fail
      refine (HC.out q x hx).mono ?_
      rintro en w2 ⟨rfl, m', rfl⟩
      cases hP : nearer d u (x : Nat) with
      | false =>
        go_wp2_with fail
        go_roundw
        case rel => exact ⟨i + 1, _, by omega, by go_num, by rw [HST.out, if_neg (by rw [hP]; simp)], rfl⟩
        case measure => simp [intOf]; omega
      | true =>
        by_cases hf0 : f < 0
        · go_wp2_with fail
          go_roundw
          case rel => exact ⟨i + 1, _, by omega, by go_num, by rw [HST.out, if_pos ⟨hP, .inl hf0⟩], rfl⟩
          case measure => simp [intOf]; omega
        · by_cases hxf : (x : Int) < f
          · go_wp2_with fail
            go_roundw
            case rel => exact ⟨i + 1, _, by omega, by go_num, by rw [HST.out, if_pos ⟨hP, .inr hxf⟩], rfl⟩
            case measure => simp [intOf]; omega
          · go_wp2_with fail
            go_roundw
            case rel => exact ⟨i + 1, _, by omega, by go_num, by rw [HST.out, if_neg (fun h => by rcases h.2 with h | h <;> omega)], rfl⟩
            case measure => simp [intOf]; omega
    · obtain rfl : i = l.length := by omega
      rw [List.take_length]
      go_wp2_with fail
      go_ret
      exact ⟨rfl, _, rfl⟩
end Go.Proofs.Ytaehfohljblmoaa

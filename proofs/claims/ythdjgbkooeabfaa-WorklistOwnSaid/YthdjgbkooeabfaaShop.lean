/-
  NewByRank of the reference; and what the two kinds of queue have in common. Layer 5 (worklist).
-/
import Derived.Test.YthdjgbkooeabfaaNewRank
import Derived.Test.YthdjgbkooeabfaaRPop
namespace Go.Proofs.Ythdjgbkooeabfaa
open Go.RowKit

theorem rbyrank_any (w : World) (v : Value) (l : List Int) (hr : Rd w .i64 v l) (hl : l.length ≤ 65536) :
    Calls Try.prog 13 #[v] w fun en w' => ∃ R, en = .returned (.pointer (some ⟨R, 0, none⟩)) ∧ (∃ F, RefAt w' w.heap.size R (some l) l.length [] F) ∧ Frm w w' [] := by
  have HR := hide hr
  obtain ⟨A, c, rfl, hc, hm, -⟩ := hr
  have HC := hide (capacity_any (l.length : Int) w)
  have hrm : room (l.length : Int) = l.length := by unfold room; rw [if_neg (by omega), if_neg (by omega)]; omega
  rw [hrm] at HC
  clear hm hrm
  go_enter Try.func13, Try.ntmps13
  go_wp2_with (first | (go_at_call 23; refine HC.out.mono ?_; rintro en w' ⟨rfl, rfl⟩) | (refine wpList_append_rd _ rfl _ _ 30 rfl w.heap.size 3 .i64 8 intE _ [] rfl (own_empty w 3) _ l rfl (HR.out.alloc _) ?b1 ?b2 ?b3 ?_))
  case b1 => simp only [List.length_nil]; omega
  case b2 => unfold maxLen; simp only [List.length_nil]; omega
  case b3 => rw [World.size_alloc]; omega
  intro v' w2 ho hg hb hblk
  have ho : Own w2 w.heap.size 3 .i64 v' l := ho
  obtain ⟨A2, c2, rfl, -, -, -⟩ := ho.rd
  have hw : Frm w w2 [] := ((Frm.refl w []).alloc _).trans' (Frm.grown hg) (fun g hg' => .inr (by simp [Value.ownBlock] at hg'; omega))
  have HZ := hide (And.intro ho hw)
  clear ho hg hb hblk hw
  go_wp2_with fail
  go_ret
  obtain ⟨ho, hw⟩ := HZ.out
  exact ⟨_, rfl, ⟨_, _, _, Whole.new w2 _ _, Own.nil, ho.alloc _, fun g hg => (ho.size g hg).2, rfl, hw.size, Nat.zero_le _, hl⟩, hw.alloc _⟩

/-- The blocks from B on. -/
def blocks (B W : Nat) : List Nat := List.range' B W
theorem mem_blocks {B W g : Nat} : g ∈ blocks B W ↔ B ≤ g ∧ g < B + W := by unfold blocks; rw [List.mem_range'_1]

/-- ONE KIND OF QUEUE: what it reads as from block B on, and what each call answers. -/
structure Shop where
  rk : Option (List Int)
  n : Nat
  Q : World → Nat → List Nat → Prop
  W : Nat
  Pick : List Nat → Nat → Nat → Prop
  lt : ∀ {w B q}, Q w B q → B + W < w.heap.size
  frm : ∀ {w w' B q S}, Q w B q → Frm w w' S → (∀ g ∈ S, g < B ∨ B + W < g) → Q w' B q
  once : ∀ {w B q}, Q w B q → q.Nodup
  fits : ∀ {w B q}, Q w B q → ∀ x ∈ q, x < n
  short : ∀ {w B q}, Q w B q → q.length ≤ n ∧ n ≤ 65536
  push : ∀ {w B q} (x : Nat), Q w B q → x < n → x ∉ q → Calls Try.prog 14 #[.pointer (some ⟨B + W, 0, none⟩), .int .i64 x] w fun en w' => en = .returned (.bool true) ∧ Q w' B (q ++ [x]) ∧ Frm w w' (blocks B W)
  pushNo : ∀ {w B q} (x : Int), Q w B q → ¬ (0 ≤ x ∧ x < n ∧ x.toNat ∉ q) → Calls Try.prog 14 #[.pointer (some ⟨B + W, 0, none⟩), .int .i64 x] w fun en w' => en = .returned (.bool false) ∧ w = w'
  pop : ∀ {w B q}, Q w B q → q ≠ [] → ∃ k x, q[k]? = some x ∧ Pick q k x ∧ Calls Try.prog 15 #[.pointer (some ⟨B + W, 0, none⟩)] w fun en w' => en = .returned (.tuple #[.int .i64 x, .bool true]) ∧ Q w' B (q.eraseIdx k) ∧ Frm w w' (blocks B W)
  popNo : ∀ {w B}, Q w B [] → Calls Try.prog 15 #[.pointer (some ⟨B + W, 0, none⟩)] w fun en w' => en = .returned (.tuple #[.int .i64 0, .bool false]) ∧ w = w'
  len : ∀ {w B q}, Q w B q → Calls Try.prog 16 #[.pointer (some ⟨B + W, 0, none⟩)] w fun en w' => en = .returned (.int .i64 (q.length : Nat)) ∧ w = w'
  has : ∀ {w B q} (i : Int), Q w B q → Calls Try.prog 17 #[.pointer (some ⟨B + W, 0, none⟩), .int .i64 i] w fun en w' => en = .returned (.bool (decide (0 ≤ i ∧ i.toNat ∈ q))) ∧ w = w'
  one : ∀ {q : List Nat} {k k' x y}, q.Nodup → q[k]? = some x → q[k']? = some y → Pick q k x → Pick q k' y → k' = k
  first : ∀ {w L R q F}, RefAt w L R rk n q F → q ≠ [] → (∀ x ∈ q, x < n) → Calls Try.prog 27 #[.pointer (some ⟨R, 0, none⟩)] w fun en w' => (∃ k y, en = .returned (.int .i64 (k : Nat)) ∧ q[k]? = some y ∧ Pick q k y) ∧ Frm w w' []

theorem nodup_erase {q : List Nat} {k x : Nat} (hn : q.Nodup) (h : q[k]? = some x) : (q.eraseIdx k).Nodup ∧ ∀ j, j ∈ q.eraseIdx k ↔ j ∈ q ∧ j ≠ x := by
  have hp := erase_perm h
  have h1 := hp.nodup_iff.1 hn
  rw [List.nodup_cons] at h1
  refine ⟨h1.2, fun j => ?_⟩
  rw [hp.mem_iff, List.mem_cons]
  constructor
  · intro hj
    exact ⟨.inr hj, fun e => h1.1 (e ▸ hj)⟩
  · rintro ⟨h2 | h2, h3⟩
    · exact absurd h2 h3
    · exact h2
theorem nodup_idx {q : List Nat} {k k' x : Nat} (hn : q.Nodup) (h : q[k]? = some x) (h' : q[k']? = some x) : k' = k := (List.getElem?_inj (List.getElem?_eq_some_iff.1 h').1 hn).1 (h'.trans h.symm)

/-- A queue over a ring. -/
def ringShop (n : Nat) : Shop where
  rk := none
  n := n
  Q := fun w B q => QRing w B n q
  W := 3
  Pick := fun _ k _ => k = 0
  lt := fun h => h.lt
  frm := fun h hf hs => h.frm hf (fun g hg => by rcases hs g hg with h1 | h1 <;> omega)
  once := fun h => h.1.once
  fits := fun h => h.1.lt
  short := fun h => ⟨h.1.len, h.1.big⟩
  push := fun x h hx hq => (push_ring _ _ _ _ _ h.1 h.2 (by omega) x hx hq).mono fun _ _ ⟨a, b, c, d⟩ => ⟨a, ⟨b, c⟩, d.mono (fun g hg => .inl (mem_blocks.2 (by simp at hg; omega)))⟩
  pushNo := fun x h hx => push_no_ring _ _ _ _ _ h.1 x hx
  pop := fun {w B q} h hq => by
    cases q with
    | nil => exact absurd rfl hq
    | cons x p =>
      have hn := nodup_erase h.1.once (show (x :: p)[0]? = some x from rfl)
      exact ⟨0, x, rfl, rfl, (pop_ring _ _ _ _ _ h.1 h.2 (by omega) x p rfl (by simp) hn.1 hn.2).mono fun _ _ ⟨a, b, c, d⟩ => ⟨a, ⟨b, c⟩, d.mono (fun g hg => .inl (mem_blocks.2 (by simp at hg; omega)))⟩⟩
  popNo := fun h => pop_no_ring _ _ _ _ _ h.1 h.2 rfl
  len := fun h => len_ring _ _ _ _ _ h.1 h.2
  has := fun i h => has_q _ _ _ _ _ _ h.1 i
  one := fun _ _ _ h h' => h'.trans h.symm
  first := fun {w L R q F} h hq _ => (first_none w L R n q F h).mono fun _ _ ⟨a, b⟩ => ⟨⟨0, q[0]'(List.length_pos_iff.2 hq), a, List.getElem?_eq_getElem _, rfl⟩, b ▸ Frm.refl _ _⟩

/-- A queue over a heap. -/
def heapShop (l : List Int) : Shop where
  rk := some l
  n := l.length
  Q := fun w B q => QHeap w B l.length l q
  W := 4
  Pick := fun q _ x => Least l q x
  lt := fun h => h.lt
  frm := fun h hf hs => h.frm hf (fun g hg => by rcases hs g hg with h1 | h1 <;> omega)
  once := fun h => h.1.once
  fits := fun h => h.1.lt
  short := fun h => ⟨h.1.len, h.1.big⟩
  push := fun x h hx hq => (push_heap _ _ _ _ _ _ h.1 h.2 (by omega) x hx hq).mono fun _ _ ⟨a, b, c, d⟩ => ⟨a, ⟨b, c⟩, d.mono (fun g hg => .inl (mem_blocks.2 (by simp at hg; omega)))⟩
  pushNo := fun x h hx => push_no_heap _ _ _ _ _ h.1 x hx
  pop := fun {w B q} h hq => by
    obtain ⟨h', ⟨junk, r⟩, hp, hh⟩ := h.2
    have h0 : 0 < h'.length := by rw [hp.length_eq]; exact List.length_pos_iff.2 hq
    have hm : nth h' 0 ∈ q := hp.mem_iff.1 (by rw [nth_get (List.getElem?_eq_getElem h0)]; exact List.getElem_mem h0)
    have hl : Least l q (nth h' 0) := fun x hx => by
      obtain ⟨i, hi, hie⟩ := List.getElem_of_mem (hp.mem_iff.2 hx)
      have := hh.least i i hi (Nat.le_refl _)
      rw [nth_get (List.getElem?_eq_getElem hi), hie] at this
      exact this
    obtain ⟨k, hk⟩ := List.getElem?_of_mem hm
    have hn := nodup_erase h.1.once hk
    exact ⟨k, _, hk, hl, (pop_heap _ _ _ _ _ _ h.1 h.2 (by omega) _ _ hl (erase_perm hk) hm hn.1 hn.2).mono fun _ _ ⟨a, b, c, d⟩ => ⟨a, ⟨b, c⟩, d.mono (fun g hg => .inl (mem_blocks.2 (by simp at hg; omega)))⟩⟩
  popNo := fun h => pop_no_heap _ _ _ _ _ _ h.1 h.2 rfl
  len := fun h => len_heap _ _ _ _ _ _ h.1 h.2
  has := fun i h => has_q _ _ _ _ _ _ h.1 i
  one := fun hn hk hk' h h' => by
    have e := Bef.total (h' _ (List.mem_of_getElem? hk)) (h _ (List.mem_of_getElem? hk'))
    subst e
    exact nodup_idx hn hk hk'
  first := fun h hq hx => first_some _ _ _ _ l _ _ h hq hx
end Go.Proofs.Ythdjgbkooeabfaa

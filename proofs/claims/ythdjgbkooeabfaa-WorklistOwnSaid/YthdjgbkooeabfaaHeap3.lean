/-
  push, pop and size of the heap of layer 5 (worklist).
-/
import Derived.Test.YthdjgbkooeabfaaHeap2
import Derived.ArgAppend
namespace Go.Proofs.Ythdjgbkooeabfaa
open Go.RowKit

/-- 'append' where it is known what it comes to. -/
theorem wpList_append_run {P : Program} {w : World} {ops : Array Oper} {rest : List Oper} {o : Oper} {a : Act} {Q : Exit → Act → World → Prop} (hgd : o.guard = none) (s x : Operand) (t : TypeId)
    (ho : o.op = .call { callee := .builtin .append, args := #[s, x], argTypes := #[t, t] }) (v u v' : Value) (w' : World) (hs : a.eval s = v) (hx : a.eval x = u)
    (hrun : (Builtin.append_ #[t, t] o.type #[v, u]).run P w = .ok v' w') (h : wpList P ops Q rest (a.put o.dst v') w') : wpList P ops Q (o :: rest) a w := by
  refine wpList_plain hgd fun _ hK => ?_
  unfold Oper.wp execOp
  simp only [ho, resolve, invoke, builtin, Sem.run_bind, Sem.run_pure, Result.andThen_ok, List.map_toArray, List.map_cons, List.map_nil, hs, hx, hrun]
  exact hK _ _ h

/-- THE HEAP: a heap of the numbers q. -/
def HeapAt (w : World) (B n : Nat) (l : List Int) (q : List Nat) : Prop := ∃ h, RawAt w B n l h ∧ h.Perm q ∧ Hp l (nth h) h.length
theorem HeapAt.frm {w w' : World} {B n : Nat} {l : List Int} {q S : List Nat} (r : HeapAt w B n l q) (hf : Frm w w' S) (h0 : B ∉ S) (h1 : B + 1 ∉ S) (h2 : B + 2 ∉ S) : HeapAt w' B n l q := by
  obtain ⟨h, a, b, c⟩ := r
  exact ⟨h, a.frm hf h0 h1 h2, b, c⟩

theorem heap_size (w : World) (B n : Nat) (l : List Int) (q : List Nat) (r : HeapAt w B n l q) :
    Calls Try.prog 48 #[.pointer (some ⟨B + 2, 0, none⟩)] w fun en w' => en = .returned (.int .i64 (q.length : Nat)) ∧ w = w' := by
  obtain ⟨h, ⟨junk, r⟩, hp, -⟩ := r
  rw [← hp.length_eq]
  have c0 := r.self.cell 0
  have hfit := r.fit
  have h65 := r.big
  clear r hp
  go_enter Try.func48, Try.ntmps48
  go_wp2_with fail
  go_ret
  exact ⟨rfl, rfl⟩

theorem run_room (w : World) (B n m : Nat) (x : Int) (hm : m + 1 ≤ n) (hB : B < w.heap.size) (hc : (w.cell? ⟨B, m, none⟩).isSome = true) (hf : w.frozen? ⟨B, m, none⟩ = false) :
    (Builtin.append_ #[30, 30] 30 #[.slice (some ⟨B, 0, none⟩) m n, .slice (some ⟨w.heap.size, 0, none⟩) 1 1]).run Try.prog (w.alloc (.cells #[.int .i64 x] 3)) =
      .ok (.slice (some ⟨B, 0, none⟩) (m + 1) n) ((w.alloc (.cells #[.int .i64 x] 3)).setCell ⟨B, m, none⟩ (.int .i64 x)) := by
  obtain ⟨i, hi, hz, hs1, hby⟩ := info_parts infoInt
  have hb := Below.heap_alloc w (.cells #[.int .i64 x] 3) B hB
  have := run_append_room_cells (P := Try.prog) (w.alloc (.cells #[.int .i64 x] 3)) 30 30 3 i Try.underlying30 hi B 0 m n ⟨w.heap.size, 0, none⟩ 1 1 [.int .i64 x] (by simp [hs1])
    (fun j u hj => by
      cases j with
      | zero => simp only [List.getElem?_cons_zero, Option.some.injEq] at hj; subst hj; simp [go_sem]
      | succ j => simp at hj) (by simp [Value.oneCell']) hm
    (fun j hj => by
      obtain rfl : j = 0 := by simpa using hj
      rw [hs1, Nat.mul_one, Nat.zero_add, Nat.add_zero, World.cell?_of_block (a := ⟨B, m, none⟩) hb]; exact hc)
    (fun j hj => by
      obtain rfl : j = 0 := by simpa using hj
      rw [hs1, Nat.mul_one, Nat.zero_add, Nat.add_zero, World.frozen?_of_block (a := ⟨B, m, none⟩) hb]; exact hf)
  rw [hs1, Nat.mul_one, Nat.zero_add] at this
  exact this

theorem heap_push (w : World) (B n : Nat) (l : List Int) (q : List Nat) (r : HeapAt w B n l q) (x : Nat) (hr : q.length < n) (hx : x < n) :
    Calls Try.prog 47 #[.pointer (some ⟨B + 2, 0, none⟩), .int .i64 x] w fun en w' => en = .returned (.tuple #[]) ∧ HeapAt w' B n l (q ++ [x]) ∧ Frm w w' [B, B + 2] := by
  obtain ⟨h, ⟨junk, r⟩, hp, hh⟩ := r
  rw [← hp.length_eq] at hr
  have hfit := r.fit
  have h65 := r.big
  have c0 := r.self.cell 0
  obtain ⟨j0, js, rfl⟩ : ∃ a b, junk = a :: b := by
    cases junk with
    | nil => simp at hfit; omega
    | cons a b => exact ⟨a, b, rfl⟩
  have cm : w.cell? ⟨B, h.length, none⟩ = some (.int .i64 j0) := by
    rw [r.arr.cell]
    exact hcells_get _ _ _ _ _ (by rw [List.getElem?_append_right (by rw [ints_len]; exact Nat.le_refl _), ints_len, Nat.sub_self]; rfl)
  have hap := run_room w B n h.length x (by omega) r.arr.lt (by rw [cm]; rfl) (r.arr.free _)
  have hb0 : B + 2 < w.heap.size := r.self.lt
  have hset : hcells (h ++ [x]) js l = (hcells h (j0 :: js) l).setIfInBounds h.length (.int .i64 (x : Int)) := by
    unfold hcells
    rw [List.setIfInBounds_toArray, ← List.map_set, List.set_append_right _ _ (by rw [ints_len]; exact Nat.le_refl _), ints_len, Nat.sub_self]
    simp [ints]
  have k0 : Whole (w.alloc (.cells #[.int .i64 (x : Int)] 3)) B 3 _ := r.arr.alloc _
  have k2 : Whole ((w.alloc (.cells #[.int .i64 (x : Int)] 3)).setCell ⟨B, h.length, none⟩ (.int .i64 (x : Int))) (B + 2) 57 _ := (r.self.alloc _).far (p := ⟨B, h.length, none⟩) (by show B + 2 ≠ B; omega) _
  have k1 : Whole ((w.alloc (.cells #[.int .i64 (x : Int)] 3)).setCell ⟨B, h.length, none⟩ (.int .i64 (x : Int))) (B + 1) 30 _ := (r.box.alloc _).far (p := ⟨B, h.length, none⟩) (by show B + 1 ≠ B; omega) _
  have k3 := k0.set h.length (.int .i64 (x : Int))
  rw [← hset] at k3
  obtain ⟨w1, hw1⟩ : ∃ w1, w1 = (w.alloc (.cells #[.int .i64 (x : Int)] 3)).setCell ⟨B, h.length, none⟩ (.int .i64 (x : Int)) := ⟨_, rfl⟩
  have hf1 : Frm w w1 [B] := by rw [hw1]; exact ((Frm.refl w _).alloc _).setCell _ _ (.inl (by simp))
  rw [← hw1] at k1 k2 k3 hap
  clear hw1
  have c0' := k2.cell 0
  have f0' := k2.free 0
  have hr1 : Hid (RawAt (w1.setCell ⟨B + 2, 0, none⟩ (.slice (some ⟨B, 0, none⟩) (h.length + 1) n)) B n l (h ++ [x])) := hide ⟨js, k3.far (p := ⟨B + 2, 0, none⟩) (by show B ≠ B + 2; omega) _, k1.far (p := ⟨B + 2, 0, none⟩) (by show B + 1 ≠ B + 2; omega) _, by
      have := k2.set 0 (.slice (some ⟨B, 0, none⟩) (h.length + 1) n)
      rw [show (h ++ [x]).length = h.length + 1 by simp]
      exact this, by simp at hfit ⊢; omega, r.rk, fun y hy => by
        rcases List.mem_append.1 hy with h1 | h1
        · exact r.lt y h1
        · obtain rfl : y = x := by simpa using h1
          exact hx, h65⟩
  have hf2 : Hid (Frm w (w1.setCell ⟨B + 2, 0, none⟩ (.slice (some ⟨B, 0, none⟩) (h.length + 1) n)) [B, B + 2]) := hide ((hf1.mono (fun g hg => .inl (by simp at hg; simp [hg]))).setCell _ _ (.inl (by simp)))
  have d0 := (k2.set 0 (.slice (some ⟨B, 0, none⟩) (h.length + 1) n)).cell 0
  have HP := hide (And.intro hp (Up.snoc hh x))
  clear k0 k1 k2 k3 hf1 hset cm r hp hh
  go_enter Try.func47, Try.ntmps47
  go_wp2_with (first | (refine wpList_append_run rfl _ _ 30 rfl _ _ _ _ rfl rfl hap ?_))
  refine (rise_any _ B n l (h ++ [x]) hr1.out h.length (by simp) (by rw [show (h ++ [x]).length = h.length + 1 by simp]; exact HP.out.2)).mono ?_
  rintro en w2 ⟨rfl, h', r', p', hh', f'⟩
  have HZ : Hid (HeapAt w2 B n l (q ++ [x]) ∧ Frm w w2 [B, B + 2]) := hide ⟨⟨h', r', p'.trans (HP.out.1.append_right [x]), hh'⟩, hf2.out.trans (f'.mono (fun g hg => .inl (by simp at hg; simp [hg])))⟩
  clear r' p' hh' f' hr1 hf2 HP
  go_wp2_with fail
  go_end0
  exact ⟨rfl, HZ.out⟩

theorem hcells_cut (h : List Nat) (junk l : List Int) (m : Nat) (hm : h.length = m + 1) : hcells h junk l = hcells (h.take m) ((nth h m : Int) :: junk) l := by
  unfold hcells
  congr 2
  have e : h = h.take m ++ [nth h m] := by
    have h1 : m < h.length := by omega
    rw [nth_get (List.getElem?_eq_getElem h1), List.take_append_getElem h1, List.take_of_length_le (by omega)]
  conv => lhs; rw [e]
  simp [ints]

theorem heap_pop (w : World) (B n : Nat) (l : List Int) (q : List Nat) (r : HeapAt w B n l q) (x : Nat) (p : List Nat) (hx : x ∈ q) (hl : Least l q x) (hqp : q.Perm (x :: p)) :
    Calls Try.prog 46 #[.pointer (some ⟨B + 2, 0, none⟩)] w fun en w' => en = .returned (.int .i64 x) ∧ HeapAt w' B n l p ∧ Frm w w' [B, B + 2] := by
  obtain ⟨h, ⟨junk, r⟩, hp, hh⟩ := r
  have h0 : 0 < h.length := by rw [hp.length_eq]; exact List.length_pos_of_mem hx
  obtain ⟨m, hm⟩ : ∃ m, h.length = m + 1 := ⟨h.length - 1, by omega⟩
  have hxe : nth h 0 = x := by
    have hm0 : nth h 0 ∈ q := hp.mem_iff.1 (by rw [nth_get (List.getElem?_eq_getElem h0)]; exact List.getElem_mem h0)
    refine Bef.total (hl _ hm0) ?_
    obtain ⟨i, hi, hie⟩ := List.getElem_of_mem (hp.mem_iff.2 hx)
    have := hh.least i i hi (Nat.le_refl _)
    rw [nth_get (List.getElem?_eq_getElem hi), hie] at this
    exact this
  have hfit := r.fit
  have h65 := r.big
  have c0 := r.self.cell 0
  have ca := r.item h0
  have cz := r.item (show m < h.length by omega)
  rw [hxe] at ca
  obtain ⟨z, hz⟩ : ∃ z, z = nth h m := ⟨_, rfl⟩
  have hzn : z < n := by rw [hz]; exact r.nth_lt (by omega)
  rw [← hz] at cz
  have fa := r.arr.free 0
  rw [hm] at c0
  have hcut := Dn.cut hh z
  have hperm : p.Perm ((h.set 0 z).take m) := by
    have h1 := cut_perm (a := x) (z := z) (h := h) (by rw [List.getElem?_eq_getElem h0]; rw [nth_get (List.getElem?_eq_getElem h0)] at hxe; rw [hxe]) (by
      have : h.length - 1 < h.length := by omega
      rw [List.getElem?_eq_getElem this, hz, show m = h.length - 1 by omega, nth_get (List.getElem?_eq_getElem this)])
    rw [show h.length - 1 = m by omega] at h1
    exact (List.perm_cons x).1 ((hqp.symm.trans hp.symm).trans h1)
  rw [show h.length - 1 = m by omega] at hcut
  have hlt : ∀ y ∈ (h.set 0 z).take m, y < n := fun y hy => by
    rcases List.mem_or_eq_of_mem_set (List.mem_of_mem_take hy) with h1 | h1
    · exact r.lt y h1
    · omega
  have hlen2 : ((h.set 0 z).take m).length = m := by rw [List.length_take, List.length_set]; omega
  have harr : ∀ W : World, Whole W B 3 (hcells h junk l) → Whole (W.setCell ⟨B, 0, none⟩ (.int .i64 (z : Int))) B 3 (hcells ((h.set 0 z).take m) ((nth (h.set 0 z) m : Int) :: junk) l) := fun W hW => by
    rw [← hcells_cut _ _ _ m (by rw [List.length_set]; exact hm), ← hcells_set _ _ _ _ _ h0]
    exact hW.set 0 _
  have b65 : (m : Int) ≤ 65536 := by omega
  have HR := hide (And.intro r (And.intro hcut (And.intro hperm (And.intro hlt (And.intro hlen2 harr)))))
  have bm : (m : Int) < (m : Int) + 1 := by omega
  clear r hp hh hcut hperm hlt harr hl hqp hx hz hxe
  go_enter Try.func46, Try.ntmps46
  go_wp2_with fail
  go_quiet (fail)
  go_wp2_with fail
  go_region
  all_goals
    have k1 := HR.out.2.2.2.2.2 (w.drewN (nq + 1)) HR.out.1.arr
    have k2 : Whole ((w.drewN (nq + 1)).setCell ⟨B, 0, none⟩ (.int .i64 (z : Int))) (B + 2) 57 _ := Whole.far (w := w.drewN (nq + 1)) HR.out.1.self (p := ⟨B, 0, none⟩) (by show B + 2 ≠ B; omega) _
    have k3 : Whole ((w.drewN (nq + 1)).setCell ⟨B, 0, none⟩ (.int .i64 (z : Int))) (B + 1) 30 _ := Whole.far (w := w.drewN (nq + 1)) HR.out.1.box (p := ⟨B, 0, none⟩) (by show B + 1 ≠ B; omega) _
    obtain ⟨w1, hw1⟩ : ∃ w1, w1 = (w.drewN (nq + 1)).setCell ⟨B, 0, none⟩ (.int .i64 (z : Int)) := ⟨_, rfl⟩
    have hf1 : Frm w w1 [B, B + 2] := by rw [hw1]; exact ((Frm.refl w _).drewN (nq + 1)).setCell _ _ (.inl (by simp))
    rw [hm] at k2
    rw [← hw1] at k1 k2 k3 ⊢
    clear hw1
    have d0 := k2.cell 0
    have g0 := k2.free 0
    have k4 := k2.set 0 (.slice (some ⟨B, 0, none⟩) m n)
    have e0 := k4.cell 0
    have hr1 : Hid (RawAt (w1.setCell ⟨B + 2, 0, none⟩ (.slice (some ⟨B, 0, none⟩) m n)) B n l ((h.set 0 z).take m)) := hide ⟨_, k1.far (p := ⟨B + 2, 0, none⟩) (by show B ≠ B + 2; omega) _, k3.far (p := ⟨B + 2, 0, none⟩) (by show B + 1 ≠ B + 2; omega) _, by rw [HR.out.2.2.2.2.1]; exact k4, by rw [HR.out.2.2.2.2.1]; simp; omega, HR.out.1.rk, HR.out.2.2.2.1, h65⟩
    have hf2 : Hid (Frm w (w1.setCell ⟨B + 2, 0, none⟩ (.slice (some ⟨B, 0, none⟩) m n)) [B, B + 2]) := hide (hf1.setCell _ _ (.inl (by simp)))
    clear k1 k2 k3 k4 hf1 c0 ca cz fa
    go_wp2_with fail
    refine (sink_any _ B n l _ hr1.out (by rw [HR.out.2.2.2.2.1]; exact HR.out.2.1)).mono ?_
    rintro en w2 ⟨rfl, h', r', p', hh', f'⟩
    have HZ : Hid (HeapAt w2 B n l p ∧ Frm w w2 [B, B + 2]) := hide ⟨⟨h', r', p'.trans HR.out.2.2.1.symm, hh'⟩, hf2.out.trans (f'.mono (fun g hg => .inl (by simp at hg; simp [hg])))⟩
    clear r' p' hh' f' hr1 hf2 HR
    go_wp2_with fail
    go_ret
    exact ⟨rfl, HZ.out⟩
end Go.Proofs.Ythdjgbkooeabfaa

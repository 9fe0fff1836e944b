/-
  Layer 17 (memory): a memory behind its pointer; valid, Mark, poisonCells.
-/
import Derived.LaidEqlPtr
import Derived.Deep.QuietTactic
import Derived.BigQuiet
import Derived.Deep.RegionHeld3
import Derived.Test.YtjphechnadoblaaDoorMemA
import Derived.Test.YtjphechnadoblaaDoorOpA
namespace Go.Proofs.YtjphechnadoblaaDoor
open Go.RowKit

/-- An object: its cells' type, whether it is read-only, its cells, the block that they lie in. -/
structure OD where
  el : Int
  ro : Bool
  vs : List VD
  g : Nat
def OD.sl (o : OD) : Value := if o.vs = [] then .slice none 0 0 else .slice (some ⟨o.g, 0, none⟩) o.vs.length o.vs.length
def OD.cl (o : OD) : List Value := [.int .i64 o.el, o.sl, .bool o.ro]
/-- What an object that has been released is. -/
def goneO : OD := ⟨0, false, [], 0⟩
theorem goneO_cl : goneO.cl = [.int .i64 0, .slice none 0 0, .bool false] := rfl
def rowO (os : List OD) : List Value := os.flatMap OD.cl
theorem rowO_len : ∀ os : List OD, (rowO os).length = os.length * 3
  | [] => rfl
  | o :: r => by
    show (o.cl ++ rowO r).length = _
    rw [List.length_append, rowO_len r, List.length_cons]; show 3 + _ = _; omega
theorem rowO_at : ∀ (os : List OD) (i j : Nat) (o : OD), os[i]? = some o → j < 3 → (rowO os)[i * 3 + j]? = o.cl[j]?
  | [], i, j, o, h, _ => by simp at h
  | x :: r, 0, j, o, h, hj => by
    simp at h; subst h
    show (x.cl ++ rowO r)[_]? = _
    rw [List.getElem?_append_left (by show _ < 3; omega), Nat.zero_mul, Nat.zero_add]
  | x :: r, i + 1, j, o, h, hj => by
    show (x.cl ++ rowO r)[_]? = _
    rw [List.getElem?_append_right (by show 3 ≤ _; omega), show (i + 1) * 3 + j - x.cl.length = i * 3 + j by show _ - 3 = _; omega]
    exact rowO_at r i j o (by simpa using h) hj
theorem rowO_snoc (os : List OD) (o : OD) : rowO (os ++ [o]) = rowO os ++ o.cl := by unfold rowO; rw [List.flatMap_append]; simp
/-- THE MEMORY behind pointer x; all that it uses lies from block B on. -/
structure MemP (w : World) (B x : Nat) (sp OV : Value) (gl : Int) (os : List OD) : Prop where
  lx : B ≤ x
  m : Whole w x 72 #[OV, .int .i64 gl, sp]
  own : w.ownsRow B 86 3 OV os.length (rowO os)
  ax : OV.ownBlock ≠ some x
  vals : ∀ (i : Nat) (o : OD), os[i]? = some o → o.vs ≠ [] → B ≤ o.g ∧ o.g ≠ x ∧ OV.ownBlock ≠ some o.g ∧ Whole w o.g 46 (rowA o.vs)
  sep : ∀ (i j : Nat) (o p : OD), os[i]? = some o → os[j]? = some p → i ≠ j → o.vs ≠ [] → p.vs ≠ [] → o.g ≠ p.g
theorem MemP.below {w w' : World} {B x : Nat} {sp OV : Value} {gl : Int} {os : List OD} (h : MemP w B x sp OV gl os) (hb : Below w.heap.size w w') : MemP w' B x sp OV gl os :=
  ⟨h.lx, h.m.below' hb, World.ownsRow.kept (row := none) h.own ⟨hb.os, hb.tape, hb.output, hb.size, fun i hi _ => hb.block i hi⟩ (by
    cases hv : OV.ownBlock with
    | none => exact .inl rfl
    | some g => exact .inr (by simp)), h.ax, fun i o ho hn => by
      obtain ⟨h1, h2, h3, h4⟩ := h.vals i o ho hn
      exact ⟨h1, h2, h3, h4.below' hb⟩, h.sep⟩
theorem MemP.form {w : World} {B x : Nat} {sp OV : Value} {gl : Int} {os : List OD} (h : MemP w B x sp OV gl os) : ∃ A c, OV = .slice A os.length c ∧ c ≤ maxLen := by
  rcases h.own.2 with ⟨e, e2⟩ | ⟨g, cap, cur, e, _, _, _, hm, _⟩
  · exact ⟨none, 0, by rw [e, e2], by unfold maxLen; omega⟩
  · exact ⟨_, _, e, hm⟩
/-- .. one that New returned. -/
abbrev MemAt (w : World) (B x : Nat) (OV : Value) (gl : Int) (os : List OD) : Prop := MemP w B x (.pointer (some ⟨x, 0, none⟩)) OV gl os
theorem mptrSame (w : World) (a : Addr) : (binOp .eql 47 (.pointer (some a)) (.pointer (some a))).run Tryd.prog w = .ok (.bool true) w := by
  obtain ⟨i, hi, _⟩ := info_parts (P := Tryd.prog) (e := 72) (z := .agg #[.slice none 0 0, .int .i64 0, .pointer none]) (size := 3) (bytes := 40) (by kernel_rfl)
  exact run_eql_ptr_same w a Tryd.underlying47 hi
theorem mvalid_any {w : World} {B x : Nat} {OV : Value} {gl : Int} {os : List OD} (h : MemAt w B x OV gl os) : Calls Tryd.prog 37 #[.pointer (some ⟨x, 0, none⟩)] w fun e w' => e = .returned (.bool true) ∧ w = w' := by
  have c2 := h.m.cell 2
  have heq := mptrSame w ⟨x, 0, none⟩
  go_enter Tryd.func37, Tryd.ntmps37
  go_wp2_with fail
  go_ret
  exact ⟨rfl, rfl⟩
theorem mvalid_nil (w : World) : Calls Tryd.prog 37 #[.pointer none] w fun e w' => e = .returned (.bool false) ∧ w = w' := by
  go_enter Tryd.func37, Tryd.ntmps37
  go_wp2_with fail
  go_ret
  exact ⟨rfl, rfl⟩
theorem mark_any {w : World} {B x : Nat} {OV : Value} {gl : Int} {os : List OD} (h : MemAt w B x OV gl os) : Calls Tryd.prog 21 #[.pointer (some ⟨x, 0, none⟩)] w fun e w' => e = .returned (.int .i64 (os.length : Int)) ∧ w = w' := by
  obtain ⟨A, c, rfl, hc⟩ := h.form
  have hc9 : c ≤ 9223372036854775807 := by unfold maxLen at hc; omega
  have c0 := h.m.cell 0
  have HV := hide (mvalid_any h)
  clear h hc
  go_enter Tryd.func21, Tryd.ntmps21
  go_wp2_with fail
  refine HV.out.mono ?_
  rintro en wn ⟨rfl, rfl⟩
  go_wp2_with fail
  go_ret
  exact ⟨rfl, rfl⟩

theorem infoVal : (Tryd.prog.info? 46).map (fun i => (i.zero, i.size, i.bytes)) = some (some (.agg #[.int .i64 0, .int .i64 0, .int .i64 0, .bool false, .bool false, .int .i64 0, .bool false, .bool false, .int .i64 0, .bool false, .bool false, .int .i64 0, .bool false, .bool false]), 14, 80) := by kernel_rfl
theorem made_row (n : Nat) : madeCells (Value.agg #[.int .i64 0, .int .i64 0, .int .i64 0, .bool false, .bool false, .int .i64 0, .bool false, .bool false, .int .i64 0, .bool false, .bool false, .int .i64 0, .bool false, .bool false]).cells (n * 14) = rowA (List.replicate n zV) := by
  apply Array.ext'
  apply List.ext_getElem?
  intro k
  unfold rowA
  by_cases hk : k < n * 14
  · have hd : k / 14 < n := by omega
    have h1 := rowL_at (List.replicate n zV) (k / 14) (k % 14) zV (by rw [List.getElem?_replicate, if_pos hd]) (by omega)
    rw [show k / 14 * 14 + k % 14 = k by omega] at h1
    rw [List.toList_toArray, h1]
    have hz : (Value.agg #[.int .i64 0, .int .i64 0, .int .i64 0, .bool false, .bool false, .int .i64 0, .bool false, .bool false, .int .i64 0, .bool false, .bool false, .int .i64 0, .bool false, .bool false]).cells.size = 14 := rfl
    unfold madeCells
    rw [hz]
    simp [hk]
    have : ∀ j, j < 14 → some ((Value.agg #[.int .i64 0, .int .i64 0, .int .i64 0, .bool false, .bool false, .int .i64 0, .bool false, .bool false, .int .i64 0, .bool false, .bool false, .int .i64 0, .bool false, .bool false]).cells[j]!) = zV.cl[j]? := by
      intro j hj
      match j, hj with
      | 0, _ => rfl
      | 1, _ => rfl
      | 2, _ => rfl
      | 3, _ => rfl
      | 4, _ => rfl
      | 5, _ => rfl
      | 6, _ => rfl
      | 7, _ => rfl
      | 8, _ => rfl
      | 9, _ => rfl
      | 10, _ => rfl
      | 11, _ => rfl
      | 12, _ => rfl
      | 13, _ => rfl
    exact this _ (by omega)
  · rw [List.getElem?_eq_none (by simp [madeCells]; omega), List.getElem?_eq_none (by rw [List.toList_toArray, rowL_len, List.length_replicate]; omega)]
theorem mk_row (w : World) (n : Nat) (hn : n ≤ 256) : (Instr.makeSlice 66 (.int .i64 (n : Int)) (.int .i64 (n : Int))).run Tryd.prog w = .ok (.slice (some ⟨w.heap.size, 0, none⟩) n n) (w.alloc (.cells (rowA (List.replicate n zV)) 46)) := by
  obtain ⟨i, hi, hz, hs, hb⟩ := info_parts infoVal
  have h := run_make (P := Tryd.prog) w 66 46 i _ Tryd.underlying66 hi hz .i64 .i64 n n (by omega) (Int.le_refl _) (by rw [hb]; omega) (by omega)
  rw [hs, Int.toNat_natCast, made_row] at h
  exact h
theorem fill_step (i n : Nat) (h : i < n) (p z : VD) : (List.replicate i p ++ List.replicate (n - i) z).set i p = List.replicate (i + 1) p ++ List.replicate (n - (i + 1)) z := by
  rw [List.set_append_right _ _ (by simp), List.length_replicate, Nat.sub_self, show n - i = (n - (i + 1)) + 1 by omega, List.replicate_succ, List.set_cons_zero, List.replicate_succ']
  simp
theorem fill_at (i n : Nat) (h : i < n) {p z : VD} : (List.replicate i p ++ List.replicate (n - i) z)[i]? = some z := by
  rw [List.getElem?_append_right (by simp), List.length_replicate, Nat.sub_self, List.getElem?_replicate, if_pos (by omega)]
/-- What the rounds over new cells keep. -/
structure FillS (w W : World) (g cb : Nat) (t : Int) (n i : Nat) : Prop where
  b : Below w.heap.size w W
  row : Whole W g 46 (rowA (List.replicate i (pV t) ++ List.replicate (n - i) zV))
  c : Whole W cb 84 #[.int .i64 t, .slice (some ⟨g, 0, none⟩) n n]
  r : Whole W w.heap.size 84 #[.int .i64 0, .slice none 0 0]
  lg : w.heap.size < g
  ne : g ≠ cb
theorem FillS.next {w W W' : World} {g cb : Nat} {t : Int} {n i : Nat} (h : FillS w W g cb t n i) (hb : Below W.heap.size W W') : FillS w W' g cb t n i :=
  ⟨h.b.trans (hb.mono h.b.size), h.row.below' hb, h.c.below' hb, h.r.below' hb, h.lg, h.ne⟩
theorem FillS.cell1 {w W : World} {g cb : Nat} {t : Int} {n i : Nat} (h : FillS w W g cb t n i) : W.cell? ⟨cb, 1, none⟩ = some (.slice (some ⟨g, 0, none⟩) n n) := h.c.cell 1
theorem poisonC (t : Int) (ht : 2 ≤ t ∧ t ≤ 5) (w : World) : Calls Tryd.prog 62 #[.int .i64 t] w fun e w' => e = .returned (.agg #[.int .i64 t, .int .i64 0, .int .i64 0, .bool true, .bool false, .int .i64 0, .bool false, .bool false, .int .i64 0, .bool false, .bool false, .int .i64 0, .bool false, .bool false]) ∧ Below w.heap.size w w' := by
  have h := poison_any t w
  rw [mkPoison_1 (cell_1 ht)] at h
  exact h
theorem FillS.put' {w W : World} {g cb : Nat} {t : Int} {n i : Nat} (h : FillS w W g cb t n i) (hi : i < n) : FillS w (((((((((((((((W.setCell ⟨g, i * 14, none⟩ (.int .i64 (pV t).t)).setCell ⟨g, i * 14 + 1, none⟩ (.int .i64 (pV t).o)).setCell ⟨g, i * 14 + 2, none⟩ (.int .i64 (pV t).a.n)).setCell ⟨g, i * 14 + 3, none⟩ (.bool (pV t).a.p)).setCell ⟨g, i * 14 + 4, none⟩ (.bool (pV t).a.u)).setCell ⟨g, i * 14 + 5, none⟩ (.int .i64 (pV t).b.n)).setCell ⟨g, i * 14 + 6, none⟩ (.bool (pV t).b.p)).setCell ⟨g, i * 14 + 7, none⟩ (.bool (pV t).b.u)).setCell ⟨g, i * 14 + 8, none⟩ (.int .i64 (pV t).c.n)).setCell ⟨g, i * 14 + 9, none⟩ (.bool (pV t).c.p)).setCell ⟨g, i * 14 + 10, none⟩ (.bool (pV t).c.u)).setCell ⟨g, i * 14 + 11, none⟩ (.int .i64 (pV t).d.n)).setCell ⟨g, i * 14 + 12, none⟩ (.bool (pV t).d.p)).setCell ⟨g, i * 14 + 13, none⟩ (.bool (pV t).d.u))) g cb t n (i + 1) := by
  have h1 := row_put h.row (i := i) (by simp; omega) (pV t)
  rw [fill_step i n hi] at h1
  have h2 := below_put (k := i * 14) h.b (Nat.le_of_lt h.lg) (pV t)
  have h3 := only_put (k := i * 14) (only_refl W g) (pV t)
  have h4 : some cb ≠ some g := fun e => h.ne (Option.some.inj e).symm
  have h5 := h.c.grown h3 h4
  have h6 : some w.heap.size ≠ some g := fun e => by have := Option.some.inj e; have := h.lg; omega
  have h7 := h.r.grown h3 h6
  exact ⟨h2, h1, h5, h7, h.lg, h.ne⟩
theorem FillS.put {w W : World} {g cb : Nat} {t : Int} {n i : Nat} (h : FillS w W g cb t n i) (hi : i < n) : FillS w (((((((((((((((W.setCell ⟨g, i * 14, none⟩ (.int .i64 t)).setCell ⟨g, i * 14 + 1, none⟩ (.int .i64 0)).setCell ⟨g, i * 14 + 2, none⟩ (.int .i64 0)).setCell ⟨g, i * 14 + 3, none⟩ (.bool true)).setCell ⟨g, i * 14 + 4, none⟩ (.bool false)).setCell ⟨g, i * 14 + 5, none⟩ (.int .i64 0)).setCell ⟨g, i * 14 + 6, none⟩ (.bool false)).setCell ⟨g, i * 14 + 7, none⟩ (.bool false)).setCell ⟨g, i * 14 + 8, none⟩ (.int .i64 0)).setCell ⟨g, i * 14 + 9, none⟩ (.bool false)).setCell ⟨g, i * 14 + 10, none⟩ (.bool false)).setCell ⟨g, i * 14 + 11, none⟩ (.int .i64 0)).setCell ⟨g, i * 14 + 12, none⟩ (.bool false)).setCell ⟨g, i * 14 + 13, none⟩ (.bool false))) g cb t n (i + 1) := h.put' hi
set_option maxRecDepth 100000 in
set_option maxHeartbeats 4000000 in
theorem poisoncells_any (t : Int) (ht : 2 ≤ t ∧ t ≤ 5) (n : Nat) (hn : 1 ≤ n ∧ n ≤ 256) (w : World) : Calls Tryd.prog 39 #[.int .i64 t, .int .i64 (n : Int)] w fun e w' =>
    ∃ g, e = .returned (.agg #[.int .i64 t, .slice (some ⟨g, 0, none⟩) n n]) ∧ w.heap.size ≤ g ∧ Whole w' g 46 (rowA (List.replicate n (pV t))) ∧ Below w.heap.size w w' := by
  have hmk := fun W => mk_row W n hn.2
  have HP := hide (poisonC t ht)
  clear ht
  go_enter Tryd.func39, Tryd.ntmps39
  go_upto_region 2 with fail
  obtain ⟨q, hq⟩ : ∃ x, w.heap.size = x := ⟨_, rfl⟩
  obtain ⟨w1, hw1⟩ : ∃ x, ((w.alloc (.cells #[.int .i64 0, .slice none 0 0] 84)).alloc (.cells (rowA (List.replicate n zV)) 46)).alloc (.cells #[.int .i64 t, .slice (some ⟨w.heap.size + 1, 0, none⟩) n n] 84) = x := ⟨_, rfl⟩
  have HS : Hid (FillS w w1 (q + 1) (q + 1 + 1) t n 0) := hide (by
    have hb : Below w.heap.size w w1 := by rw [← hw1]; exact (((Below.refl _ _).alloc (Nat.le_refl _) _).alloc (by simp [go_sem]) _).alloc (by simp [go_sem]; omega) _
    refine ⟨hb, ?_, ?_, ?_, by omega, by omega⟩
    · rw [List.replicate_zero, List.nil_append, Nat.sub_zero, ← hw1, ← hq]
      have h0 := Whole.new (w.alloc (.cells #[.int .i64 0, .slice none 0 0] 84)) 46 (rowA (List.replicate n zV))
      rw [World.size_alloc] at h0
      exact h0.alloc _
    · rw [← hw1, ← hq]
      have h0 := Whole.new ((w.alloc (.cells #[.int .i64 0, .slice none 0 0] 84)).alloc (.cells (rowA (List.replicate n zV)) 46)) 84 #[.int .i64 t, .slice (some ⟨w.heap.size + 1, 0, none⟩) n n]
      rw [World.size_alloc, World.size_alloc] at h0
      exact h0
    · rw [← hw1]
      exact ((Whole.new w _ _).alloc _).alloc _)
  rw [hw1, hq]
  have HQ := hide hq
  clear hw1 hq hmk
  have c1 : w1.cell? ⟨q + 1 + 1, 1, none⟩ = some (.slice (some ⟨q + 1, 0, none⟩) n n) := HS.out.c.cell 1
  go_wp2_with fail
  clear c1
  obtain ⟨g, hg⟩ : ∃ x, q + 1 = x := ⟨_, rfl⟩
  rw [hg] at HS
  rw [hg]
  clear hg
  go_loopw [14] (fun v W => ∃ i : Nat, v = .int .i64 (i : Int) ∧ i ≤ n ∧ FillS w W g (g + 1) t n i) (fun v _ => n - (intOf v).toNat)
  case atStart => exact ⟨0, rfl, by omega, HS.out⟩
  case round =>
    obtain ⟨i, rfl, hi, hS⟩ := hrel
    replace HS := hide hS
    clear hS
    rcases Nat.lt_or_ge i n with hlt | hge
    · have HLT := hide hlt
      have q0 : (0 : Int) ≤ (i : Int) := by omega
      have q1 : (i : Int) < (n : Int) := by omega
      clear hlt
      go_upto_region 5 with fail
      replace HS := hide (HS.out.next ((Below.refl _ _).drew))
      go_region_held3 (fun w' => w'.cell? ⟨g + 1, 1, none⟩ = some (.slice (some ⟨g, 0, none⟩) n n)) (first | with_reducible exact HS.out.cell1 | with_reducible exact (HS.out.put HLT.out).cell1) (first | (go_at_call 62; refine (HP.out _).mono ?_; rintro en xn ⟨rfl, hb⟩; replace HS := hide (HS.out.next hb); clear hb; have hfr := HS.out.row.free; obtain ⟨r0,r1,r2,r3,r4,r5,r6,r7,r8,r9,r10,r11,r12,r13⟩ := row_cells HS.out.row (i := i) (v := zV) (fill_at i n HLT.out)))
      go_wp2_with fail
      go_roundw
      case rel => have := HLT.out; exact ⟨i + 1, by go_num, by omega, HS.out.put HLT.out⟩
      case measure => have := HLT.out; simp [intOf]; omega
    · obtain rfl : i = n := by omega
      have d0 := HS.out.c.cell 0
      have d1 := HS.out.c.cell 1
      have e0 := HS.out.r.cell 0
      have e1 := HS.out.r.cell 1
      have f0 := HS.out.r.free 0
      have f1 := HS.out.r.free 1
      rw [HQ.out] at e0 e1 f0 f1
      go_wp2_with fail
      have hr := HS.out.row
      rw [Nat.sub_self, List.replicate_zero, List.append_nil] at hr
      have hq2 : q ≠ g := by have := HS.out.lg; rw [HQ.out] at this; omega
      have hR := ((HS.out.r.set 0 (.int .i64 t)).set 1 (.slice (some ⟨g, 0, none⟩) i i))
      rw [HQ.out] at hR
      have k0 := hR.cell 0
      have k1 := hR.cell 1
      refine bodyPost_ret (v := .agg #[.int .i64 t, .slice (some ⟨g, 0, none⟩) i i]) ?_ rfl ⟨g, rfl, Nat.le_of_lt HS.out.lg, (hr.far (p := ⟨q, 0, none⟩) (fun e => hq2 e.symm) _).far (p := ⟨q, 1, none⟩) (fun e => hq2 e.symm) _, (HS.out.b.setCell (by rw [← HQ.out]; exact Nat.le_refl _) _).setCell (by rw [← HQ.out]; exact Nat.le_refl _) _⟩
      simp [results, Tryd.f39, go_sem, k0, k1]
end Go.Proofs.YtjphechnadoblaaDoor

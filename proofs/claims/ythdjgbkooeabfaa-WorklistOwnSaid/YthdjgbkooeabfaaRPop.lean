/-
  The reference's Pop, layer 5 (worklist).
-/
import Derived.Test.YthdjgbkooeabfaaFirst
namespace Go.Proofs.Ythdjgbkooeabfaa
open Go.RowKit

/-- A row of the call's own, empty but made. -/
theorem own_empty (w : World) (t : TypeId) : Own (w.alloc (.cells #[] t)) w.heap.size t .i64 (.slice (some ⟨w.heap.size, 0, none⟩) 0 0) [] :=
  ⟨rfl, .inr ⟨w.heap.size, 0, #[], rfl, Nat.le_refl _, heap_alloc_new w _, Nat.le_refl _, by unfold maxLen; omega, rfl, rfl⟩⟩

/-- Pop of an empty queue. -/
theorem rpop_no (w : World) (L R : Nat) (rk : Option (List Int)) (n : Nat) (F : List Nat) (h : RefAt w L R rk n [] F) :
    Calls Try.prog 18 #[.pointer (some ⟨R, 0, none⟩)] w fun en w' => en = .returned (.tuple #[.int .i64 0, .bool false]) ∧ w = w' := by
  obtain ⟨rv, iv, h1, h2, -⟩ := h
  obtain ⟨A, c, rfl, hc, -, -⟩ := h2.rd
  have hl : (ints []).length = 0 := rfl
  rw [hl] at h1
  have c0 := h1.cell 0
  have c4 := h1.cell 4
  clear h1 h2
  go_enter Try.func18, Try.ntmps18
  go_wp2_with fail
  go_ret2
  exact ⟨rfl, rfl⟩

/-- Pop: the integer at the place that first names. -/
theorem rpop_at (w : World) (L R : Nat) (rk : Option (List Int)) (n : Nat) (q F : List Nat) (h : RefAt w L R rk n q F) (P : Nat → Nat → Prop)
    (hfirst : Calls Try.prog 27 #[.pointer (some ⟨R, 0, none⟩)] w fun en w' => (∃ k y, en = .returned (.int .i64 (k : Nat)) ∧ q[k]? = some y ∧ P k y) ∧ Frm w w' []) (hq : q ≠ []) :
    Calls Try.prog 18 #[.pointer (some ⟨R, 0, none⟩)] w fun en w' => ∃ k y F', en = .returned (.tuple #[.int .i64 (y : Nat), .bool true]) ∧ q[k]? = some y ∧ P k y ∧ RefAt w' L R rk n (q.eraseIdx k) F' ∧ Frm w w' F ∧ ∀ g ∈ F', g ∈ F ∨ w.heap.size ≤ g := by
  have HF := hide hfirst
  have HH := hide h
  have h0q : 0 < q.length := List.length_pos_iff.2 hq
  obtain ⟨rv, iv, h1, h2, h3, h4, rfl, hLR, h65, hn⟩ := h
  have hil : (ints q).length = q.length := ints_len q
  obtain ⟨A, c, rfl, hc, hm, -⟩ := h2.rd
  rw [hil] at h1 hc h2 HH
  have c0 := h1.cell 0
  have c4 := h1.cell 4
  have hc9 : c ≤ 9223372036854775807 := by unfold maxLen at hm; omega
  have t0 : (((q.length : Nat) : Int) == 0) = false := by rw [beq_eq_false_iff_ne]; omega
  have hRs := h1.lt
  have H := hide (And.intro h1 (And.intro h2 (And.intro h3 h4)))
  clear h1 h2 h3 h4 hfirst hq hm
  go_enter Try.func18, Try.ntmps18
  go_wp2_with fail
  refine HF.out.mono ?_
  rintro en w1 ⟨⟨k, y, rfl, hk, hP⟩, hf⟩
  have hkl : k < q.length := (List.getElem?_eq_some_iff.1 hk).1
  have hkl' : (k : Int) < q.length := by omega
  obtain ⟨hW, hI, hV, hVR⟩ := H.out
  have hW1 := hW.frm hf (by simp)
  have hI1 := hI.frmS hf (fun _ _ => by simp)
  have hV1 := hV.frmS hf (fun _ _ => by simp)
  obtain ⟨g, cap, e, hcap, -, hgR, hgs⟩ := hI1.form (by rw [hil]; exact h0q)
  injection e with e e1 e2
  subst e e2
  clear e1
  have cy : w1.cell? ⟨g, k, none⟩ = some (.int .i64 (y : Nat)) := hI1.cellAt (by rw [ints_get, hk]; rfl)
  have d4 := hW1.cell 4
  have d5 := (hW1.alloc (.cells #[] 3)).cell 4
  have hkc : k ≤ c := by omega
  have hkc' : (k : Int) ≤ c := by omega
  have hsz1 : w.heap.size ≤ w1.heap.size := hf.size
  have hlen65 : (q.length : Int) ≤ 65536 := by omega
  have hgw := (hI.size g rfl).2
  have H1 := hide (And.intro hW1 (And.intro hI1 (And.intro hV1 (And.intro hVR (And.intro hk (And.intro hP hf))))))
  have hfr : Rd w1 .i64 (.slice (some ⟨g, 0, none⟩) k c) ((ints q).take k) := Rd.front (n := q.length) hI1.rd (by rw [hil]; omega)
  have HFR := hide hfr
  have htk : ((ints q).take k).length = k := by rw [List.length_take, hil]; omega
  clear hW hI hV hVR hW1 hI1 hV1 hk hP hf hfr c0 c4 H HF hcap
  go_wp2_with (refine wpList_append_rd _ rfl _ _ 30 rfl w1.heap.size 3 .i64 8 intE _ [] rfl (own_empty w1 3) _ ((ints q).take k) rfl (HFR.out.alloc _) ?b1 ?b2 ?b3 ?_)
  case b1 => simp only [List.length_nil, htk]; omega
  case b2 => unfold maxLen; simp only [List.length_nil, htk]; omega
  case b3 => rw [World.size_alloc]; omega
  intro v' w2 ho hg hb hblk
  have ho : Own w2 w1.heap.size 3 .i64 v' ((ints q).take k) := ho
  obtain ⟨A2, c2, rfl, -, -, -⟩ := ho.rd
  rw [htk] at ho ⊢
  have hB2 : Below w1.heap.size w1 w2 := ((Below.refl _ w1).alloc (Nat.le_refl _) _).trans hb
  have HO := hide ho
  have hW2 := H1.out.1.below hB2 (by omega)
  have e4 := hW2.cell 4
  have HB2 := hide (And.intro hB2 hW2)
  clear ho hg hb hblk hB2 hW2 d4 d5 cy HFR
  have hdr : ((ints q).drop (k + 1)).length = q.length - (k + 1) := by rw [List.length_drop, hil]
  have hnew : (ints q).take k ++ (ints q).drop (k + 1) = ints (q.eraseIdx k) := by
    rw [List.eraseIdx_eq_take_drop_succ]
    simp [ints, List.map_take, List.map_drop]
  by_cases hcc : c = k + 1
  · have HRB : Hid (Rd w2 .i64 (.slice (some ⟨g, 0, none⟩) (q.length - (k + 1)) (c - (k + 1))) ((ints q).drop (k + 1))) := hide (Rd.back (n := q.length) (H1.out.2.1.rd.below' HB2.out.1) (by rw [hil]; omega) _ (.inr (by rw [hil]; omega)))
    subst hcc
    rw [Nat.sub_self, show q.length - (k + 1) = 0 by omega] at HRB
    clear e4
    have e4 := HB2.out.2.cell 4
    go_wp2_with (refine wpList_append_rd _ rfl _ _ 30 rfl w1.heap.size 3 .i64 8 intE _ ((ints q).take k) rfl HO.out _ ((ints q).drop (k + 1)) rfl HRB.out ?b1 ?b2 ?b3 ?_)
    case b1 => simp only [hdr, htk]; omega
    case b2 => unfold maxLen; simp only [hdr, htk]; omega
    case b3 => exact HB2.out.1.size
    intro v3 w3 ho hg hb hblk
    have ho : Own w3 w1.heap.size 3 .i64 v3 (ints (q.eraseIdx k)) := ho
    obtain ⟨A3, c3, rfl, -, -, -⟩ := ho.rd
    have hB3 : Below w1.heap.size w1 w3 := HB2.out.1.trans hb
    have hW3 := H1.out.1.below hB3 (by omega)
    have e5 := hW3.cell 4
    have f5 := hW3.free 4
    have HZ := hide (And.intro ho (And.intro hB3 hW3))
    clear ho hg hb hblk hB3 hW3 e4 HRB HO
    go_wp2_with fail
    go_ret2
    obtain ⟨ho, hB3, hW3⟩ := HZ.out
    obtain ⟨hW1, hI1, hV1, hVR, hk, hP, hf⟩ := H1.out
    have hset : ∀ u, Frm w3 (w3.setCell ⟨R, 4, none⟩ u) [R] := fun u => (Frm.refl w3 [R]).setCell _ _ (.inl (by simp))
    have hw : Frm w w3 [] := hf.trans (Frm.below hB3)
    refine ⟨k, y, _, rfl, hk, hP, ⟨rv, _, hW3.set 4 _, (ho.frmS (hset _) (fun j hj hm => ?_)).low (by omega), (hV1.below' hB3).frmS (hset _) (fun j hj hm => ?_), hVR, rfl, hLR, ?_, hn⟩, ?_, fun j hj => ?_⟩
    · have := (ho.size j hj).1
      obtain rfl : j = R := by simpa using hm
      omega
    · have := hVR j hj
      obtain rfl : j = R := by simpa using hm
      omega
    · rw [List.length_eraseIdx]; split <;> omega
    · exact (hw.mono (fun j hj => (by cases hj))).trans ((hset _).mono (fun j hj => .inl (by simp at hj; simp [hj])))
    · simp only [List.mem_cons, List.mem_append, Option.mem_toList] at hj ⊢
      rcases hj with rfl | hj | hj
      · exact .inl (.inl rfl)
      · exact .inr (by have := (ho.size j hj).1; omega)
      · exact .inl (.inr (.inr hj))
  · have HRB : Hid (Rd w2 .i64 (.slice (some ⟨g, k + 1, none⟩) (q.length - (k + 1)) (c - (k + 1))) ((ints q).drop (k + 1))) := hide (Rd.back (n := q.length) (H1.out.2.1.rd.below' HB2.out.1) (by rw [hil]; omega) _ (.inl (by simp)))
    go_wp2_with (refine wpList_append_rd _ rfl _ _ 30 rfl w1.heap.size 3 .i64 8 intE _ ((ints q).take k) rfl HO.out _ ((ints q).drop (k + 1)) rfl HRB.out ?b1 ?b2 ?b3 ?_)
    case b1 => simp only [hdr, htk]; omega
    case b2 => unfold maxLen; simp only [hdr, htk]; omega
    case b3 => exact HB2.out.1.size
    intro v3 w3 ho hg hb hblk
    have ho : Own w3 w1.heap.size 3 .i64 v3 (ints (q.eraseIdx k)) := ho
    obtain ⟨A3, c3, rfl, -, -, -⟩ := ho.rd
    have hB3 : Below w1.heap.size w1 w3 := HB2.out.1.trans hb
    have hW3 := H1.out.1.below hB3 (by omega)
    have e5 := hW3.cell 4
    have f5 := hW3.free 4
    have HZ := hide (And.intro ho (And.intro hB3 hW3))
    clear ho hg hb hblk hB3 hW3 e4 HRB HO
    go_wp2_with fail
    go_ret2
    obtain ⟨ho, hB3, hW3⟩ := HZ.out
    obtain ⟨hW1, hI1, hV1, hVR, hk, hP, hf⟩ := H1.out
    have hset : ∀ u, Frm w3 (w3.setCell ⟨R, 4, none⟩ u) [R] := fun u => (Frm.refl w3 [R]).setCell _ _ (.inl (by simp))
    have hw : Frm w w3 [] := hf.trans (Frm.below hB3)
    refine ⟨k, y, _, rfl, hk, hP, ⟨rv, _, hW3.set 4 _, (ho.frmS (hset _) (fun j hj hm => ?_)).low (by omega), (hV1.below' hB3).frmS (hset _) (fun j hj hm => ?_), hVR, rfl, hLR, ?_, hn⟩, ?_, fun j hj => ?_⟩
    · have := (ho.size j hj).1
      obtain rfl : j = R := by simpa using hm
      omega
    · have := hVR j hj
      obtain rfl : j = R := by simpa using hm
      omega
    · rw [List.length_eraseIdx]; split <;> omega
    · exact (hw.mono (fun j hj => (by cases hj))).trans ((hset _).mono (fun j hj => .inl (by simp at hj; simp [hj])))
    · simp only [List.mem_cons, List.mem_append, Option.mem_toList] at hj ⊢
      rcases hj with rfl | hj | hj
      · exact .inl (.inl rfl)
      · exact .inr (by have := (ho.size j hj).1; omega)
      · exact .inl (.inr (.inr hj))
end Go.Proofs.Ythdjgbkooeabfaa

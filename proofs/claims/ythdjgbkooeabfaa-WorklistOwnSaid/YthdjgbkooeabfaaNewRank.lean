/-
  NewByRank of layer 5 (worklist).
-/
import Derived.Test.YthdjgbkooeabfaaQHeap
import Derived.Laws.CopyOwn
namespace Go.Proofs.Ythdjgbkooeabfaa
open Go.RowKit

/-- A queue over a heap. -/
def QHeap (w : World) (B n : Nat) (l : List Int) (q : List Nat) : Prop := QAt w (B + 3) n 55 (B + 2) q ∧ HeapAt w B n l q
theorem QHeap.frm {w w' : World} {B n : Nat} {l : List Int} {q S : List Nat} (h : QHeap w B n l q) (hf : Frm w w' S) (hs : ∀ g ∈ S, g < B ∨ B + 5 ≤ g) : QHeap w' B n l q := by
  have key : ∀ i, i < 5 → B + i ∉ S := fun i hi hg => by rcases hs _ hg with h | h <;> omega
  exact ⟨h.1.frm hf (key 3 (by omega)) (key 4 (by omega)), h.2.frm hf (key 0 (by omega)) (key 1 (by omega)) (key 2 (by omega))⟩
theorem QHeap.lt {w : World} {B n : Nat} {l : List Int} {q : List Nat} (h : QHeap w B n l q) : B + 4 < w.heap.size := h.1.self.lt

theorem hcells_new (l : List Int) : ((icells (List.replicate (2 * l.length) 0)).toList.take l.length ++ (l.map (Value.int .i64) ++ (icells (List.replicate (2 * l.length) 0)).toList.drop (l.length + (l.map (Value.int .i64)).length))).toArray = hcells [] (List.replicate l.length 0) l := by
  have e : (icells (List.replicate (2 * l.length) 0)).toList = List.replicate (2 * l.length) (.int .i64 0) := by simp [icells]
  rw [e, List.take_replicate, List.drop_of_length_le (by simp; omega)]
  unfold hcells
  simp [ints, Nat.min_eq_left (show l.length ≤ 2 * l.length by omega)]

theorem byrank_pos (w : World) (v : Value) (l : List Int) (hr : Rd w .i64 v l) (hl : l.length ≤ 65536) (h0 : 0 < l.length) :
    Calls Try.prog 12 #[v] w fun en w' => en = .returned (.pointer (some ⟨w.heap.size + 4, 0, none⟩)) ∧ QHeap w' w.heap.size l.length l [] ∧ Frm w w' [] := by
  have HR := hide hr
  obtain ⟨A, c, rfl, hc, hm, hrd⟩ := hr
  obtain ⟨b, off, rfl, hbl, hcell⟩ := hrd h0
  obtain ⟨n, hn⟩ : ∃ n, n = l.length := ⟨_, rfl⟩
  rw [← hn] at hl h0 hc ⊢
  have h65 : ¬ ((65536 : Int) < n) := by omega
  have h65' : (n : Int) ≤ 65536 := by omega
  have hmk : (Instr.makeSlice 30 (.int .i64 (2 * (n : Int))) (.int .i64 (2 * (n : Int)))).run Try.prog w = .ok (.slice (some ⟨w.heap.size, 0, none⟩) (2 * n) (2 * n)) (w.alloc (.cells (icells (List.replicate (2 * n) 0)) 3)) := by
    have := run_ints w (2 * n) (by omega)
    rw [Int.natCast_mul] at this
    exact this
  have h0' : ¬ n = 0 := by omega
  have H := hide (And.intro hn hcell)
  clear hcell hrd hm hn
  go_enter Try.func12, Try.ntmps12
  go_wp2_with fail
  go_region
  rw [show 2 * n - n = n by omega]
  have k0 : Whole ((w.alloc (.cells (icells (List.replicate (2 * n) 0)) 3)).alloc (.cells #[.slice (some ⟨w.heap.size, n, none⟩) n n] 30)).drew w.heap.size 3 (icells (List.replicate (2 * n) 0)) := (Whole.new w 3 _).alloc _
  have k1 : Whole ((w.alloc (.cells (icells (List.replicate (2 * n) 0)) 3)).alloc (.cells #[.slice (some ⟨w.heap.size, n, none⟩) n n] 30)).drew (w.heap.size + 1) 30 #[.slice (some ⟨w.heap.size, n, none⟩) n n] := by
    have := Whole.new (w.alloc (.cells (icells (List.replicate (2 * n) 0)) 3)) 30 #[.slice (some ⟨w.heap.size, n, none⟩) n n]
    rw [World.size_alloc] at this
    exact this
  have hf : Frm w ((w.alloc (.cells (icells (List.replicate (2 * n) 0)) 3)).alloc (.cells #[.slice (some ⟨w.heap.size, n, none⟩) n n] 30)).drew [] := (((Frm.refl w []).alloc _).alloc _).trans (Frm.drew _ _)
  have hsz : ((w.alloc (.cells (icells (List.replicate (2 * n) 0)) 3)).alloc (.cells #[.slice (some ⟨w.heap.size, n, none⟩) n n] 30)).drew.heap.size = w.heap.size + 2 := by
    show ((w.alloc _).alloc _).heap.size = _
    rw [World.size_alloc, World.size_alloc]
  obtain ⟨wz, hwz⟩ : ∃ wz, wz = ((w.alloc (.cells (icells (List.replicate (2 * n) 0)) 3)).alloc (.cells #[.slice (some ⟨w.heap.size, n, none⟩) n n] 30)).drew := ⟨_, rfl⟩
  rw [← hwz] at k0 k1 hf hsz ⊢
  clear hwz hmk
  have c1 := k1.cell 0
  have hln : (l.map (Value.int .i64)).length = n := by rw [List.length_map]; exact H.out.1.symm
  have hrow : ((icells (List.replicate (2 * n) 0)).toList.take n ++ (l.map (Value.int .i64) ++ (icells (List.replicate (2 * n) 0)).toList.drop (n + n))).toArray = hcells [] (List.replicate n 0) l := by
    have := hcells_new l
    rw [hln, ← H.out.1] at this
    exact this
  have hsize : (Try.prog.info? 3).map (·.size) = some 1 := by kernel_rfl
  have K := hide (And.intro k0 (And.intro k1 hf))
  have q0 : Hid (Whole (wz.setRow w.heap.size (hcells [] (List.replicate n 0) l)) w.heap.size 3 (hcells [] (List.replicate n 0) l)) := hide (setRow_heap wz w.heap.size _ _ 3 _ k0)
  have q1 : Hid (Whole (wz.setRow w.heap.size (hcells [] (List.replicate n 0) l)) (w.heap.size + 1) 30 #[.slice (some ⟨w.heap.size, n, none⟩) n n]) := hide ((setRow_other wz w.heap.size (w.heap.size + 1) _ (by omega)).trans k1)
  have q2 : Hid (Frm w (wz.setRow w.heap.size (hcells [] (List.replicate n 0) l)) []) := hide (hf.trans' (T := [w.heap.size]) ⟨rfl, rfl, rfl, by simp [World.setRow], fun i _ hi => setRow_other wz w.heap.size i _ (by simpa using hi)⟩ (fun g hg => .inr (by simp at hg; omega)))
  have q3 : (wz.setRow w.heap.size (hcells [] (List.replicate n 0) l)).heap.size = w.heap.size + 2 := by simp [World.setRow, hsz]
  clear k0 k1 hf
  have HN := hide (newQueue_any ((wz.setRow w.heap.size (hcells [] (List.replicate n 0) l)).alloc (.cells #[.slice (some ⟨w.heap.size, 0, none⟩) 0 n, fv w.heap.size] 57)) n 55 (w.heap.size + 2) hl)
  have r2 := Whole.new (wz.setRow w.heap.size (hcells [] (List.replicate n 0) l)) 57 #[.slice (some ⟨w.heap.size, 0, none⟩) 0 n, fv w.heap.size]
  rw [q3] at r2
  have HRAW : Hid (RawAt ((wz.setRow w.heap.size (hcells [] (List.replicate n 0) l)).alloc (.cells #[.slice (some ⟨w.heap.size, 0, none⟩) 0 n, fv w.heap.size] 57)) w.heap.size n l []) := hide ⟨List.replicate n 0, q0.out.alloc _, q1.out.alloc _, r2, by simp, H.out.1.symm, fun x hx => (by cases hx), hl⟩
  have HFR := hide (q2.out.alloc (.cells #[.slice (some ⟨w.heap.size, 0, none⟩) 0 n, fv w.heap.size] 57))
  clear r2 q0 q1 q2
  go_wp2_with (refine wpList_copy_own rfl (.tmp 24) (.tmp 25) 30 30 rfl 3 Try.underlying30 hsize w.heap.size n _ _ ⟨b, off, none⟩ _ _ rfl rfl _ 3 K.out.1 (l.map (Value.int .i64)) ?b1 ?b2 ?b3 ?b4 ?_)
  case b1 => rw [hln]; exact (Nat.min_self n).symm
  case b2 =>
    intro j v hj
    rw [List.getElem?_map] at hj
    obtain ⟨x, hx, rfl⟩ := Option.map_eq_some_iff.1 hj
    rw [Go.WideShapes.add_plain]
    exact (K.out.2.2.cell (p := ⟨b, off + j, none⟩) hbl (by simp)).trans (H.out.2 j x hx)
  case b3 => rw [hln, icells_size, List.length_replicate]; omega
  case b4 =>
    intro v hv
    simp only [List.mem_map] at hv
    obtain ⟨x, _, rfl⟩ := hv
    rfl
  refine HN.out.mono ?_
  rintro en w2 ⟨rfl, hq, hf⟩
  rw [World.size_alloc, q3] at *
  have HZ : Hid (QHeap w2 w.heap.size n l [] ∧ Frm w w2 []) := hide ⟨⟨hq, ⟨[], HRAW.out.frm hf (by simp) (by simp) (by simp), List.Perm.refl _, fun i h0 hm => (by simp at hm)⟩⟩, HFR.out.trans hf⟩
  clear hq hf HN HRAW HFR
  go_wp2_with fail
  go_ret
  exact ⟨rfl, HZ.out⟩

theorem byrank_zero (w : World) (v : Value) (l : List Int) (hr : Rd w .i64 v l) (h0 : l.length = 0) :
    Calls Try.prog 12 #[v] w fun en w' => en = .returned (.pointer (some ⟨w.heap.size + 4, 0, none⟩)) ∧ QHeap w' w.heap.size l.length l [] ∧ Frm w w' [] := by
  obtain ⟨A, c, rfl, hc, hm, hrd⟩ := hr
  obtain rfl : l = [] := List.eq_nil_of_length_eq_zero h0
  clear hrd hm h0
  have hmk : (Instr.makeSlice 30 (.int .i64 0) (.int .i64 0)).run Try.prog w = .ok (.slice (some ⟨w.heap.size, 0, none⟩) 0 0) (w.alloc (.cells (icells []) 3)) := run_ints w 0 (by omega)
  go_enter Try.func12, Try.ntmps12
  go_wp2_with fail
  go_region
  have k0 : Whole ((w.alloc (.cells (icells []) 3)).alloc (.cells #[.slice (some ⟨w.heap.size, 0, none⟩) 0 0] 30)).drew w.heap.size 3 (icells []) := (Whole.new w 3 _).alloc _
  have k1 : Whole ((w.alloc (.cells (icells []) 3)).alloc (.cells #[.slice (some ⟨w.heap.size, 0, none⟩) 0 0] 30)).drew (w.heap.size + 1) 30 #[.slice (some ⟨w.heap.size, 0, none⟩) 0 0] := by
    have := Whole.new (w.alloc (.cells (icells []) 3)) 30 #[.slice (some ⟨w.heap.size, 0, none⟩) 0 0]
    rw [World.size_alloc] at this
    exact this
  have hf : Frm w ((w.alloc (.cells (icells []) 3)).alloc (.cells #[.slice (some ⟨w.heap.size, 0, none⟩) 0 0] 30)).drew [] := (((Frm.refl w []).alloc _).alloc _).trans (Frm.drew _ _)
  have q3 : ((w.alloc (.cells (icells []) 3)).alloc (.cells #[.slice (some ⟨w.heap.size, 0, none⟩) 0 0] 30)).drew.heap.size = w.heap.size + 2 := by
    show ((w.alloc _).alloc _).heap.size = _
    rw [World.size_alloc, World.size_alloc]
  obtain ⟨wz, hwz⟩ : ∃ wz, wz = ((w.alloc (.cells (icells []) 3)).alloc (.cells #[.slice (some ⟨w.heap.size, 0, none⟩) 0 0] 30)).drew := ⟨_, rfl⟩
  rw [← hwz] at k0 k1 hf q3 ⊢
  clear hwz hmk
  have c1 := k1.cell 0
  have hsize : (Try.prog.info? 3).map (·.size) = some 1 := by kernel_rfl
  have r2 := Whole.new wz 57 #[.slice (some ⟨w.heap.size, 0, none⟩) 0 0, fv w.heap.size]
  rw [q3] at r2
  have HRAW : Hid (RawAt (wz.alloc (.cells #[.slice (some ⟨w.heap.size, 0, none⟩) 0 0, fv w.heap.size] 57)) w.heap.size 0 [] []) := hide ⟨[], k0.alloc _, k1.alloc _, r2, rfl, rfl, fun x hx => (by cases hx), by omega⟩
  have HFR := hide (hf.alloc (.cells #[.slice (some ⟨w.heap.size, 0, none⟩) 0 0, fv w.heap.size] 57))
  have HN := hide (newQueue_any (wz.alloc (.cells #[.slice (some ⟨w.heap.size, 0, none⟩) 0 0, fv w.heap.size] 57)) 0 55 (w.heap.size + 2) (by omega))
  clear k0 k1 hf r2
  go_wp2_with (refine wpList_copy_nothing rfl (.tmp 24) (.tmp 25) 30 30 rfl 3 Try.underlying30 hsize _ _ _ _ _ _ rfl rfl (by rfl) ?_)
  refine HN.out.mono ?_
  rintro en w2 ⟨rfl, hq, hf⟩
  rw [World.size_alloc, q3] at *
  have HZ : Hid (QHeap w2 w.heap.size 0 [] [] ∧ Frm w w2 []) := hide ⟨⟨hq, ⟨[], HRAW.out.frm hf (by simp) (by simp) (by simp), List.Perm.refl _, fun i h0 hm => (by simp at hm)⟩⟩, HFR.out.trans hf⟩
  clear hq hf HN HRAW HFR
  go_wp2_with fail
  go_ret
  exact ⟨rfl, HZ.out⟩
theorem byrank_any (w : World) (v : Value) (l : List Int) (hr : Rd w .i64 v l) (hl : l.length ≤ 65536) :
    Calls Try.prog 12 #[v] w fun en w' => en = .returned (.pointer (some ⟨w.heap.size + 4, 0, none⟩)) ∧ QHeap w' w.heap.size l.length l [] ∧ Frm w w' [] := by
  rcases Nat.eq_zero_or_pos l.length with h0 | h0
  · exact byrank_zero w v l hr h0
  · exact byrank_pos w v l hr hl h0
end Go.Proofs.Ythdjgbkooeabfaa

/-
  New of layer 5 (worklist), and New of the reference.
-/
import Derived.Test.YthdjgbkooeabfaaQRing
namespace Go.Proofs.Ythdjgbkooeabfaa
open Go.RowKit

/-- The number of integers that a queue has room for. -/
def room (n : Int) : Nat := if n < 0 then 0 else if n > 65536 then 65536 else n.toNat
theorem room_le (n : Int) : room n ≤ 65536 := by unfold room; split <;> (try split) <;> omega
theorem infoInt : (Try.prog.info? 3).map (fun i => (i.zero, i.size, i.bytes)) = some (some (.int .i64 0), 1, 8) := by kernel_rfl
theorem intE : ElemI Try.prog 30 3 .i64 8 := ⟨Try.underlying30, Try.underlying3, info_parts infoInt⟩
theorem made_ints (n : Nat) : madeCells #[.int .i64 0] n = icells (List.replicate n 0) := by
  apply Array.toList_inj.1
  rw [toList_madeCells_one]
  simp [icells]
theorem run_ints (w : World) (n : Nat) (hn : n ≤ 131072) : (Instr.makeSlice 30 (.int .i64 n) (.int .i64 n)).run Try.prog w = .ok (.slice (some ⟨w.heap.size, 0, none⟩) n n) (w.alloc (.cells (icells (List.replicate n 0)) 3)) := by
  obtain ⟨i, hi, hz, hs1, hby⟩ := info_parts infoInt
  have h := run_make (P := Try.prog) (w := w) 30 3 i (.int .i64 0) Try.underlying30 hi hz .i64 .i64 n n (by omega) (Int.le_refl _) (by rw [hby]; omega) (by omega)
  rw [hs1, Nat.mul_one, Int.toNat_natCast] at h
  rw [← made_ints]
  exact h

/-- A queue over a ring. -/
def QRing (w : World) (B n : Nat) (q : List Nat) : Prop := QAt w (B + 2) n 48 (B + 1) q ∧ RingAt w B n q
theorem QRing.frm {w w' : World} {B n : Nat} {q S : List Nat} (h : QRing w B n q) (hf : Frm w w' S) (hs : ∀ g ∈ S, g < B ∨ B + 4 ≤ g) : QRing w' B n q := by
  have key : ∀ i, i < 4 → B + i ∉ S := fun i hi hg => by rcases hs _ hg with h | h <;> omega
  exact ⟨h.1.frm hf (key 2 (by omega)) (key 3 (by omega)), h.2.frm hf (key 0 (by omega)) (key 1 (by omega))⟩
theorem QRing.lt {w : World} {B n : Nat} {q : List Nat} (h : QRing w B n q) : B + 3 < w.heap.size := h.1.self.lt

theorem newQueue_z (w : World) (n : Nat) (O : TypeId) (o : Nat) (hn : n ≤ 65536) (z : Int) (hz : z = (n : Int)) :
    Calls Try.prog 22 #[.int .i64 z, .iface O (.pointer (some ⟨o, 0, none⟩))] w fun en w' => en = .returned (.pointer (some ⟨w.heap.size + 1, 0, none⟩)) ∧ QAt w' w.heap.size n O o [] ∧ Frm w w' [] := by
  subst hz
  exact newQueue_any w n O o hn
theorem new_ring (n : Int) (w : World) :
    Calls Try.prog 10 #[.int .i64 n] w fun en w' => en = .returned (.pointer (some ⟨w.heap.size + 3, 0, none⟩)) ∧ QRing w' w.heap.size (room n) [] ∧ Frm w w' [] := by
  have hle := room_le n
  obtain ⟨m, hm⟩ : ∃ m, m = room n := ⟨_, rfl⟩
  rw [← hm] at hle ⊢
  have hmk : ∀ z : Int, z = (m : Int) → (Instr.makeSlice 30 (.int .i64 z) (.int .i64 z)).run Try.prog w = .ok (.slice (some ⟨w.heap.size, 0, none⟩) m m) (w.alloc (.cells (icells (List.replicate m 0)) 3)) := by
    rintro z rfl
    exact run_ints w m (by omega)
  have k1 := (Whole.new w 3 (icells (List.replicate m 0))).alloc (.cells #[.slice (some ⟨w.heap.size, 0, none⟩) m m, .int .i64 0, .int .i64 0] 50)
  have k2 := Whole.new (w.alloc (.cells (icells (List.replicate m 0)) 3)) 50 #[.slice (some ⟨w.heap.size, 0, none⟩) m m, .int .i64 0, .int .i64 0]
  rw [World.size_alloc] at k2
  have HR : Hid (RingAt _ w.heap.size m []) := hide ⟨_, 0, k1, k2, ⟨by simp, Nat.zero_le _, .inl rfl, fun j x h => by simp at h⟩, hle⟩
  have HF := hide (((Frm.refl w []).alloc (.cells (icells (List.replicate m 0)) 3)).alloc (.cells #[.slice (some ⟨w.heap.size, 0, none⟩) m m, .int .i64 0, .int .i64 0] 50))
  have HM := hide hm
  clear k1 k2 hm
  by_cases h1 : n < 0
  · have hz : (0 : Int) = (m : Int) := by rw [HM.out]; unfold room; rw [if_pos h1]; rfl
    have hk := hmk _ hz
    have HZ0 := hide hz
    clear hz hmk
    go_enter Try.func10, Try.ntmps10
    go_wp2_with fail
    refine (newQueue_z _ m 48 (w.heap.size + 1) hle _ HZ0.out).mono ?_
    rintro en w2 ⟨rfl, hq, hf⟩
    rw [World.size_alloc, World.size_alloc] at *
    have HZ : Hid (QRing w2 w.heap.size m [] ∧ Frm w w2 []) := hide ⟨⟨hq, HR.out.frm hf (by simp) (by simp)⟩, HF.out.trans hf⟩
    clear hq hf HR HF
    go_wp2_with fail
    go_ret
    exact ⟨rfl, HZ.out⟩
  · by_cases h2 : n > 65536
    · have hz : (65536 : Int) = (m : Int) := by rw [HM.out]; unfold room; rw [if_neg h1, if_pos h2]; rfl
      have hk := hmk _ hz
      have h2' : 65536 < n := h2
      have HZ0 := hide hz
      clear hz hmk
      go_enter Try.func10, Try.ntmps10
      go_wp2_with fail
      refine (newQueue_z _ m 48 (w.heap.size + 1) hle _ HZ0.out).mono ?_
      rintro en w2 ⟨rfl, hq, hf⟩
      rw [World.size_alloc, World.size_alloc] at *
      have HZ : Hid (QRing w2 w.heap.size m [] ∧ Frm w w2 []) := hide ⟨⟨hq, HR.out.frm hf (by simp) (by simp)⟩, HF.out.trans hf⟩
      clear hq hf HR HF
      go_wp2_with fail
      go_ret
      exact ⟨rfl, HZ.out⟩
    · have hz : n = (m : Int) := by rw [HM.out]; unfold room; rw [if_neg h1, if_neg h2]; omega
      have hk := hmk _ hz
      have HZ0 := hide hz
      clear hz hmk
      go_enter Try.func10, Try.ntmps10
      go_wp2_with fail
      refine (newQueue_z _ m 48 (w.heap.size + 1) hle _ HZ0.out).mono ?_
      rintro en w2 ⟨rfl, hq, hf⟩
      rw [World.size_alloc, World.size_alloc] at *
      have HZ : Hid (QRing w2 w.heap.size m [] ∧ Frm w w2 []) := hide ⟨⟨hq, HR.out.frm hf (by simp) (by simp)⟩, HF.out.trans hf⟩
      clear hq hf HR HF
      go_wp2_with fail
      go_ret
      exact ⟨rfl, HZ.out⟩
end Go.Proofs.Ythdjgbkooeabfaa

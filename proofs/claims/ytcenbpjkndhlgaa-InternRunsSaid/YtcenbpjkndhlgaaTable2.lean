/-
  New and Key of layer 4 (intern).
-/
import Derived.Test.YtcenbpjkndhlgaaTable
namespace Go.Proofs.Ytcenbpjkndhlgaa
open Go.RowKit Go.Maps

/-- The capacity that a limit stands for. -/
def clamp (n : Int) : Int := if n < 0 then 0 else if 65536 < n then 65536 else n
theorem clamp_le (n : Int) : 0 ≤ clamp n ∧ clamp n ≤ 65536 := by
  unfold clamp
  repeat' split
  all_goals omega

theorem tbl_new (w : World) (n : Int) : TblAt ((w.alloc (.map #[] 0)).alloc (.cells #[.int .i64 n, .slice none 0 0, .map (some w.heap.size), .pointer (some ⟨w.heap.size + 1, 0, none⟩)] 47)) w.heap.size [w.heap.size, w.heap.size + 1] n [] := by
  have h1 := Whole.new (w.alloc (.map #[] 0)) 47 #[.int .i64 n, .slice none 0 0, .map (some w.heap.size), .pointer (some ⟨w.heap.size + 1, 0, none⟩)]
  rw [World.size_alloc] at h1
  exact ⟨_, h1, OwnV.nil, (World.ownsMap_made w Try.prog 9 (plainElem Try.prog 3)).alloc _, rfl⟩
theorem frm_new (w : World) (o o' : Obj) : Frm w ((w.alloc o).alloc o') [] := ((Frm.refl w []).alloc o).alloc o'

/-- New. -/
theorem new_any (n : Int) (w : World) :
    Calls Try.prog 7 #[.int .i64 n] w fun en w' => en = .returned (.pointer (some ⟨w.heap.size + 1, 0, none⟩)) ∧ TblAt w' w.heap.size [w.heap.size, w.heap.size + 1] (clamp n) [] ∧ Frm w w' [] := by
  have hmm := @run_makeMap Try.prog
  go_enter Try.func7, Try.ntmps7
  go_wp2_with fail
  · go_ret
    refine ⟨rfl, ?_, frm_new _ _ _⟩
    have e : clamp n = 0 := by unfold clamp; rw [if_pos (by assumption)]
    rw [e]; exact tbl_new w 0
  · go_ret
    refine ⟨rfl, ?_, frm_new _ _ _⟩
    have e : clamp n = 65536 := by unfold clamp; rw [if_neg (by omega), if_pos (by omega)]
    rw [e]; exact tbl_new w 65536
  · go_ret
    refine ⟨rfl, ?_, frm_new _ _ _⟩
    have e : clamp n = n := by unfold clamp; rw [if_neg (by omega), if_neg (by omega)]
    rw [e]; exact tbl_new w n

/-- Key, beyond the keys. -/
theorem key_out (w : World) (B : Nat) (F : List Nat) (n : Int) (ks : List (List Int)) (h : TblAt w B F n ks) (i : Int) (hi : i < 0 ∨ ks.length ≤ i) :
    Calls Try.prog 15 #[.pointer (some ⟨B + 1, 0, none⟩), .int .i64 i] w fun en w' => en = .returned (.slice none 0 0) ∧ w = w' := by
  have HL := hide (len_tbl w B F n ks h)
  by_cases h0 : i < 0
  · go_enter Try.func15, Try.ntmps15
    go_wp2_with fail
    go_ret
    exact ⟨rfl, rfl⟩
  · have h1 : i ≥ (ks.length : Int) := by omega
    have h1' : (ks.length : Int) ≤ i := by omega
    go_enter Try.func15, Try.ntmps15
    go_wp2_with (go_at_call 9; refine HL.out.mono ?_; rintro en w' ⟨rfl, rfl⟩)
    go_ret
    exact ⟨rfl, rfl⟩

/-- Key, of a key. -/
theorem key_in (w : World) (B : Nat) (F : List Nat) (n : Int) (ks : List (List Int)) (h : TblAt w B F n ks) (hk : Keys ks) (k : Nat) (l : List Int) (hl : ks[k]? = some l) (hll : l.length ≤ maxLen) :
    Calls Try.prog 15 #[.pointer (some ⟨B + 1, 0, none⟩), .int .i64 k] w fun en w' => ∃ cap, en = .returned (.slice (some ⟨w.heap.size, 0, none⟩) l.length cap) ∧ Buf w' (.slice (some ⟨w.heap.size, 0, none⟩) l.length cap) l ∧ Frm w w' [] ∧ w.heap.size < w'.heap.size ∧ cap ≤ maxLen := by
  have HL := hide (len_tbl w B F n ks h)
  have hlt : k < ks.length := (List.getElem?_eq_some_iff.1 hl).1
  have hlb : Byt l := hk.byt l (List.mem_of_getElem? hl)
  obtain ⟨kv, h1, h2, _⟩ := h
  obtain ⟨A, c, rfl, hc, hm, hr⟩ := h2.rd
  have hc9 : c ≤ 9223372036854775807 := by unfold maxLen at hm; omega
  rw [List.length_map] at h1 hc hr
  obtain ⟨b, off, rfl, _, hcell⟩ := hr (by omega)
  have hck := hcell k (.string (strOfNums l)) (by rw [List.getElem?_map, hl]; rfl)
  have c1 := h1.cell 1
  have i0 : ¬ ((k : Int) < 0) := by omega
  have i1 : ¬ ((k : Int) ≥ ks.length) := by omega
  have i2 : (k : Int) < ks.length := by omega
  obtain ⟨cap, w', hrun, hbuf, hf, hs, hcap⟩ := run_bytes_buf (P := Try.prog) w 9 29 5 l hlb hll Try.underlying9 Try.underlying29 Try.underlying5
  have HR := hide (And.intro hbuf (And.intro hf (And.intro hs hcap)))
  clear h2 hcell hr hl hk hbuf hf hs hcap
  go_enter Try.func15, Try.ntmps15
  go_wp2_with (go_at_call 9; refine HL.out.mono ?_; rintro en w' ⟨rfl, rfl⟩)
  go_ret
  exact ⟨cap, rfl, HR.out⟩
end Go.Proofs.Ytcenbpjkndhlgaa

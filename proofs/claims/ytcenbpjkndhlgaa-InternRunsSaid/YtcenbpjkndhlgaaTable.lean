/-
  A table of layer 4 (intern) behind its pointer, and what each of its calls answers.
-/
import Derived.Test.YtcenbpjkndhlgaaRows
import Derived.Test.YtcenbpjkndhlgaaKit
import Derived.Test.YtcenbpjkndhlgaaDict
import Derived.Deep.QuietTactic
import Derived.BigQuiet
import Derived.Deep.RegionLaw
import Derived.LaidEqlPtr
import Derived.StillTailTactics
namespace Go.Proofs.Ytcenbpjkndhlgaa
open Go.RowKit Go.Maps

theorem infoStr : (Try.prog.info? 9).map (fun i => (i.zero, i.size, i.bytes)) = some (some (.string ByteArray.empty), 1, 16) := by kernel_rfl
theorem strE : ElemV Try.prog 41 9 (.string ByteArray.empty) 16 := ⟨Try.underlying41, rfl, info_parts infoStr⟩
theorem law : Keyed Try.prog 9 := string_keyed Try.underlying9
theorem zeroInt (w : World) : (zeroValue 3).run Try.prog w = .ok (.int .i64 0) w := by kernel_rfl

/-- THE TABLE behind a pointer: its map in block B, itself in block B + 1, its keys in a row of its own; F: the blocks that it uses. -/
def TblAt (w : World) (B : Nat) (F : List Nat) (n : Int) (ks : List (List Int)) : Prop :=
  ∃ kv, Whole w (B + 1) 47 #[.int .i64 n, kv, .map (some B), .pointer (some ⟨B + 1, 0, none⟩)] ∧ OwnV w (B + 2) 9 kv (ks.map fun k => .string (strOfNums k)) ∧
    w.ownsMap Try.prog 9 (plainElem Try.prog 3) B ks.length (dict ks) ∧ F = B :: (B + 1) :: kv.ownBlock.toList

theorem TblAt.frm {w w' : World} {B : Nat} {F S : List Nat} {n : Int} {ks : List (List Int)} (h : TblAt w B F n ks) (hf : Frm w w' S) (hs : ∀ g ∈ F, g ∉ S) : TblAt w' B F n ks := by
  obtain ⟨kv, h1, h2, h3, rfl⟩ := h
  refine ⟨kv, h1.frm hf (hs _ (by simp)), h2.frm hf (fun g hg => hs g (by simp [hg])), ?_, rfl⟩
  obtain ⟨es, clock, hb, r⟩ := h3
  have hlt : B < w.heap.size := by have := h1.lt; omega
  exact ⟨es, clock, (hf.block B hlt (hs _ (by simp))).trans hb, r⟩
theorem TblAt.lt {w : World} {B : Nat} {F : List Nat} {n : Int} {ks : List (List Int)} (h : TblAt w B F n ks) : ∀ g ∈ F, B ≤ g ∧ g < w.heap.size := by
  obtain ⟨kv, h1, h2, h3, rfl⟩ := h
  have := h1.lt
  intro g hg
  simp only [List.mem_cons, Option.mem_toList] at hg
  rcases hg with rfl | rfl | hg
  · omega
  · omega
  · have := h2.size g hg; omega

theorem ptrSame (w : World) (a : Addr) : (binOp .eql 25 (.pointer (some a)) (.pointer (some a))).run Try.prog w = .ok (.bool true) w := by
  obtain ⟨i, hi, _⟩ := info_parts (P := Try.prog) (e := 47) (z := .agg #[.int .i64 0, .slice none 0 0, .map none, .pointer none]) (size := 4) (bytes := 48) (by kernel_rfl)
  exact run_eql_ptr_same w a Try.underlying25 hi

/-- valid of a table. -/
theorem valid_tbl (w : World) (B : Nat) (F : List Nat) (n : Int) (ks : List (List Int)) (h : TblAt w B F n ks) :
    Calls Try.prog 18 #[.pointer (some ⟨B + 1, 0, none⟩)] w fun en w' => en = .returned (.bool true) ∧ w = w' := by
  obtain ⟨kv, h1, _⟩ := h
  have c3 := h1.cell 3
  have heq := ptrSame w ⟨B + 1, 0, none⟩
  go_enter Try.func18, Try.ntmps18
  go_wp2_with fail
  go_ret
  exact ⟨rfl, rfl⟩

/-- Len of a table. -/
theorem len_tbl (w : World) (B : Nat) (F : List Nat) (n : Int) (ks : List (List Int)) (h : TblAt w B F n ks) :
    Calls Try.prog 9 #[.pointer (some ⟨B + 1, 0, none⟩)] w fun en w' => en = .returned (.int .i64 ks.length) ∧ w = w' := by
  have HV := hide (valid_tbl w B F n ks h)
  obtain ⟨kv, h1, h2, _⟩ := h
  obtain ⟨A, c, rfl, hc, hm, _⟩ := h2.rd
  have hc9 : c ≤ 9223372036854775807 := by unfold maxLen at hm; omega
  rw [List.length_map] at h1 hc
  have c1 := h1.cell 1
  clear h2
  go_enter Try.func9, Try.ntmps9
  go_wp2_with (go_at_call 18; refine HV.out.mono ?_; rintro en w' ⟨rfl, rfl⟩)
  go_ret
  exact ⟨rfl, rfl⟩

/-- Find of a table. -/
theorem find_tbl (w : World) (B : Nat) (F : List Nat) (n : Int) (ks : List (List Int)) (h : TblAt w B F n ks) (hk : Keys ks) (kv : Value) (l : List Int) (hl : Rd w .u8 kv l) (hb : Byt l) :
    Calls Try.prog 13 #[.pointer (some ⟨B + 1, 0, none⟩), kv] w fun en w' => en = .returned (.tuple #[.int .i64 (pos ks l), .bool (decide (l ∈ ks))]) ∧ Frm w w' [] := by
  have HV := hide (valid_tbl w B F n ks h)
  obtain ⟨rv, h1, h2, h3, _⟩ := h
  have c2 := h1.cell 2
  have hconv := run_convert_rd (P := Try.prog) w.drew 29 9 5 Try.underlying29 Try.underlying5 Try.underlying9 hl
  have hlen : (strOfNums l).size ≤ maxLen := by rw [strOfNums_size]; exact hl.len
  obtain ⟨c, ps, hrun, hat⟩ := h3.drew.look_ok law Try.underlying45 (zeroInt w.drew) (plainElem_int (H := Unit) Try.underlying3 (by decide)) (WideMaps.keyOf_string_mk Try.underlying9 hlen)
  have hat' := at_dict' l hb ks hk.byt hk.nodup
  have hhas := has_dict l hb ks hk.byt
  unfold kl at hat' hhas
  rw [hat'] at hat
  rw [hhas] at hrun
  obtain ⟨z, rfl, hz, _⟩ := plainElem_int_inv Try.underlying3 hat
  obtain rfl : pos ks l = z := by have := congrArg Prod.fst hz; simpa using this
  clear hat hat' hhas hz h1 h2
  go_enter Try.func13, Try.ntmps13
  go_wp2_with (go_at_call 18; refine HV.out.mono ?_; rintro en w' ⟨rfl, rfl⟩)
  go_region
  all_goals go_wp2_with fail
  all_goals go_ret2
  all_goals exact ⟨rfl, (Frm.refl _ _).drewN _⟩

/-- Add of a key that the table holds. -/
theorem add_old (w : World) (B : Nat) (F : List Nat) (n : Int) (ks : List (List Int)) (h : TblAt w B F n ks) (hk : Keys ks) (kv : Value) (l : List Int) (hl : Rd w .u8 kv l) (hb : Byt l) (hm : l ∈ ks) :
    Calls Try.prog 11 #[.pointer (some ⟨B + 1, 0, none⟩), kv] w fun en w' => en = .returned (.tuple #[.int .i64 (pos ks l), .bool false, .int .i64 0]) ∧ Frm w w' [] := by
  have HV := hide (valid_tbl w B F n ks h)
  have HF := hide (find_tbl w B F n ks h hk kv l hl hb)
  rw [decide_eq_true hm] at HF
  go_enter Try.func11, Try.ntmps11
  go_wp2_with (first | (go_at_call 18; refine HV.out.mono ?_; rintro en w' ⟨rfl, rfl⟩) | (go_at_call 13; refine HF.out.mono ?_; rintro en w' ⟨rfl, hf⟩))
  go_ret3
  exact ⟨rfl, hf⟩

/-- Add of a new key to a table that is full. -/
theorem add_full (w : World) (B : Nat) (F : List Nat) (n : Int) (ks : List (List Int)) (h : TblAt w B F n ks) (hk : Keys ks) (kv : Value) (l : List Int) (hl : Rd w .u8 kv l) (hb : Byt l) (hm : l ∉ ks) (hn : n ≤ ks.length) :
    Calls Try.prog 11 #[.pointer (some ⟨B + 1, 0, none⟩), kv] w fun en w' => en = .returned (.tuple #[.int .i64 0, .bool false, .int .i64 13]) ∧ Frm w w' [] := by
  have HV := hide (valid_tbl w B F n ks h)
  have HF := hide (find_tbl w B F n ks h hk kv l hl hb)
  rw [decide_eq_false hm] at HF
  have ht : ((ks.length : Int) ≥ n) := hn
  have HT := hide h
  have hkl := hk.len
  clear h
  go_enter Try.func11, Try.ntmps11
  go_wp2_with (first | (go_at_call 18; refine HV.out.mono ?_; rintro en w' ⟨rfl, rfl⟩))
  refine HF.out.mono ?_
  rintro en w' ⟨rfl, hf⟩
  have h1 := HT.out.frm hf (fun _ _ => by simp)
  obtain ⟨rv, h1, h2, _⟩ := h1
  obtain ⟨A, c, rfl, hc, hm, _⟩ := h2.rd
  have hc9 : c ≤ 9223372036854775807 := by unfold maxLen at hm; omega
  rw [List.length_map] at h1 hc
  have c0 := h1.cell 0
  have c1 := h1.cell 1
  clear h2
  go_wp2_with fail
  go_ret3
  exact ⟨rfl, hf⟩

/-- Behind the append and the store of a new key. -/
theorem add_mid {w0 wa w1 : World} {B : Nat} {F : List Nat} {n : Int} {ks : List (List Int)} {l : List Int} {A A' : Option Addr} {c c' : Nat}
    (hA : (∀ g ∈ (Value.slice A ks.length c).ownBlock.toList, B + 2 ≤ g ∧ g < w0.heap.size) ∧ F = B :: (B + 1) :: (Value.slice A ks.length c).ownBlock.toList ∧ Frm w0 wa F ∧
      Whole wa (B + 1) 47 #[.int .i64 n, .slice A ks.length c, .map (some B), .pointer (some ⟨B + 1, 0, none⟩)] ∧ wa.ownsMap Try.prog 9 (plainElem Try.prog 3) B ks.length (dict ks))
    (hR : OwnV w1 (B + 2) 9 (.slice A' ((ks.map fun k => Value.string (strOfNums k)) ++ [Value.string (strOfNums l)]).length c') ((ks.map fun k => Value.string (strOfNums k)) ++ [Value.string (strOfNums l)]) ∧
      Frm wa w1 (Value.slice A ks.length c).ownBlock.toList ∧
      ((Value.slice A' ((ks.map fun k => Value.string (strOfNums k)) ++ [Value.string (strOfNums l)]).length c').ownBlock = (Value.slice A ks.length c).ownBlock ∨
        (Value.slice A' ((ks.map fun k => Value.string (strOfNums k)) ++ [Value.string (strOfNums l)]).length c').ownBlock = some wa.heap.size) ∧
      Whole w1 (B + 1) 47 #[.int .i64 n, .slice A ks.length c, .map (some B), .pointer (some ⟨B + 1, 0, none⟩)]) :
    ∃ gk, A' = some ⟨gk, 0, none⟩ ∧ Whole (w1.setCell ⟨B + 1, 1, none⟩ (.slice A' (ks.length + 1) c')) (B + 1) 47 #[.int .i64 n, .slice A' (ks.length + 1) c', .map (some B), .pointer (some ⟨B + 1, 0, none⟩)] ∧
      OwnV (w1.setCell ⟨B + 1, 1, none⟩ (.slice A' (ks.length + 1) c')) (B + 2) 9 (.slice A' (ks.length + 1) c') ((ks ++ [l]).map fun k => Value.string (strOfNums k)) ∧
      (w1.setCell ⟨B + 1, 1, none⟩ (.slice A' (ks.length + 1) c')).ownsMap Try.prog 9 (plainElem Try.prog 3) B ks.length (dict ks) ∧
      Frm w0 (w1.setCell ⟨B + 1, 1, none⟩ (.slice A' (ks.length + 1) c')) F ∧
      (w1.setCell ⟨B + 1, 1, none⟩ (.slice A' (ks.length + 1) c')).cell? ⟨gk, ks.length, none⟩ = some (.string (strOfNums l)) ∧ ks.length + 1 ≤ c' ∧ c' ≤ maxLen ∧
      (∀ g ∈ B :: (B + 1) :: (Value.slice A' (ks.length + 1) c').ownBlock.toList, g ∈ F ∨ w0.heap.size ≤ g) ∧ B + 2 ≤ gk := by
  obtain ⟨hrow, hF, hfa, hWa, hMa⟩ := hA
  obtain ⟨ho, hf1, hl1, hW1⟩ := hR
  have hlen : ((ks.map fun k => Value.string (strOfNums k)) ++ [Value.string (strOfNums l)]).length = ks.length + 1 := by simp
  have hl : (ks.map fun k => Value.string (strOfNums k)) ++ [Value.string (strOfNums l)] = (ks ++ [l]).map fun k => Value.string (strOfNums k) := by simp
  rw [hlen] at ho hl1
  rw [hl] at ho
  have hBF : B ∉ (Value.slice A ks.length c).ownBlock.toList := fun h => by have := (hrow _ h).1; omega
  have hsub : ∀ g ∈ (Value.slice A ks.length c).ownBlock.toList, g ∈ F ∨ w0.heap.size ≤ g := fun g hg => .inl (by rw [hF]; simp only [List.mem_cons]; exact .inr (.inr hg))
  have hf01 : Frm w0 w1 F := hfa.trans' hf1 hsub
  have hf2 : Frm w0 (w1.setCell ⟨B + 1, 1, none⟩ (.slice A' (ks.length + 1) c')) F := hf01.setCell _ _ (.inl (by rw [hF]; simp))
  have hset : Frm w1 (w1.setCell ⟨B + 1, 1, none⟩ (.slice A' (ks.length + 1) c')) [B + 1] := (Frm.refl _ _).setCell _ _ (.inl (by simp))
  have hrow' : ∀ g, (Value.slice A' (ks.length + 1) c').ownBlock = some g → g ∉ [B + 1] := fun g hg h => by
    have := (ho.size g hg).1
    rw [List.mem_singleton] at h
    omega
  have ho2 := ho.frm hset hrow'
  have hm2 : (w1.setCell ⟨B + 1, 1, none⟩ (.slice A' (ks.length + 1) c')).ownsMap Try.prog 9 (plainElem Try.prog 3) B ks.length (dict ks) := by
    obtain ⟨es, clock, hb, r⟩ := hMa
    have hlt : B < wa.heap.size := by have := hWa.lt; omega
    have e1 := hf1.block B hlt hBF
    have e2 := hset.block B (Nat.lt_of_lt_of_le hlt hf1.size) (by simp)
    exact ⟨es, clock, (e2.trans e1).trans hb, r⟩
  obtain ⟨gk, off, rfl, hgl, hcell⟩ := ho2.rd.at ks.length (.string (strOfNums l)) (by simp)
  obtain rfl : off = 0 := by
    rcases ho.2 with ⟨e, _⟩ | ⟨g, cap, cur, e, _⟩
    · injection e with e; cases e
    · injection e with e; injection e with e; injection e
  obtain ⟨A2, c2, e2, hc, hm, _⟩ := ho2.rd
  injection e2 with _ _ e2
  subst e2
  rw [List.length_map, List.length_append] at hc
  refine ⟨gk, rfl, hW1.set 1 _, ho2, hm2, hf2, by simpa using hcell, hc, hm, fun g hg => ?_, (ho.size gk rfl).1⟩
  simp only [List.mem_cons] at hg
  rcases hg with rfl | rfl | hg
  · exact .inl (by rw [hF]; simp)
  · exact .inl (by rw [hF]; simp)
  · rcases hl1 with h1 | h1
    · rw [h1] at hg
      exact hsub g hg
    · rw [h1] at hg
      obtain rfl : g = wa.heap.size := by simpa using hg
      exact .inr hfa.size

theorem add_end {w w0 w2 w3 : World} {B gk c' : Nat} {F : List Nat} {n : Int} {ks : List (List Int)} {l : List Int} (hf0 : Frm w w0 []) (hFB : B ∈ F)
    (hW : Whole w2 (B + 1) 47 #[.int .i64 n, .slice (some ⟨gk, 0, none⟩) (ks.length + 1) c', .map (some B), .pointer (some ⟨B + 1, 0, none⟩)])
    (hO : OwnV w2 (B + 2) 9 (.slice (some ⟨gk, 0, none⟩) (ks.length + 1) c') ((ks ++ [l]).map fun k => Value.string (strOfNums k)))
    (hS : Frm w0 w2 F ∧ (∀ g ∈ B :: (B + 1) :: (Value.slice (some ⟨gk, 0, none⟩) (ks.length + 1) c').ownBlock.toList, g ∈ F ∨ w0.heap.size ≤ g) ∧ B + 2 ≤ gk)
    (hm3 : w3.ownsMap Try.prog 9 (plainElem Try.prog 3) B (ks.length + 1) ((dict ks).put (Lit.string (strOfNums l).data.toList) (.lit (.int .i64 ks.length))))
    (ht : Frm w2 w3 [B]) : ∃ F', TblAt w3 B F' n (ks ++ [l]) ∧ Frm w w3 F ∧ ∀ g ∈ F', g ∈ F ∨ w.heap.size ≤ g := by
  obtain ⟨hf2, hsub, hgk⟩ := hS
  have hf02 : Frm w w2 F := (hf0.mono (T := F) (fun _ h => by cases h)).trans hf2
  refine ⟨_, ⟨_, hW.frm ht (by simp), hO.frm ht (fun g hg h => ?_), ?_, rfl⟩, hf02.trans' ht (fun g hg => ?_), fun g hg => ?_⟩
  · injection hg with hg
    rw [List.mem_singleton] at h
    have : gk = g := hg
    omega
  · rw [List.length_append, dict_snoc]; exact hm3
  · rw [List.mem_singleton] at hg
    subst hg
    exact .inl hFB
  · rcases hsub g hg with h | h
    · exact .inl h
    · exact .inr (Nat.le_trans hf0.size h)

/-- Add of a new key. -/
theorem add_new (w : World) (B : Nat) (F : List Nat) (n : Int) (ks : List (List Int)) (h : TblAt w B F n ks) (hk : Keys ks) (kv : Value) (l : List Int) (hl : Rd w .u8 kv l) (hb : Byt l) (hm : l ∉ ks) (hn : ks.length < n) (h65 : n ≤ 65536) :
    Calls Try.prog 11 #[.pointer (some ⟨B + 1, 0, none⟩), kv] w fun en w' => en = .returned (.tuple #[.int .i64 ks.length, .bool true, .int .i64 0]) ∧
      ∃ F', TblAt w' B F' n (ks ++ [l]) ∧ Frm w w' F ∧ ∀ g ∈ F', g ∈ F ∨ w.heap.size ≤ g := by
  have HV := hide (valid_tbl w B F n ks h)
  have HF := hide (find_tbl w B F n ks h hk kv l hl hb)
  rw [decide_eq_false hm] at HF
  have ht : ¬ ((ks.length : Int) ≥ n) := by omega
  have HT := hide h
  have HL := hide hl
  have hkl := hk.len
  have hle : (ks.length : Int) < n := hn
  have HN := hide (And.intro hn h65)
  clear h hl hn h65
  go_enter Try.func11, Try.ntmps11
  go_wp2_with (first | (go_at_call 18; refine HV.out.mono ?_; rintro en w' ⟨rfl, rfl⟩))
  refine HF.out.mono ?_
  rintro en w0 ⟨rfl, hf0⟩
  have hT0 := HT.out.frm hf0 (fun _ _ => by simp)
  have HF0 := hide hf0
  have hlt0 := hide hT0.lt
  obtain ⟨rv, h1, h2, h3, hFe⟩ := hT0
  obtain ⟨A, c, rfl, hc, hm, _⟩ := h2.rd
  have hc9 : c ≤ 9223372036854775807 := by unfold maxLen at hm; omega
  rw [List.length_map] at h1 hc
  have c0 := h1.cell 0
  have c1 := h1.cell 1
  have H2 := hide (show OwnV w0 (B + 2) 9 (.slice A ks.length c) (ks.map fun k => .string (strOfNums k)) by rw [List.length_map] at h2; exact h2)
  have hl0 : Rd w0 .u8 kv l := HL.out.below' (hf0.toBelow (fun _ h => by cases h) (Nat.le_refl _))
  have hconv := run_convert_rd (P := Try.prog) w0.drew 29 9 5 Try.underlying29 Try.underlying5 Try.underlying9 (show Rd w0.drew .u8 kv l from hl0)
  clear h2 hf0
  go_wp2_with fail
  have H1 := hide h1
  have H3 := hide h3
  clear h1 h3
  have hB1 : B + 2 ≤ w0.heap.size := by have := H1.out.lt; omega
  have hone : ∀ x ∈ [Value.string (strOfNums l)], x.oneCell' = true := by
    intro x hx; rw [List.mem_singleton] at hx; subst hx; rfl
  have hby : ((ks.map fun k => Value.string (strOfNums k)).length + [Value.string (strOfNums l)].length) * 16 ≤ 140737488355328 := by
    simp only [List.length_map, List.length_cons, List.length_nil]; omega
  have hml : (ks.map fun k => Value.string (strOfNums k)).length + [Value.string (strOfNums l)].length ≤ maxLen := by
    unfold maxLen; simp only [List.length_map, List.length_cons, List.length_nil]; omega
  have hB2 : B + 2 ≤ (w0.alloc (.cells #[Value.string (strOfNums l)] 9)).drew.heap.size := by
    show _ ≤ (w0.alloc _).heap.size
    rw [World.size_alloc]; omega
  have HO2 := hide (H2.out.alloc (.cells #[Value.string (strOfNums l)] 9)).drew
  have hrow : ∀ g ∈ (Value.slice A ks.length c).ownBlock.toList, B + 2 ≤ g ∧ g < w0.heap.size := fun g hg => H2.out.size g (by simpa using hg)
  have HFe : F = B :: (B + 1) :: (Value.slice A ks.length c).ownBlock.toList := by rw [List.length_map] at hFe; exact hFe
  have hfa : Frm w0 (w0.alloc (.cells #[Value.string (strOfNums l)] 9)).drew F := ((Frm.refl w0 F).alloc _).drewN 1
  have H1a : Whole (w0.alloc (.cells #[Value.string (strOfNums l)] 9)).drew (B + 1) 47 #[.int .i64 n, .slice A ks.length c, .map (some B), .pointer (some ⟨B + 1, 0, none⟩)] := H1.out.alloc _
  have H3a : ((w0.alloc (.cells #[Value.string (strOfNums l)] 9)).drew).ownsMap Try.prog 9 (plainElem Try.prog 3) B ks.length (dict ks) := (H3.out.alloc _).drew
  have c1a := (H1.out.alloc (.cells #[Value.string (strOfNums l)] 9)).cell 1
  have HA := hide (And.intro hrow (And.intro HFe (And.intro hfa (And.intro H1a H3a))))
  clear hrow HFe hfa H1a H3a hFe
  go_region_law (refine step_append_v rfl (.tmp 36) (.tmp 39) 41 rfl (B + 2) 9 _ 16 strE (.slice A ks.length c) (ks.map fun k => .string (strOfNums k)) (by simp [Act.eval]) HO2.out (.slice (some ⟨w0.heap.size, 0, none⟩) 1 1) [.string (strOfNums l)] (by simp [Act.eval]) (rdv_one_drew _ _ _) hone hby hml hB2 ?_; intro v' w1 ho1 hf1 hl1; obtain ⟨A', c', rfl, hc', hm', _⟩ := ho1.rd; have hw1 := HA.out.2.2.2.1.frm hf1 (fun h => by have := HA.out.1 _ h; omega); have HR := hide (And.intro ho1 (And.intro hf1 (And.intro hl1 hw1))); have c1' := hw1.cell 1; have f1' := hw1.free 1; clear ho1 hf1 hl1 hw1)
  all_goals (
    obtain ⟨gk, rfl, hm⟩ := add_mid HA.out HR.out
    have HM := hide hm
    clear hm c1' f1'
    obtain ⟨w2, hw2⟩ : ∃ x, x = w1.setCell ⟨B + 1, 1, none⟩ (.slice (some ⟨gk, 0, none⟩) (ks.length + 1) c') := ⟨_, rfl⟩
    rw [← hw2] at HM ⊢
    obtain ⟨hW2, hO2, hM2, hf2, hcell, hc2, hcm2, hsub, hgk⟩ := HM.out
    have hcm9 : c' ≤ 9223372036854775807 := by unfold maxLen at hcm2; omega
    have d1 := hW2.cell 1
    have d2 := hW2.cell 2
    have HW2 := hide hW2
    have HO := hide hO2
    have HM2 := hide hM2
    have HS := hide (And.intro hf2 (And.intro hsub hgk))
    have HLs := hide (show (strOfNums l).size ≤ maxLen by rw [strOfNums_size]; exact HL.out.len)
    clear HM hM2 hf2 hsub hgk hW2 hO2 hw2 HR HA HO2 hc' hm' H1 H2 H3 c0 c1 c1a HF HV hconv hl0 hone hby hml hB2 hB1
    go_wp2_with fail
    have hi1 : (ks.length : Int) < (ks.length : Int) + 1 := by omega
    go_still_tail 12, (by kernel_rfl)
    change wpList _ _ _ _ _ w2.drew
    go_wp2_with (at_mapUpdate; refine wpList_mapUpdate_in _ rfl _ _ _ 45 rfl 9 3 law Try.underlying45 _ B ks.length _ rfl HM2.out.drew (by unfold maxLen; omega) _ _ _ rfl rfl (WideMaps.keyOf_string_mk Try.underlying9 HLs.out) _ [] (plainElem_int Try.underlying3 (WalkArith.wf_i64 (by omega))) ?_; intro w3 hm3 ht3)
    go_ret3
    refine ⟨rfl, add_end HF0.out ?_ HW2.out HO.out HS.out hm3 ((Frm.drew w2 [B]).trans (Frm.map ht3))⟩
    obtain ⟨_, _, _, _, e⟩ := HT.out
    rw [e]; simp)

/-- What Add answers, and the keys behind it. -/
def addOut (n : Int) (ks : List (List Int)) (l : List Int) : (Int × Bool × Int) × List (List Int) :=
  if l ∈ ks then ((pos ks l, false, 0), ks) else if n ≤ ks.length then ((0, false, 13), ks) else ((ks.length, true, 0), ks ++ [l])
theorem addOut_keys {n : Int} {ks : List (List Int)} {l : List Int} (h : Keys ks) (hb : Byt l) (hn : n ≤ 65536) : Keys (addOut n ks l).2 := by
  unfold addOut
  split
  · exact h
  · rename_i hm
    split
    · exact h
    · exact h.snoc hb hm (by omega)

/-- Add. -/
theorem add_any (w : World) (B : Nat) (F : List Nat) (n : Int) (ks : List (List Int)) (h : TblAt w B F n ks) (hk : Keys ks) (kv : Value) (l : List Int) (hl : Rd w .u8 kv l) (hb : Byt l) (h65 : n ≤ 65536) :
    Calls Try.prog 11 #[.pointer (some ⟨B + 1, 0, none⟩), kv] w fun en w' => en = .returned (.tuple #[.int .i64 (addOut n ks l).1.1, .bool (addOut n ks l).1.2.1, .int .i64 (addOut n ks l).1.2.2]) ∧
      ∃ F', TblAt w' B F' n (addOut n ks l).2 ∧ Frm w w' F ∧ ∀ g ∈ F', g ∈ F ∨ w.heap.size ≤ g := by
  unfold addOut
  by_cases hm : l ∈ ks
  · simp only [if_pos hm]
    refine (add_old w B F n ks h hk kv l hl hb hm).mono ?_
    rintro en w' ⟨rfl, hf⟩
    exact ⟨rfl, F, h.frm hf (fun _ _ => by simp), hf.mono (fun _ h => by cases h), fun _ hg => .inl hg⟩
  · by_cases hn : n ≤ ks.length
    · simp only [if_neg hm, if_pos hn]
      refine (add_full w B F n ks h hk kv l hl hb hm hn).mono ?_
      rintro en w' ⟨rfl, hf⟩
      exact ⟨rfl, F, h.frm hf (fun _ _ => by simp), hf.mono (fun _ h => by cases h), fun _ hg => .inl hg⟩
    · simp only [if_neg hm, if_neg hn]
      exact add_new w B F n ks h hk kv l hl hb hm (by omega) h65
end Go.Proofs.Ytcenbpjkndhlgaa

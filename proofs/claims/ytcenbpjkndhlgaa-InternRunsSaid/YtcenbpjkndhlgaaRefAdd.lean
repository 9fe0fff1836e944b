/-
  Add and Key of the document's table, layer 4 (intern).
-/
import Derived.Test.YtcenbpjkndhlgaaRefTable
namespace Go.Proofs.Ytcenbpjkndhlgaa
open Go.RowKit Go.Maps

theorem radd_old (w : World) (g : Nat) (F : List Nat) (n : Int) (ks : List (List Int)) (h : RefAt w g F n ks) (hk : Keys ks) (kv : Value) (l : List Int) (hl : Rd w .u8 kv l) (hb : Byt l) (hm : l ∈ ks) :
    Calls Try.prog 12 #[.pointer (some ⟨g, 0, none⟩), kv] w fun en w' => en = .returned (.tuple #[.int .i64 (pos ks l), .bool false, .int .i64 0]) ∧ Frm w w' [] := by
  have HF := hide (rfind_any w g F n ks h hk kv l hl hb)
  rw [decide_eq_true hm] at HF
  obtain ⟨rv, h1, _⟩ := h
  have c2 := h1.cell 2
  go_enter Try.func12, Try.ntmps12
  go_wp2_with (go_at_call 14; refine HF.out.mono ?_; rintro en w' ⟨rfl, hf⟩)
  go_ret3
  exact ⟨rfl, hf⟩

theorem radd_full (w : World) (g : Nat) (F : List Nat) (n : Int) (ks : List (List Int)) (h : RefAt w g F n ks) (hk : Keys ks) (kv : Value) (l : List Int) (hl : Rd w .u8 kv l) (hb : Byt l) (hm : l ∉ ks) (hn : n ≤ ks.length) :
    Calls Try.prog 12 #[.pointer (some ⟨g, 0, none⟩), kv] w fun en w' => en = .returned (.tuple #[.int .i64 0, .bool false, .int .i64 13]) ∧ Frm w w' [] := by
  have HF := hide (rfind_any w g F n ks h hk kv l hl hb)
  rw [decide_eq_false hm] at HF
  have ht : ((ks.length : Int) ≥ n) := hn
  have HT := hide h
  have hkl := hk.len
  obtain ⟨rv, h1, _⟩ := h
  have c2 := h1.cell 2
  clear h1
  go_enter Try.func12, Try.ntmps12
  go_wp2_with fail
  refine HF.out.mono ?_
  rintro en w' ⟨rfl, hf⟩
  have h1 := HT.out.frm hf (fun _ _ => by simp)
  obtain ⟨rv, h1, h2, _⟩ := h1
  obtain ⟨A, c, rfl, hc, hm, _⟩ := h2.rd
  have hc9 : c ≤ 9223372036854775807 := by unfold maxLen at hm; omega
  have hlen : (strs ks).length = ks.length := by simp [strs]
  rw [hlen] at h1 hc
  have d0 := h1.cell 0
  have d1 := h1.cell 1
  clear h2
  go_wp2_with fail
  go_region
  all_goals go_wp2_with fail
  all_goals go_ret3
  all_goals exact ⟨rfl, hf.drewN _⟩

/-- Behind the append and the store of a new key. -/
theorem radd_end {w w0 wa w1 : World} {g c : Nat} {A : Option Addr} {kv3 : Value} {F : List Nat} {n : Int} {ks : List (List Int)} {l : List Int} (hf0 : Frm w w0 []) (hF : F = g :: (Value.slice A ks.length c).ownBlock.toList)
    (hrow : ∀ b ∈ (Value.slice A ks.length c).ownBlock.toList, g + 1 ≤ b ∧ b < w0.heap.size) (hfa : Frm w0 wa F) (hW : Whole w1 g 49 #[.int .i64 n, .slice A ks.length c, .bool true])
    (ho : OwnV w1 (g + 1) 9 kv3 (strs ks ++ [.string (strOfNums l)])) (hf1 : Frm wa w1 (Value.slice A ks.length c).ownBlock.toList)
    (hl1 : kv3.ownBlock = (Value.slice A ks.length c).ownBlock ∨ kv3.ownBlock = some wa.heap.size) :
    ∃ F', RefAt (w1.setCell ⟨g, 1, none⟩ kv3) g F' n (ks ++ [l]) ∧ Frm w (w1.setCell ⟨g, 1, none⟩ kv3) F ∧ ∀ g' ∈ F', g' ∈ F ∨ w.heap.size ≤ g' := by
  rw [strs_snoc] at ho
  have hset : Frm w1 (w1.setCell ⟨g, 1, none⟩ kv3) [g] := (Frm.refl _ _).setCell _ _ (.inl (by simp))
  have hsub : ∀ b ∈ (Value.slice A ks.length c).ownBlock.toList, b ∈ F ∨ w0.heap.size ≤ b := fun b hb => .inl (by rw [hF]; exact List.mem_cons_of_mem _ hb)
  refine ⟨_, ⟨kv3, hW.set 1 kv3, ho.frm hset (fun b hb h => ?_), rfl⟩, ((hf0.mono (T := F) (fun _ h => (by cases h))).trans (hfa.trans' hf1 hsub)).trans (hset.mono (fun b hb => .inl (by rw [hF]; simp at hb; simp [hb]))), fun b hb => ?_⟩
  · have := (ho.size b hb).1
    rw [List.mem_singleton] at h
    omega
  · rcases List.mem_cons.1 hb with rfl | hb
    · exact .inl (by rw [hF]; simp)
    · rcases hl1 with h | h
      · rw [h] at hb
        exact .inl (by rw [hF]; exact List.mem_cons_of_mem _ hb)
      · rw [h] at hb
        obtain rfl : b = wa.heap.size := by simpa using hb
        exact .inr (Nat.le_trans hf0.size hfa.size)

set_option maxRecDepth 100000 in
theorem radd_new (w : World) (g : Nat) (F : List Nat) (n : Int) (ks : List (List Int)) (h : RefAt w g F n ks) (hk : Keys ks) (kv : Value) (l : List Int) (hl : Rd w .u8 kv l) (hb : Byt l) (hm : l ∉ ks) (hn : ks.length < n) (h65 : n ≤ 65536) :
    Calls Try.prog 12 #[.pointer (some ⟨g, 0, none⟩), kv] w fun en w' => en = .returned (.tuple #[.int .i64 ks.length, .bool true, .int .i64 0]) ∧
      ∃ F', RefAt w' g F' n (ks ++ [l]) ∧ Frm w w' F ∧ ∀ g' ∈ F', g' ∈ F ∨ w.heap.size ≤ g' := by
  have HF := hide (rfind_any w g F n ks h hk kv l hl hb)
  rw [decide_eq_false hm] at HF
  have ht : ¬ ((ks.length : Int) ≥ n) := by omega
  have HT := hide h
  have HL := hide hl
  have hkl := hk.len
  obtain ⟨rv, h1, _⟩ := h
  have c2 := h1.cell 2
  have hle : (ks.length : Int) < n := hn
  clear h1 hl hn h65
  go_enter Try.func12, Try.ntmps12
  go_wp2_with fail
  refine HF.out.mono ?_
  rintro en wf ⟨rfl, hf⟩
  have h1 := HT.out.frm hf (fun _ _ => by simp)
  obtain ⟨rv, h1, h2, hFe⟩ := h1
  obtain ⟨A, c, rfl, hc, hm, _⟩ := h2.rd
  have hc9 : c ≤ 9223372036854775807 := by unfold maxLen at hm; omega
  have hlen : (strs ks).length = ks.length := by simp [strs]
  rw [hlen] at h1 hc hFe
  have H2 := hide (show OwnV wf (g + 1) 9 (.slice A ks.length c) (strs ks) from hlen ▸ h2)
  have d0 := h1.cell 0
  have d1 := h1.cell 1
  have hl0 : Rd wf .u8 kv l := HL.out.below' (hf.toBelow (fun _ h => by cases h) (Nat.le_refl _))
  have HF0 := hide hf
  have H1 := hide h1
  clear h2 hf h1 HF HL HT
  go_wp2_with fail
  go_quiet (fail)
  go_wp2_with fail
  obtain ⟨w0, hw0⟩ : ∃ x, x = wf.drewN nq := ⟨_, rfl⟩
  have K1 : Whole w0 g 49 #[.int .i64 n, .slice A ks.length c, .bool true] := hw0 ▸ H1.out
  have K2 : OwnV w0 (g + 1) 9 (.slice A ks.length c) (strs ks) := hw0 ▸ H2.out
  have K3 : Rd w0 .u8 kv l := hw0 ▸ hl0
  have HF1 := hide (show Frm w w0 [] from hw0 ▸ HF0.out.drewN nq)
  rw [← hw0]
  clear hw0 H1 H2 hl0 HF0 d0 d1
  have d1 := K1.cell 1
  have hconv := run_convert_rd (P := Try.prog) w0.drew 29 9 5 Try.underlying29 Try.underlying5 Try.underlying9 (show Rd w0.drew .u8 kv l from K3)
  have hB1 : g + 1 ≤ w0.heap.size := K1.lt
  have hone : ∀ x ∈ [Value.string (strOfNums l)], x.oneCell' = true := by
    intro x hx; rw [List.mem_singleton] at hx; subst hx; rfl
  have hby : ((strs ks).length + [Value.string (strOfNums l)].length) * 16 ≤ 140737488355328 := by
    simp only [hlen, List.length_cons, List.length_nil]; omega
  have hml : (strs ks).length + [Value.string (strOfNums l)].length ≤ maxLen := by
    unfold maxLen; simp only [hlen, List.length_cons, List.length_nil]; omega
  have hB2 : g + 1 ≤ (w0.alloc (.cells #[Value.string (strOfNums l)] 9)).drew.heap.size := by
    show _ ≤ (w0.alloc _).heap.size
    rw [World.size_alloc]; omega
  have HO2 := hide (K2.alloc (.cells #[Value.string (strOfNums l)] 9)).drew
  have hrow : ∀ b ∈ (Value.slice A ks.length c).ownBlock.toList, g + 1 ≤ b ∧ b < w0.heap.size := fun b hb => K2.size b (by simpa using hb)
  have hfa : Frm w0 (w0.alloc (.cells #[Value.string (strOfNums l)] 9)).drew F := ((Frm.refl w0 F).alloc _).drewN 1
  have H1a : Whole (w0.alloc (.cells #[Value.string (strOfNums l)] 9)).drew g 49 #[.int .i64 n, .slice A ks.length c, .bool true] := K1.alloc _
  have c1a := (K1.alloc (.cells #[Value.string (strOfNums l)] 9)).cell 1
  have HA := hide (And.intro hrow (And.intro hFe (And.intro hfa H1a)))
  have hlen2 : (strs ks ++ [Value.string (strOfNums l)]).length = ks.length + 1 := by simp [strs]
  clear hrow hFe hfa H1a K1 K2 K3 hlen
  go_region_law (refine step_append_v rfl (.tmp 40) (.tmp 43) 41 rfl (g + 1) 9 _ 16 strE (.slice A ks.length c) (strs ks) (by simp [Act.eval]) HO2.out (.slice (some ⟨w0.heap.size, 0, none⟩) 1 1) [.string (strOfNums l)] (by simp [Act.eval]) (rdv_one_drew _ _ _) hone hby hml hB2 ?_; intro v' w1 ho1 hf1 hl1; obtain ⟨A', c', rfl, hc', hm', _⟩ := ho1.rd; rw [hlen2] at ho1 hl1 hc' ⊢; have hw1 := HA.out.2.2.2.frm hf1 (fun h => by have := HA.out.1 _ h; omega); have HR := hide (And.intro ho1 (And.intro hf1 (And.intro hl1 hw1))); have c1' := hw1.cell 1; have f1' := hw1.free 1; clear ho1 hf1 hl1 hw1)
  all_goals (
    have hend := radd_end HF1.out HA.out.2.1 HA.out.1 HA.out.2.2.1 HR.out.2.2.2 HR.out.1 HR.out.2.1 HR.out.2.2.1
    have hW2 := HR.out.2.2.2.set 1 (.slice A' (ks.length + 1) c')
    have hcm9 : c' ≤ 9223372036854775807 := by unfold maxLen at hm'; omega
    have HE := hide hend
    clear hend c1' f1'
    obtain ⟨w2, hw2⟩ : ∃ x, x = w1.setCell ⟨g, 1, none⟩ (.slice A' (ks.length + 1) c') := ⟨_, rfl⟩
    rw [← hw2] at HE hW2 ⊢
    have d1' := hW2.cell 1
    clear HR HA HO2 hone hby hml hB2 hB1 c1a hconv d1 hw2
    go_wp2_with fail
    go_ret3
    exact ⟨rfl, HE.out⟩)

theorem radd_any (w : World) (g : Nat) (F : List Nat) (n : Int) (ks : List (List Int)) (h : RefAt w g F n ks) (hk : Keys ks) (kv : Value) (l : List Int) (hl : Rd w .u8 kv l) (hb : Byt l) (h65 : n ≤ 65536) :
    Calls Try.prog 12 #[.pointer (some ⟨g, 0, none⟩), kv] w fun en w' => en = .returned (.tuple #[.int .i64 (addOut n ks l).1.1, .bool (addOut n ks l).1.2.1, .int .i64 (addOut n ks l).1.2.2]) ∧
      ∃ F', RefAt w' g F' n (addOut n ks l).2 ∧ Frm w w' F ∧ ∀ g' ∈ F', g' ∈ F ∨ w.heap.size ≤ g' := by
  unfold addOut
  by_cases hm : l ∈ ks
  · simp only [if_pos hm]
    refine (radd_old w g F n ks h hk kv l hl hb hm).mono ?_
    rintro en w' ⟨rfl, hf⟩
    exact ⟨rfl, F, h.frm hf (fun _ _ => by simp), hf.mono (fun _ h => by cases h), fun _ hg => .inl hg⟩
  · by_cases hn : n ≤ ks.length
    · simp only [if_neg hm, if_pos hn]
      refine (radd_full w g F n ks h hk kv l hl hb hm hn).mono ?_
      rintro en w' ⟨rfl, hf⟩
      exact ⟨rfl, F, h.frm hf (fun _ _ => by simp), hf.mono (fun _ h => by cases h), fun _ hg => .inl hg⟩
    · simp only [if_neg hm, if_neg hn]
      exact radd_new w g F n ks h hk kv l hl hb hm (by omega) h65

theorem rkey_out (w : World) (g : Nat) (F : List Nat) (n : Int) (ks : List (List Int)) (h : RefAt w g F n ks) (i : Int) (hi : i < 0 ∨ ks.length ≤ i) :
    Calls Try.prog 16 #[.pointer (some ⟨g, 0, none⟩), .int .i64 i] w fun en w' => en = .returned (.slice none 0 0) ∧ w = w' := by
  obtain ⟨kv, h1, h2, _⟩ := h
  obtain ⟨A, c, rfl, hc, hm, _⟩ := h2.rd
  have hc9 : c ≤ 9223372036854775807 := by unfold maxLen at hm; omega
  have hlen : (strs ks).length = ks.length := by simp [strs]
  rw [hlen] at h1 hc
  have c1 := h1.cell 1
  clear h2
  by_cases h0 : i < 0
  · go_enter Try.func16, Try.ntmps16
    go_wp2_with fail
    go_ret
    exact ⟨rfl, rfl⟩
  · have j1 : i ≥ (ks.length : Int) := by omega
    have j1' : (ks.length : Int) ≤ i := by omega
    go_enter Try.func16, Try.ntmps16
    go_wp2_with fail
    go_ret
    exact ⟨rfl, rfl⟩

theorem rkey_in (w : World) (g : Nat) (F : List Nat) (n : Int) (ks : List (List Int)) (h : RefAt w g F n ks) (hk : Keys ks) (k : Nat) (l : List Int) (hl : ks[k]? = some l) (hll : l.length ≤ maxLen) :
    Calls Try.prog 16 #[.pointer (some ⟨g, 0, none⟩), .int .i64 k] w fun en w' => ∃ cap, en = .returned (.slice (some ⟨w.heap.size, 0, none⟩) l.length cap) ∧ Buf w' (.slice (some ⟨w.heap.size, 0, none⟩) l.length cap) l ∧ Frm w w' [] ∧ w.heap.size < w'.heap.size ∧ cap ≤ maxLen := by
  have hlt : k < ks.length := (List.getElem?_eq_some_iff.1 hl).1
  have hlb : Byt l := hk.byt l (List.mem_of_getElem? hl)
  obtain ⟨kv, h1, h2, _⟩ := h
  obtain ⟨A, c, rfl, hc, hm, hr⟩ := h2.rd
  have hc9 : c ≤ 9223372036854775807 := by unfold maxLen at hm; omega
  have hlen : (strs ks).length = ks.length := by simp [strs]
  rw [hlen] at h1 hc hr
  obtain ⟨b, off, rfl, _, hcell⟩ := hr (by omega)
  have hck := hcell k (.string (strOfNums l)) (by unfold strs; rw [List.getElem?_map, hl]; rfl)
  have c1 := h1.cell 1
  have i0 : ¬ ((k : Int) < 0) := by omega
  have i1 : ¬ ((k : Int) ≥ ks.length) := by omega
  have i2 : (k : Int) < ks.length := by omega
  obtain ⟨cap, w', hrun, hbuf, hf, hs, hcap⟩ := run_bytes_buf (P := Try.prog) w 9 29 5 l hlb hll Try.underlying9 Try.underlying29 Try.underlying5
  have HR := hide (And.intro hbuf (And.intro hf (And.intro hs hcap)))
  clear h2 hcell hr hl hk hbuf hf hs hcap
  go_enter Try.func16, Try.ntmps16
  go_wp2_with fail
  go_ret
  exact ⟨cap, rfl, HR.out⟩
end Go.Proofs.Ytcenbpjkndhlgaa

/-
  Intersect, layer 3 (bitset).
-/
import Derived.Test.YtbnikoomgeaboaaDoorComb
namespace Go.Proofs.YtbnikoomgeaboaaDoor
open Go.RowKit

set_option maxHeartbeats 1000000 in
set_option maxRecDepth 100000 in
/-- Intersect of two sets of one capacity. -/
theorem and_comb (w : World) (B C n : Nat) (ws vs : List Nat) (h : SetAt w B n ws) (k : SetAt w C n vs) (hd : (C = B ∧ vs = ws) ∨ (C ≠ B ∧ C ≠ B + 1 ∧ C + 1 ≠ B)) :
    Calls Tryd.prog 36 #[.pointer (some ⟨B + 1, 0, none⟩), .pointer (some ⟨C + 1, 0, none⟩), .func (.func 40) #[] #[]] w fun en w' =>
      en = .returned (.bool (decide (comb (fun a b => a &&& b) ws vs ws.length ≠ ws))) ∧ SetAt w' B n (comb (fun a b => a &&& b) ws vs ws.length) ∧ Frm w w' [B] := by
  have hl : ws.length = vs.length := by rw [h.2.2.1.len, k.2.2.1.len]
  have HV : Hid (∀ (X : Nat) (W : World), X = B ∨ X = C → Frm w W [] → Calls Tryd.prog 41 #[.pointer (some ⟨X + 1, 0, none⟩)] W fun en w' => en = .returned (.bool true) ∧ W = w') := hide (fun X W hx f => by
    rcases hx with rfl | rfl
    · exact valid_set W X n ws (h.frm f (by simp) (by simp))
    · exact valid_set W X n vs (k.frm f (by simp) (by simp)))
  have h0 := h.2.1.cell 0
  have k0 := k.2.1.cell 0
  have HH := hide h
  have HK := hide k
  have h65 := h.2.2.2
  have hlen := h.2.2.1.len
  clear h k
  go_enter Tryd.func36, Tryd.ntmps36
  go_wp2_with fail
  have h0d : w.drew.cell? ⟨B + 1, 0, none⟩ = some (.int .i64 n) := h0
  have k0d : w.drew.cell? ⟨C + 1, 0, none⟩ = some (.int .i64 n) := k0
  go_quiet (first | (go_at_call 41; exact Calls.quiet_of_same ((HV.out _ _ (by first | exact .inl rfl | exact .inr rfl) ((Frm.refl _ _).drewN _)).mono fun _ _ ⟨a, b⟩ => ⟨a, b.symm⟩)))
  obtain ⟨w0, hw0⟩ : ∃ x, x = w.drewN nq := ⟨_, rfl⟩
  have hf0 : Frm w w0 [B] := hw0 ▸ (Frm.refl w [B]).drewN nq
  have hH0 : SetAt w0 B n ws := hw0 ▸ (show SetAt (w.drewN nq) B n ws from HH.out)
  have hK0 : SetAt w0 C n vs := hw0 ▸ (show SetAt (w.drewN nq) C n vs from HK.out)
  rw [← hw0]
  clear hw0 h0 k0 h0d k0d HH HK
  have c1 := hH0.2.1.cell 1
  have HF0 := hide (And.intro hf0 (And.intro hH0 hK0))
  clear hf0 hH0 hK0
  go_wp2_with fail
  go_loopw [7, 34] (fun ch i wr => ∃ q : Nat, q ≤ ws.length ∧ i = .int .i64 q ∧ ch = .bool (decide (comb (fun a b => a &&& b) ws vs q ≠ ws)) ∧ Whole wr B 58 (wcells (comb (fun a b => a &&& b) ws vs q)) ∧ Frm w0 wr [B]) (fun _ i _ => ws.length - (intOf i).toNat)
  case atStart => exact ⟨0, Nat.zero_le _, rfl, by rw [comb_zero]; simp, by rw [comb_zero]; exact HF0.out.2.1.1, Frm.refl _ _⟩
  case round =>
    obtain ⟨wq, rfl⟩ : ∃ x, x = wr := ⟨_, rfl⟩
    obtain ⟨q, hq, rfl, rfl, hW, hf⟩ := hrel
    have hS1 := HF0.out.2.1.2.1.frm hf (by simp)
    have d1 := hS1.cell 1
    have e1 : wq.cell? ⟨C + 1, 1, none⟩ = some (.slice (some ⟨C, 0, none⟩) vs.length vs.length) := by
      rcases hd with ⟨rfl, rfl⟩ | ⟨_, _, h3⟩
      · rw [d1]; rfl
      · rw [(HF0.out.2.2.2.1.frm hf (by simpa using h3)).cell]; rfl
    rw [← hl] at e1
    by_cases hlt : q < ws.length
    · obtain ⟨a, ha⟩ : ∃ a, ws[q]? = some a := ⟨_, List.getElem?_eq_getElem hlt⟩
      obtain ⟨b, hb⟩ : ∃ b, vs[q]? = some b := ⟨_, List.getElem?_eq_getElem (by omega)⟩
      have haw : Wd a := HF0.out.2.1.2.2.1.lt a (List.mem_of_getElem? ha)
      have hbw : Wd b := HF0.out.2.2.2.2.1.lt b (List.mem_of_getElem? hb)
      have hcg : (comb (fun a b => a &&& b) ws vs q)[q]? = some a := by rw [comb_get _ _ _ _ _ hl, if_neg (Nat.lt_irrefl q), ha]
      have ca : wq.cell? ⟨B, q, none⟩ = some (.int .u64 (a : Int)) := by rw [hW.cell, wcells_get, hcg]; rfl
      have fa := hW.free q
      have cb : wq.cell? ⟨C, q, none⟩ = some (.int .u64 (b : Int)) := by
        rcases hd with ⟨rfl, rfl⟩ | ⟨h3, _, _⟩
        · rw [ca]
          rw [ha] at hb
          injection hb with hb
          rw [hb]
        · rw [(HF0.out.2.2.1.frm hf (by simpa using h3)).cell, wcells_get, hb]; rfl
      have i1 : (q : Int) < ws.length := by omega
      have HCALL := hide (and_call a b haw hbw wq.drew)
      have hset : (wcells (comb (fun a b => a &&& b) ws vs q)).setIfInBounds q (.int .u64 ((a &&& b : Nat) : Int)) = wcells (comb (fun a b => a &&& b) ws vs (q + 1)) := by rw [wcells_set, ← comb_set _ hl ha hb]
      have hW2 : Whole (wq.drew.setCell ⟨B, q, none⟩ (.int .u64 ((a &&& b : Nat) : Int))) B 58 (wcells (comb (fun a b => a &&& b) ws vs (q + 1))) := by
        rw [← hset]; exact (show Whole wq.drew B 58 _ from hW).set q _
      have s1 := ((show Whole wq.drew (B + 1) 48 _ from hS1).far (p := ⟨B, q, none⟩) (by show B + 1 ≠ B; omega) (.int .u64 ((a &&& b : Nat) : Int))).cell 1
      have s2 : (wq.drew.setCell ⟨B, q, none⟩ (.int .u64 ((a &&& b : Nat) : Int))).cell? ⟨B, q, none⟩ = some (.int .u64 ((a &&& b : Nat) : Int)) := by
        rw [hW2.cell, wcells_get, ← comb_set _ hl ha hb, List.getElem?_set, if_pos rfl, if_pos (by rw [comb_len]; exact hlt)]; rfl
      have tne : (((a &&& b : Nat) : Int) != (a : Int)) = decide ((a &&& b) ≠ a) := by
        by_cases e : (a &&& b) = a
        · rw [e]; simp
        · rw [decide_eq_true e, bne_iff_ne]; omega
      have hne := comb_ne (fun a b => a &&& b) hl ha hb
      have HX := hide (And.intro hne (And.intro hW2 (((show Frm w0 wq.drew [B] from hf.trans (Frm.drew _ _))).setCell ⟨B, q, none⟩ (.int .u64 ((a &&& b : Nat) : Int)) (.inl (by simp)))))
      clear ha hb hW hf hcg hset hW2 hne
      generalize (a &&& b) = ab at HCALL s1 s2 tne HX ⊢
      generalize decide (comb (fun a b => a &&& b) ws vs q ≠ ws) = ch at HX ⊢
      generalize decide (ab ≠ a) = df at tne HX
      cases ch
      all_goals
        go_wp2_with fail
        go_still_tail 16, (by kernel_rfl)
        still_call ((HCALL.out).mono fun _ _ ⟨x, y⟩ => ⟨x, y.symm⟩)
        repeat still_step
        refine wpStill_nil ?_
        change wpList _ _ _ _ _ wq.drew
        go_wp2_with fail
        go_roundw
        · exact ⟨q + 1, by omega, by go_num, by rw [HX.out.1]; simp, HX.out.2.1, HX.out.2.2⟩
        · simp [intOf]; omega
    · obtain rfl : q = ws.length := by omega
      have HX := hide (And.intro hW hf)
      clear hW hf
      go_wp2_with fail
      go_ret
      refine ⟨rfl, ⟨HX.out.1, ?_, (comb_all op_and HF0.out.2.1.2.2.1 HF0.out.2.2.2.2.1).1, h65⟩, HF0.out.1.trans HX.out.2⟩
      rw [comb_len]; exact hS1

/-- Intersect, in the words of elements. -/
theorem and_set (w : World) (B C n : Nat) (ws vs : List Nat) (h : SetAt w B n ws) (k : SetAt w C n vs) (hd : (C = B ∧ vs = ws) ∨ (C ≠ B ∧ C ≠ B + 1 ∧ C + 1 ≠ B)) :
    Calls Tryd.prog 22 #[.pointer (some ⟨B + 1, 0, none⟩), .pointer (some ⟨C + 1, 0, none⟩)] w fun en w' => ∃ us, en = .returned (.bool (decide (us ≠ ws))) ∧ SetAt w' B n us ∧ (∀ i, bit us i = (bit ws i && bit vs i)) ∧ Frm w w' [B] := by
  have HC := hide (and_comb w B C n ws vs h k hd)
  have hb := (comb_all op_and h.2.2.1 k.2.2.1).2
  generalize comb (fun a b => a &&& b) ws vs ws.length = us at HC hb
  go_enter Tryd.func22, Tryd.ntmps22
  go_wp2_with fail
  refine HC.out.mono ?_
  rintro en w' ⟨rfl, h1, h2⟩
  go_wp2_with fail
  go_ret
  exact ⟨us, by simp, h1, hb, h2⟩
end Go.Proofs.YtbnikoomgeaboaaDoor

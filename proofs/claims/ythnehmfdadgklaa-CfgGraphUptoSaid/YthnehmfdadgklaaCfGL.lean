/-
  Layer 20 (cfg): the law CfgGraph, given what the reference's Defs and Uses answer.
-/
import Derived.Test.YthnehmfdadgklaaCfRg
import Derived.Test.YthnehmfdadgklaaCfRL
namespace Go.Proofs.Ythnehmfdadgklaa
open Go.RowKit Go.Deep

theorem small_of2 {d : FnD} (h : largeB d = false) : d.small := by
  obtain ⟨h1, _, _, h4⟩ := not_large h
  exact ⟨by omega, fun b hb => by have := h4 b hb; omega⟩
theorem fld_graph2 (s : Option Addr) (n c : Nat) (w : World) : (Instr.field 33 (.agg #[.slice s n c]) 0).run Try.prog w = .ok (.slice s n c) w := by kernel_rfl

theorem lists_int_n (n : Nat) (A A' : Option Addr) (c c' : Nat) (g : List (List Int)) (w : World) (hg : g.length = n) (hu : RdL w A c g) (hv : RdL w A' c' g) :
    Calls Try.prog 11 #[.slice A n c, .slice A' n c'] w fun e w' => e = .returned (.bool true) ∧ Below w.heap.size w w' := by
  subst hg
  exact lists_int A A' c c' g w hu hv
theorem lists_pos_n (n : Nat) (A A' : Option Addr) (c c' : Nat) (g : List (List (Int × Int))) (w : World) (hg : g.length = n) (hu : RdP w A c g) (hv : RdP w A' c' g) :
    Calls Try.prog 14 #[.slice A n c, .slice A' n c'] w fun e w' => e = .returned (.bool true) ∧ Below w.heap.size w w' := by
  subst hg
  exact lists_pos A A' c c' g w hu hv
set_option maxRecDepth 100000 in
set_option maxHeartbeats 8000000 in
theorem graph_law (d : FnD) (w : World) (hd : d.ok w) (hf : largeB d = false → ∀ b ∈ d.blocks, b.fits)
    (hrd : largeB d = false → ∀ W, d.ok W → Calls Try.prog 16 #[.agg d.cells.toArray] W fun e w' => ∃ A c, e = .returned (.slice A d.regs.length c) ∧ RdP w' A c (colL d d.writes d.blocks.length 0) ∧ Below W.heap.size W w')
    (hru : largeB d = false → ∀ W, d.ok W → Calls Try.prog 18 #[.agg d.cells.toArray] W fun e w' => ∃ A c, e = .returned (.slice A d.regs.length c) ∧ RdP w' A c (colL d d.reads d.blocks.length 0) ∧ Below W.heap.size W w') :
    Calls Try.prog 3 #[.agg d.cells.toArray] w fun e w' => LawDone w e w' := by
  have HX := hide hd
  have HFt := hide hf
  have HRD := hide hrd
  have HRU := hide hru
  obtain ⟨q, hq⟩ : ∃ q, w.heap.size = q := ⟨_, rfl⟩
  obtain ⟨w1, hw1⟩ : ∃ z, (w.alloc (.cells d.cells.toArray 27)) = z := ⟨_, rfl⟩
  have HB : Hid (Below w.heap.size w w1) := hide (by rw [← hw1]; exact (Below.refl _ _).alloc (Nat.le_refl _) _)
  have HA : Hid (Whole w1 q 27 d.cells.toArray) := hide (by rw [← hw1, ← hq]; exact Whole.new w _ _)
  have hi : (Try.prog.info? 27).map (·.size) = some 5 := by kernel_rfl
  have HI := hide hi
  have HU := hide Try.underlying27
  clear hd hi hf hrd hru
  go_enter Try.func3, Try.ntmps3
  go_upto_region 1 with fail
  clear hw1 hq
  refine wp_region_lit ?_
  refine wpList_load_mid (by rfl) _ _ rfl q 0 (by rfl) d.cells _ HA.out.range HU.out rfl HI.out ?_
  go_step; go_step
  refine (large_any d _ (HX.out.below HB.out)).mono ?_
  rintro en w2 ⟨rfl, hb⟩
  replace HA := hide (HA.out.below' hb)
  replace HB := hide (Below.all HB.out hb)
  clear hb
  cases hg : largeB d with
  | true =>
    go_wp2_with (go_at_call 10; refine (works_any _).mono ?_; rintro en w3 ⟨rfl, hb⟩; replace HB := hide (Below.all HB.out hb); clear hb)
    go_ret
    exact ⟨rfl, HB.out⟩
  | false =>
    have HFi := hide (HFt.out hg)
    have HFw : Hid (∀ b ∈ d.blocks, d.params.length + b.params.length ≤ 17592186044416) := hide (fun b hb => by
      have h := not_large hg
      have h2 := (h.2.2.2 b hb).2.1
      omega)
    have HN := hide (not_large hg)
    have HS := hide (small_of2 hg)
    have hfld := fld_graph2
    replace HRD := hide (HRD.out hg)
    replace HRU := hide (HRU.out hg)
    clear hg
    replace HA := hide (HA.out.drewN 1)
    replace HB := hide (Below.drewN' HB.out 1)
    go_upto_region 3 with fail
    go_region_held3 (fun w' => w'.cell? ⟨q, 0, none⟩ = some (.string d.nm) ∧ w'.cell? ⟨q, 1, none⟩ = some (.slice d.paramsA d.params.length d.paramsc) ∧ w'.cell? ⟨q, 2, none⟩ = some (.int .i64 d.res) ∧ w'.cell? ⟨q, 3, none⟩ = some (.slice d.regsA d.regs.length d.regsc) ∧ w'.cell? ⟨q, 4, none⟩ = some (.slice d.blocksA d.blocks.length d.blocksc)) (exact ⟨HA.out.cell 0, HA.out.cell 1, HA.out.cell 2, HA.out.cell 3, HA.out.cell 4⟩) (first
      | (go_at_call 12; refine (graph_any d _ (HX.out.below HB.out) (by have := HN.out.1; omega) (fun x hx => by have := (HN.out.2.2.2 x hx).2.2; omega)).mono ?_; rintro en wn ⟨D1, R1, rfl, hr, hb⟩; have hr1 := hr.rd; have e9 : R1.length = d.blocks.length := (by rw [hr.len, d.graph_len]); rw [e9] at hr1; have HL1 := hide hr1; replace HA := hide (HA.out.below' hb); replace HB := hide (Below.all HB.out hb); clear hb hr hr1 e9)
      | (go_at_call 13; refine (rgraph_any d _ (HX.out.below HB.out) (by have := HN.out.1; omega) (fun x hx => by have := (HN.out.2.2.2 x hx).2.2; omega)).mono ?_; rintro en wn ⟨A2, c2, rfl, hr, hb⟩; have HL2 := hide hr; replace HL1 := hide (HL1.out.below' hb); replace HA := hide (HA.out.below' hb); replace HB := hide (Below.all HB.out hb); clear hb hr)
      | (go_at_call 11; refine (lists_int_n _ _ _ _ _ d.graph _ d.graph_len HL1.out HL2.out).mono ?_; rintro en wn ⟨rfl, hb⟩; replace HA := hide (HA.out.below' hb); replace HB := hide (Below.all HB.out hb); clear hb HL1 HL2)
      | (go_at_call 15; refine (defs_any d _ (HX.out.below HB.out) HS.out (by have := HN.out.2.1; omega) HFw.out).mono ?_; rintro en wn ⟨D1, R1, rfl, hr, hb⟩; have hr1 := hr.rd; have e9 : R1.length = d.regs.length := (by rw [hr.len, colL_len]); rw [e9] at hr1; have HP1 := hide hr1; replace HA := hide (HA.out.below' hb); replace HB := hide (Below.all HB.out hb); clear hb hr hr1 e9)
      | (go_at_call 16; refine (HRD.out _ (HX.out.below HB.out)).mono ?_; rintro en wn ⟨A2, c2, rfl, hr, hb⟩; have HP2 := hide hr; replace HP1 := hide (HP1.out.below' hb); replace HA := hide (HA.out.below' hb); replace HB := hide (Below.all HB.out hb); clear hb hr)
      | (go_at_call 17; refine (uses_any d _ (HX.out.below HB.out) HS.out (by have := HN.out.2.1; omega) HFi.out).mono ?_; rintro en wn ⟨D1, R1, rfl, hr, hb⟩; have hr1 := hr.rd; have e9 : R1.length = d.regs.length := (by rw [hr.len, colL_len]); rw [e9] at hr1; have HP1 := hide hr1; replace HA := hide (HA.out.below' hb); replace HB := hide (Below.all HB.out hb); clear hb hr hr1 e9)
      | (go_at_call 18; refine (HRU.out _ (HX.out.below HB.out)).mono ?_; rintro en wn ⟨A2, c2, rfl, hr, hb⟩; have HP2 := hide hr; replace HP1 := hide (HP1.out.below' hb); replace HA := hide (HA.out.below' hb); replace HB := hide (Below.all HB.out hb); clear hb hr)
      | (go_at_call 14; refine (lists_pos_n _ _ _ _ _ _ _ (colL_len _ _ _ _) HP1.out HP2.out).mono ?_; rintro en wn ⟨rfl, hb⟩; replace HA := hide (HA.out.below' hb); replace HB := hide (Below.all HB.out hb); clear hb HP1 HP2)
      | (go_at_call 10; refine (works_any _).mono ?_; rintro en wn ⟨rfl, hb⟩; replace HA := hide (HA.out.below' hb); replace HB := hide (Below.all HB.out hb); clear hb))
    all_goals
      go_wp2_with fail
      go_ret
      exact ⟨rfl, HB.out⟩
end Go.Proofs.Ythnehmfdadgklaa

/-
  Layer 12 (opcode): typesFit of an operation with a row.
-/
import Derived.Test.YtnhaanjpcnnifaaDoorOpG
import Derived.Deep.RegionHeld3
namespace Go.Proofs.YtnhaanjpcnnifaaDoor
open Go.RowKit

theorem infoTyp : (Tryd.prog.info? 24).map (fun i => (i.zero, i.size, i.bytes)) = some (some (.int .i64 0), 1, 8) := by kernel_rfl
theorem typE : ElemI Tryd.prog 25 24 .i64 8 := ⟨Tryd.underlying25, Tryd.underlying24, info_parts infoTyp⟩
theorem rule_bound : ∀ k, k < 34 → ((ruleM k).1 < 256 ∧ (ruleM k).2.1.1 < 256 ∧ (ruleM k).2.1.2.1 < 256 ∧ (ruleM k).2.1.2.2.1 < 256 ∧ (ruleM k).2.1.2.2.2 < 256) ∧ (ruleM k).2.2 ≤ 6 := by decide
/-- The types of the registers l. -/
def tysOf (rl l : List Int) : List Int := l.map fun r => rl.getD r.toNat 0
theorem tysOf_len (rl l : List Int) : (tysOf rl l).length = l.length := by simp [tysOf]
set_option maxRecDepth 100000 in
set_option maxHeartbeats 4000000 in
theorem types_row (k : Nat) (hk : k < 34) (h30 : k ≠ 30) (ty dst imm sym el : Int) (A RA : Option Addr) (c rc : Nat) (l rl : List Int) (hm : l.length ≤ 4) (hin : ∀ z ∈ l, 0 ≤ z ∧ z < rl.length) (hne : relWants (ruleM k).2.2 = true → l ≠ []) (nw : Bool) (v0 v1 v4 u0 u1 : Value) (res : Int) (w : World) (hT : Tab w) (hO : OpTab w) (hl : Rd w .i64 (.slice A l.length c) l) (hr : Rd w .i64 (.slice RA rl.length rc) rl) :
    Calls Tryd.prog 62 #[.agg #[.int .i64 (k : Int), .int .i64 ty, .int .i64 dst, .slice A l.length c, .int .i64 imm, .int .i64 sym, .int .i64 el, .bool nw], .agg #[v0, v1, .int .i64 res, .slice RA rl.length rc, v4], .agg #[u0, u1]] w fun e w' => e = .returned (.bool (acceptsB k ty (tysOf rl l))) ∧ Below w.heap.size w w' := by
  have e30 : ((k : Int) == 30) = false := by simp; omega
  obtain ⟨w1, hw1⟩ : ∃ z, (((w).alloc (.cells #[.int .i64 (k : Int), .int .i64 ty, .int .i64 dst, .slice A l.length c, .int .i64 imm, .int .i64 sym, .int .i64 el, .bool nw] 78)).alloc (.cells #[v0, v1, .int .i64 res, .slice RA rl.length rc, v4] 28)).alloc (.cells #[u0, u1] 32) = z := ⟨_, rfl⟩
  have hb : Below w.heap.size w w1 := by rw [← hw1]; exact ((((Below.refl _ _).alloc (Nat.le_refl _) _).alloc (by simp [go_sem]) _).alloc (by simp [go_sem]; omega) _)
  have HI : Hid (Whole w1 (w.heap.size) 78 #[.int .i64 (k : Int), .int .i64 ty, .int .i64 dst, .slice A l.length c, .int .i64 imm, .int .i64 sym, .int .i64 el, .bool nw]) := by show Whole _ _ _ _; rw [← hw1]; exact (((Whole.new w _ _).alloc (.cells #[v0, v1, .int .i64 res, .slice RA rl.length rc, v4] 28)).alloc (.cells #[u0, u1] 32))
  have HF : Hid (Whole w1 (w.heap.size + 1) 28 #[v0, v1, .int .i64 res, .slice RA rl.length rc, v4]) := by show Whole _ _ _ _; rw [← hw1]; have h0 := ((Whole.new ((w.alloc (.cells #[.int .i64 (k : Int), .int .i64 ty, .int .i64 dst, .slice A l.length c, .int .i64 imm, .int .i64 sym, .int .i64 el, .bool nw] 78))) 28 #[v0, v1, .int .i64 res, .slice RA rl.length rc, v4]).alloc (.cells #[u0, u1] 32)); simpa [go_sem] using h0
  have HM : Hid (Whole w1 (w.heap.size + 2) 32 #[u0, u1]) := by show Whole _ _ _ _; rw [← hw1]; have h0 := (Whole.new (((w.alloc (.cells #[.int .i64 (k : Int), .int .i64 ty, .int .i64 dst, .slice A l.length c, .int .i64 imm, .int .i64 sym, .int .i64 el, .bool nw] 78)).alloc (.cells #[v0, v1, .int .i64 res, .slice RA rl.length rc, v4] 28))) 32 #[u0, u1]); simpa [go_sem] using h0
  have HL := hide (hl.below' hb)
  have HRL := hide (hr.below' hb)
  have HT := hide (hT.below hb)
  have HO := hide (hO.below hb)
  have HB := hide hb
  have HIF := hide (And.intro HI.out HF.out)
  have i0 : w1.cell? ⟨w.heap.size, 0, none⟩ = some (.int .i64 (k : Int)) := HI.out.cell 0
  have i3 : w1.cell? ⟨w.heap.size, 3, none⟩ = some (.slice A l.length c) := HI.out.cell 3
  clear hl hr hT hO HI HF HM
  go_enter Tryd.func62, Tryd.ntmps62
  go_upto_region 1 with fail
  clear hb hw1
  go_wp2_with fail
  clear i0 i3
  go_loopw [7, 25] (fun u v W => ∃ i : Nat, v = .int .i64 (i : Int) ∧ i ≤ l.length ∧ Below w1.heap.size w1 W ∧ Own W w1.heap.size 24 .i64 u (tysOf rl (l.take i))) (fun _ v _ => l.length - (intOf v).toNat)
  case atStart => exact ⟨0, rfl, by omega, Below.refl _ _, Own.nil⟩
  case round =>
    obtain ⟨i, rfl, hi, hbk, hown⟩ := hrel
    rename_i wr _ _
    have HL2 := hide (HL.out.below' hbk)
    have HR2 := hide (HRL.out.below' hbk)
    have HI := hide (HIF.out.1.below' hbk)
    have HF := hide (HIF.out.2.below' hbk)
    have HT2 := hide (HT.out.below hbk)
    have HO2 := hide (HO.out.below hbk)
    have HB2 := hide (Below.all HB.out hbk)
    have HBK := hide hbk
    have HOW := hide hown
    clear hbk HL HRL HIF HT HO HB hown
    have f3 : wr.cell? ⟨w.heap.size + 1, 3, none⟩ = some (.slice RA rl.length rc) := HF.out.cell 3
    rcases Nat.lt_or_ge i l.length with hlt | hge
    · obtain ⟨z, hz⟩ : ∃ z, l[i]? = some z := ⟨_, List.getElem?_eq_getElem hlt⟩
      obtain ⟨b, off, rfl, hc⟩ := HL2.out.at (by omega)
      have hcell := hc i z hz
      obtain ⟨hz0, hz1⟩ := hin z (List.mem_of_getElem? hz)
      obtain ⟨j, rfl⟩ : ∃ j : Nat, z = j := ⟨z.toNat, by omega⟩
      obtain ⟨y, hy⟩ : ∃ y, rl[j]? = some y := ⟨_, List.getElem?_eq_getElem (by omega)⟩
      obtain ⟨b2, off2, rfl, hc2⟩ := HR2.out.at (by omega)
      have hcell2 := hc2 j y hy
      have HNX := hide (show tysOf rl (l.take (i + 1)) = tysOf rl (l.take i) ++ [y] by
        rw [List.take_add_one, hz]
        simp [tysOf, List.map_append, List.getD_eq_getElem?_getD, hy])
      have hlen : (tysOf rl (l.take i)).length = i := by rw [tysOf_len, List.length_take]; omega
      have HLN := hide hlen
      obtain ⟨Ao, co, hvo, -, -, -⟩ := HOW.out.rd
      rw [hlen] at hvo
      subst hvo
      have hsz := HBK.out.size
      clear hc hc2 HL2 HR2 hz hy hin hlen
      go_wp2_with (first | (refine wpList_append_rd _ rfl _ _ 25 rfl w1.heap.size 24 .i64 8 typE _ (tysOf rl (l.take i)) rfl (HOW.out.alloc _) _ [y] rfl (rd_one wr 24 y) ?b1 ?b2 ?b3 ?_))
      case b1 => rw [HLN.out, List.length_singleton]; omega
      case b2 => unfold maxLen; rw [HLN.out, List.length_singleton]; omega
      case b3 => rw [World.size_alloc]; omega
      intro v' w5 ho5 hg5 hb5 hblk
      have HN5 := hide (show Below w1.heap.size w1 w5 from (HBK.out.alloc hsz _).trans hb5)
      have HO5 : Hid (Own w5 w1.heap.size 24 .i64 v' (tysOf rl (l.take (i + 1)))) := hide (by rw [HNX.out]; exact ho5)
      clear ho5 hg5 hb5 hblk HOW
      go_wp2_with fail
      go_roundw
      case rel => exact ⟨i + 1, by go_num, by omega, HN5.out, HO5.out⟩
      case measure => simp [intOf]; omega
    · obtain rfl : i = l.length := by omega
      have how := HOW.out
      rw [List.take_of_length_le (Nat.le_refl _)] at how
      obtain ⟨Ao, co, hvo, -, -, -⟩ := how.rd
      subst hvo
      obtain ⟨⟨hb0, hb1, hb2, hb3, hb4⟩, hb5⟩ := rule_bound k hk
      have HC := hide (fun W (hbW : Below wr.heap.size wr W) => accepts_any (ruleM k).1 (ruleM k).2.1.1 (ruleM k).2.1.2.1 (ruleM k).2.1.2.2.1 (ruleM k).2.1.2.2.2 (ruleM k).2.2 ⟨hb0, hb1, hb2, hb3, hb4⟩ hb5 ty Ao co (tysOf rl l) (by rw [tysOf_len]; exact hm) (fun h e => hne h (List.eq_nil_of_length_eq_zero (by rw [← tysOf_len rl l, e]; rfl))) W (HT2.out.below hbW) (how.rd.below' hbW))
      rw [tysOf_len] at HC ⊢
      have HR : Hid (acceptsB k ty (tysOf rl l) = (opsB [(ruleM k).2.1.1, (ruleM k).2.1.2.1, (ruleM k).2.1.2.2.1, (ruleM k).2.1.2.2.2] (tysOf rl l) && hasB (ruleM k).1 ty && relB (ruleM k).2.2 ty (tysOf rl l))) := hide rfl
      obtain ⟨R, hR⟩ : ∃ R, (opsB [(ruleM k).2.1.1, (ruleM k).2.1.2.1, (ruleM k).2.1.2.2.1, (ruleM k).2.1.2.2.2] (tysOf rl l) && hasB (ruleM k).1 ty && relB (ruleM k).2.2 ty (tysOf rl l)) = R := ⟨_, rfl⟩
      rw [hR] at HC HR
      have HX : Hid (Below wr.heap.size wr wr.drew) := hide (Below.refl _ _).drew
      have HI2 := hide (HI.out.drewN 1)
      have HO3 : Hid (OpTab wr.drew) := hide (HO2.out.below (Below.refl _ _).drew)
      have HB3 : Hid (Below w.heap.size w wr.drew) := hide HB2.out.drew
      have hk34 : (k : Int) < 34 := by omega
      clear hR how HOW hb0 hb1 hb2 hb3 hb4 hb5 HL2 HR2 HF HT2 HO2 HB2 HBK f3 hne hin HI
      go_upto_region 9 with fail
      go_region_held3 (fun w' => w'.cell? ⟨w.heap.size, 0, none⟩ = some (.int .i64 (k : Int)) ∧ w'.cell? ⟨w.heap.size, 1, none⟩ = some (.int .i64 ty) ∧ w'.cell? ⟨2, k * 6, none⟩ = some (.int .u8 ((ruleM k).1 : Int)) ∧ w'.cell? ⟨2, k * 6 + 1, none⟩ = some (.int .u8 ((ruleM k).2.1.1 : Int)) ∧ w'.cell? ⟨2, k * 6 + 2, none⟩ = some (.int .u8 ((ruleM k).2.1.2.1 : Int)) ∧ w'.cell? ⟨2, k * 6 + 3, none⟩ = some (.int .u8 ((ruleM k).2.1.2.2.1 : Int)) ∧ w'.cell? ⟨2, k * 6 + 4, none⟩ = some (.int .u8 ((ruleM k).2.1.2.2.2 : Int)) ∧ w'.cell? ⟨2, k * 6 + 5, none⟩ = some (.int .i64 ((ruleM k).2.2 : Int))) (exact ⟨HI2.out.cell 0, HI2.out.cell 1, HO3.out.res k hk, HO3.out.op0 k hk, HO3.out.op1 k hk, HO3.out.op2 k hk, HO3.out.op3 k hk, HO3.out.rel k hk⟩) (first | (go_at_call 88; refine (HC.out _ (by exact HX.out)).mono ?_; rintro en wn ⟨rfl, hb⟩; replace HI2 := hide (HI2.out.below' hb); replace HO3 := hide (HO3.out.below hb); replace HX := hide (Below.all HX.out hb); replace HB3 := hide (Below.all HB3.out hb); clear hb))
      all_goals
        go_wp2_with fail
        go_ret
        exact ⟨by rw [HR.out]; rfl, HB3.out⟩
end Go.Proofs.YtnhaanjpcnnifaaDoor

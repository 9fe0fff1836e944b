/-
  Layer 14 (verify): the globals and signatures of a module in which nothing is wrong.
-/
import Derived.Deep.RegionHeld3
import Derived.Test.YtjphechnadoblaaDoorVfA
namespace Go.Proofs.YtjphechnadoblaaDoor
open Go.RowKit Go.Maps

/-- A global. -/
structure GD where
  nm : List UInt8
  el : Int
  ln : Int
  IA : Option Addr
  ic : Nat
  il : List Int
  ro : Bool
def GD.cl (d : GD) : List Value := [.string (Bs d.nm), .int .i64 d.el, .int .i64 d.ln, .slice d.IA d.il.length d.ic, .bool d.ro]
/-- A global as it should be. -/
structure OkG (d : GD) : Prop where
  id : (!d.nm.isEmpty && decide (d.nm.length ≤ 24) && decide (identLen d.nm = d.nm.length)) = true
  el : 2 ≤ d.el ∧ d.el ≤ 5
  ln : 1 ≤ d.ln ∧ d.ln ≤ 256
  il : (d.il.length : Int) ≤ d.ln
  ptr : d.el = 5 → d.il = []
  fits : ∀ n ∈ d.il, wrapI d.el n = n
theorem bs_small (l : List UInt8) (h : l.length ≤ 24) : (Bs l).size ≤ maxLen := by
  have h2 : (Bs l).size = l.length := by simp [Bs, ByteArray.size]
  rw [h2]; unfold maxLen; omega
def seenL (gs : List GD) (i : Nat) : List ByteArray := ((gs.take i).map fun d => Bs d.nm).reverse
theorem seenL_snoc {gs : List GD} {i : Nat} {d : GD} (h : gs[i]? = some d) : seenL gs (i + 1) = Bs d.nm :: seenL gs i := by
  unfold seenL
  rw [List.take_add_one, h]
  simp
theorem seenL_len (gs : List GD) (i : Nat) : (seenL gs i).length ≤ gs.length := by
  unfold seenL; simp; omega
/-- The globals of a module, in memory. -/
structure GlobAt (w : World) (A : Option Addr) (c : Nat) (gs : List GD) : Prop where
  rows : RdN w 5 (.slice A gs.length c) (gs.map GD.cl)
  init : ∀ d ∈ gs, Rd w .i64 (.slice d.IA d.il.length d.ic) d.il
theorem GlobAt.below {w w' : World} {A : Option Addr} {c : Nat} {gs : List GD} (h : GlobAt w A c gs) (hb : Below w.heap.size w w') : GlobAt w' A c gs :=
  ⟨h.rows.below' hb, fun d hd => (h.init d hd).below' hb⟩
theorem GlobAt.at {w : World} {A : Option Addr} {c : Nat} {gs : List GD} (h : GlobAt w A c gs) {i : Nat} {d : GD} (hi : gs[i]? = some d) :
    ∃ b off, A = some ⟨b, off, none⟩ ∧ w.cell? ⟨b, off + i * 5, none⟩ = some (.string (Bs d.nm)) ∧ w.cell? ⟨b, off + i * 5 + 1, none⟩ = some (.int .i64 d.el) ∧ w.cell? ⟨b, off + i * 5 + 2, none⟩ = some (.int .i64 d.ln) ∧ w.cell? ⟨b, off + i * 5 + 3, none⟩ = some (.slice d.IA d.il.length d.ic) ∧ w.cell? ⟨b, off + i * 5 + 4, none⟩ = some (.bool d.ro) := by
  obtain ⟨_, A', c', e, _, _, hc⟩ := h.rows
  rw [List.length_map] at hc e
  injection e with e1 e2 e3
  subst e1
  have hlt := (List.getElem?_eq_some_iff.1 hi).1
  obtain ⟨b, off, rfl, _, hcell⟩ := hc (by omega)
  have k := fun (j : Nat) (z : Value) (hz : (GD.cl d)[j]? = some z) => hcell i j _ z (by rw [List.getElem?_map, hi]; rfl) hz
  refine ⟨b, off, rfl, k 0 _ rfl, ?_, ?_, ?_, ?_⟩
  · rw [Nat.add_assoc]; exact k 1 _ rfl
  · rw [Nat.add_assoc]; exact k 2 _ rfl
  · rw [Nat.add_assoc]; exact k 3 _ rfl
  · rw [Nat.add_assoc]; exact k 4 _ rfl
/-- What a round over the globals keeps. -/
structure GlS (w W : World) (m gb pb : Nat) (d : GD) (i : Nat) (ks : List ByteArray) : Prop where
  b : Below w.heap.size w W
  seen : SeenAt W m ks
  g : Whole W gb 75 #[.string (Bs d.nm), .int .i64 d.el, .int .i64 d.ln, .slice d.IA d.il.length d.ic, .bool d.ro]
  p : Whole W pb 120 #[.int .i64 0, .int .i64 1, .int .i64 (i : Int), .int .i64 (-1), .int .i64 (-1)]
  rd : Rd W .i64 (.slice d.IA d.il.length d.ic) d.il
  tab : Tab W
  lm : w.heap.size ≤ m
  lg : m + 1 < gb
  lp : gb < pb
theorem GlS.next {w W W' : World} {m gb pb : Nat} {d : GD} {i : Nat} {ks : List ByteArray} (h : GlS w W m gb pb d i ks) (hb : Below W.heap.size W W') : GlS w W' m gb pb d i ks :=
  ⟨h.b.trans (hb.mono h.b.size), h.seen.below' hb, h.g.below' hb, h.p.below' hb, h.rd.below' hb, h.tab.below hb, h.lm, h.lg, h.lp⟩
theorem Tab.low {w w' : World} (h : Tab w) (hb : Below w.heap.size w w') : Tab w' := h.below hb
/-- A name has been seen. -/
theorem GlS.saw {w W W' : World} {m gb pb : Nat} {d : GD} {i : Nat} {ks ks' : List ByteArray} (h : GlS w W m gb pb d i ks) (hT : Tab w) (hr : Rd w .i64 (.slice d.IA d.il.length d.ic) d.il) (hf : Frm W W' [m]) (hs : SeenAt W' m ks') : GlS w W' m gb pb d i ks' := by
  have hb : Below w.heap.size w W' := h.b.trans (hf.toBelow (fun g hg => by simp at hg; subst hg; exact h.lm) h.b.size)
  have h1 := h.lg; have h2 := h.lp
  exact ⟨hb, hs, h.g.frm hf (by simp; omega), h.p.frm hf (by simp; omega), hr.below' hb, hT.below hb, h.lm, h.lg, h.lp⟩
theorem rd_at {w : World} {k : IntKind} {A : Option Addr} {c : Nat} {l : List Int} (h : Rd w k (.slice A l.length c) l) (h0 : 0 < l.length) : ∃ b off, A = some ⟨b, off, none⟩ ∧ ∀ j z, l[j]? = some z → w.cell? ⟨b, off + j, none⟩ = some (.int k z) := by
  obtain ⟨A', c', e, _, _, hc⟩ := h
  injection e with e1 _ _
  subst e1
  obtain ⟨b, off, e, _, h1⟩ := hc h0
  exact ⟨b, off, e, h1⟩
set_option maxRecDepth 100000 in
set_option maxHeartbeats 8000000 in
theorem chkglob_ok (A : Option Addr) (c : Nat) (gs : List GD) (h32 : gs.length ≤ 32) (hok : ∀ d ∈ gs, OkG d) (hdis : ∀ i d, gs[i]? = some d → inB (Bs d.nm) (seenL gs i) = false) (w : World) (hT : Tab w) (hG : GlobAt w A c gs) :
    Calls Tryd.prog 45 #[.slice A gs.length c] w fun e w' => e = .returned (.tuple #[]) ∧ Below w.heap.size w w' := by
  have HT := hide hT
  have HG := hide hG
  have HOK := hide hok
  have HD := hide hdis
  have t0 : decide ((32 : Int) < (gs.length : Int)) = false := by simp; omega
  have t1 : decide (32 < gs.length) = false := by simp; omega
  have HC : Hid (gs.length ≤ c ∧ c ≤ maxLen) := hide (by obtain ⟨_, A', c', e, h1, h2, _⟩ := hG.rows; rw [List.length_map] at e h1; injection e with _ _ e3; subst e3; exact ⟨h1, h2⟩)
  clear hT hG hok hdis
  go_enter Tryd.func45, Tryd.ntmps45
  go_wp2_with fail
  refine (part_any 1 (-1) _).mono ?_
  rintro en x1 ⟨rfl, hb1⟩
  have HB1 := hide hb1
  clear hb1
  go_wp2_with fail
  refine (failno_any _ _ _ _ _ _ _).mono ?_
  rintro en x2 ⟨rfl, hb2⟩
  replace HB1 := hide (Below.all HB1.out hb2)
  clear hb2
  go_wp2_with fail
  refine (repnew_any _).mono ?_
  rintro en x3 ⟨rfl, hs3, hb3⟩
  obtain ⟨m, hm⟩ : ∃ m, x2.heap.size = m := ⟨_, rfl⟩
  rw [hm] at hs3
  rw [hm]
  have HS3 := hide hs3
  have HLM : Hid (w.heap.size ≤ m) := hide (by rw [← hm]; exact HB1.out.size)
  replace HB1 := hide (Below.all HB1.out hb3)
  clear hb3 hs3 hm t0 t1
  go_wp2_with fail
  go_loopw [16] (fun v W => ∃ i : Nat, v = .int .i64 (i : Int) ∧ i ≤ gs.length ∧ Below w.heap.size w W ∧ SeenAt W m (seenL gs i)) (fun v _ => gs.length - (intOf v).toNat)
  case atStart => exact ⟨0, rfl, by omega, HB1.out, HS3.out⟩
  case round =>
    obtain ⟨i, rfl, hi, hbW, hsW⟩ := hrel
    rcases Nat.lt_or_ge i gs.length with hlt | hge
    · obtain ⟨d, hd⟩ : ∃ d, gs[i]? = some d := ⟨_, List.getElem?_eq_getElem hlt⟩
      have HLT := hide hlt
      have HDI := hide hd
      have hmem := List.mem_of_getElem? hd
      obtain ⟨b, off, hA, c0, c1, c2, c3, c4⟩ := (HG.out.below hbW).at hd
      subst hA
      have hok := HOK.out d hmem
      have HO := hide hok
      have HSN := hide (seenL_snoc hd)
      have HNB := hide (HD.out i d hd)
      have HR0 : Hid (Rd w .i64 (.slice d.IA d.il.length d.ic) d.il) := hide (HG.out.init d hmem)
      have HID : Hid (∀ W, Calls Tryd.prog 69 #[.string (Bs d.nm)] W fun e w' => e = .returned (.bool true) ∧ Below W.heap.size W w') := hide (fun W => by
        have h1 := isIdent_any d.nm (by have := hok.id; simp at this; omega) W
        rw [hok.id] at h1; exact h1)
      have HSZ : Hid ((Bs d.nm).size ≤ maxLen) := hide (bs_small d.nm (by have := hok.id; simp at this; omega))
      have HWB := hide hbW
      have HWS := hide hsW
      have q0 : (0 : Int) ≤ (i : Int) := by omega
      have q1 : (i : Int) < (gs.length : Int) := by omega
      clear hd hmem hok hbW hsW hlt
      go_upto_region 5 with fail
      obtain ⟨gb, hgb⟩ : ∃ x, wr.heap.size = x := ⟨_, rfl⟩
      obtain ⟨w4, hw4⟩ : ∃ x, wr.alloc (.cells #[.string (Bs d.nm), .int .i64 d.el, .int .i64 d.ln, .slice d.IA d.il.length d.ic, .bool d.ro] 75) = x := ⟨_, rfl⟩
      have hb4 : Below wr.heap.size wr w4 := by rw [← hw4]; exact (Below.refl _ _).alloc (Nat.le_refl _) _
      have HG4 : Hid (Whole w4 gb 75 #[.string (Bs d.nm), .int .i64 d.el, .int .i64 d.ln, .slice d.IA d.il.length d.ic, .bool d.ro]) := hide (by rw [← hw4, ← hgb]; exact Whole.new _ _ _)
      have HB4 := hide hb4
      have HGB : Hid (m + 1 < gb) := hide (by rw [← hgb]; exact HWS.out.lt)
      simp only [hw4, hgb]
      clear hw4 hb4 c0 c1 c2 c3 c4 hgb
      go_wp2_with fail
      refine (part_any 1 (i : Int) _).mono ?_
      rintro en w5 ⟨rfl, hb5⟩
      have HB5 := hide hb5
      clear hb5
      go_upto_region 6 with fail
      obtain ⟨pb, hpb⟩ : ∃ x, w5.heap.size = x := ⟨_, rfl⟩
      obtain ⟨w6, hw6⟩ : ∃ x, w5.alloc (.cells #[.int .i64 0, .int .i64 1, .int .i64 (i : Int), .int .i64 (-1), .int .i64 (-1)] 120) = x := ⟨_, rfl⟩
      have hb6 : Below w5.heap.size w5 w6 := by rw [← hw6]; exact (Below.refl _ _).alloc (Nat.le_refl _) _
      have HS : Hid (GlS w w6 m gb pb d i (seenL gs i)) := hide (by
        have h46 := Below.all HB5.out hb6
        have hr6 := Below.all HB4.out h46
        have h6 := Below.all HWB.out hr6
        exact ⟨h6, HWS.out.below' hr6, HG4.out.below' h46, by rw [← hw6, ← hpb]; exact Whole.new _ _ _, HR0.out.below' h6, HT.out.below h6, HLM.out, HGB.out, by rw [← hpb]; exact Nat.lt_of_lt_of_le HG4.out.lt HB5.out.size⟩)
      simp only [hw6, hpb]
      clear hw6 hpb hb6
      have HIC : Hid (∀ W, Calls Tryd.prog 70 #[.int .i64 d.el] W fun e w' => e = .returned (.bool true) ∧ W = w') := hide (fun W => by
        have h1 := iscell_any d.el W
        have h2 : (accN d.el == 1) = true := by
          have := HO.out.el
          unfold accN
          rw [if_pos (by omega)]; rfl
        rw [h2] at h1; exact h1)
      have HRP : Hid (∀ W, SeenAt W m (seenL gs i) → Calls Tryd.prog 94 #[.string (Bs d.nm), .pointer (some ⟨m + 1, 0, none⟩)] W fun e w' => e = .returned (.bool false) ∧ SeenAt w' m (seenL gs (i + 1)) ∧ Frm W w' [m]) := hide (fun W h => by
        refine (rep_any W m _ h (Bs d.nm) HSZ.out (by have := seenL_len gs i; omega)).mono ?_
        rintro e w' ⟨rfl, h1, h2, _⟩
        exact ⟨by rw [HNB.out], by rw [HSN.out]; exact h1 HNB.out, h2⟩)
      replace HS := hide (HS.out.next ((Below.refl _ _).drew))
      go_region_held3 (fun w' => w'.cell? ⟨gb, 0, none⟩ = some (.string (Bs d.nm)) ∧ w'.cell? ⟨gb, 1, none⟩ = some (.int .i64 d.el) ∧ w'.cell? ⟨gb, 2, none⟩ = some (.int .i64 d.ln) ∧ w'.cell? ⟨gb, 3, none⟩ = some (.slice d.IA d.il.length d.ic) ∧ w'.cell? ⟨gb, 4, none⟩ = some (.bool d.ro) ∧ w'.cell? ⟨pb, 0, none⟩ = some (.int .i64 0) ∧ w'.cell? ⟨pb, 1, none⟩ = some (.int .i64 1) ∧ w'.cell? ⟨pb, 2, none⟩ = some (.int .i64 (i : Int)) ∧ w'.cell? ⟨pb, 3, none⟩ = some (.int .i64 (-1)) ∧ w'.cell? ⟨pb, 4, none⟩ = some (.int .i64 (-1))) (exact ⟨HS.out.g.cell 0, HS.out.g.cell 1, HS.out.g.cell 2, HS.out.g.cell 3, HS.out.g.cell 4, HS.out.p.cell 0, HS.out.p.cell 1, HS.out.p.cell 2, HS.out.p.cell 3, HS.out.p.cell 4⟩) (first | (go_at_call 69; refine (HID.out _).mono ?_; rintro en xn ⟨rfl, hb⟩; replace HS := hide (HS.out.next hb); clear hb) | (go_at_call 67; refine (failno_any _ _ _ _ _ _ _).mono ?_; rintro en xn ⟨rfl, hb⟩; replace HS := hide (HS.out.next hb); clear hb))
      go_upto_region 7 with fail
      replace HS := hide (HS.out.next ((Below.refl _ _).drew))
      go_region_held3 (fun w' => w'.cell? ⟨gb, 0, none⟩ = some (.string (Bs d.nm)) ∧ w'.cell? ⟨gb, 1, none⟩ = some (.int .i64 d.el) ∧ w'.cell? ⟨gb, 2, none⟩ = some (.int .i64 d.ln) ∧ w'.cell? ⟨gb, 3, none⟩ = some (.slice d.IA d.il.length d.ic) ∧ w'.cell? ⟨gb, 4, none⟩ = some (.bool d.ro) ∧ w'.cell? ⟨pb, 0, none⟩ = some (.int .i64 0) ∧ w'.cell? ⟨pb, 1, none⟩ = some (.int .i64 1) ∧ w'.cell? ⟨pb, 2, none⟩ = some (.int .i64 (i : Int)) ∧ w'.cell? ⟨pb, 3, none⟩ = some (.int .i64 (-1)) ∧ w'.cell? ⟨pb, 4, none⟩ = some (.int .i64 (-1))) (exact ⟨HS.out.g.cell 0, HS.out.g.cell 1, HS.out.g.cell 2, HS.out.g.cell 3, HS.out.g.cell 4, HS.out.p.cell 0, HS.out.p.cell 1, HS.out.p.cell 2, HS.out.p.cell 3, HS.out.p.cell 4⟩) (first | (go_at_call 94; refine (HRP.out _ HS.out.seen).mono ?_; rintro en xn ⟨rfl, hsn, hf⟩; replace HS := hide (HS.out.saw HT.out HR0.out hf hsn); clear hsn hf) | (go_at_call 67; refine (failno_any _ _ _ _ _ _ _).mono ?_; rintro en xn ⟨rfl, hb⟩; replace HS := hide (HS.out.next hb); clear hb))
      go_upto_region 8 with fail
      replace HS := hide (HS.out.next ((Below.refl _ _).drew))
      go_region_held3 (fun w' => w'.cell? ⟨gb, 0, none⟩ = some (.string (Bs d.nm)) ∧ w'.cell? ⟨gb, 1, none⟩ = some (.int .i64 d.el) ∧ w'.cell? ⟨gb, 2, none⟩ = some (.int .i64 d.ln) ∧ w'.cell? ⟨gb, 3, none⟩ = some (.slice d.IA d.il.length d.ic) ∧ w'.cell? ⟨gb, 4, none⟩ = some (.bool d.ro) ∧ w'.cell? ⟨pb, 0, none⟩ = some (.int .i64 0) ∧ w'.cell? ⟨pb, 1, none⟩ = some (.int .i64 1) ∧ w'.cell? ⟨pb, 2, none⟩ = some (.int .i64 (i : Int)) ∧ w'.cell? ⟨pb, 3, none⟩ = some (.int .i64 (-1)) ∧ w'.cell? ⟨pb, 4, none⟩ = some (.int .i64 (-1))) (exact ⟨HS.out.g.cell 0, HS.out.g.cell 1, HS.out.g.cell 2, HS.out.g.cell 3, HS.out.g.cell 4, HS.out.p.cell 0, HS.out.p.cell 1, HS.out.p.cell 2, HS.out.p.cell 3, HS.out.p.cell 4⟩) (first | (go_at_call 70; refine (HIC.out _).mono ?_; rintro en xn ⟨rfl, rfl⟩) | (go_at_call 67; refine (failno_any _ _ _ _ _ _ _).mono ?_; rintro en xn ⟨rfl, hb⟩; replace HS := hide (HS.out.next hb); clear hb))
      go_upto_region 9 with fail
      have g0 : World.cell? _ ⟨gb, 0, none⟩ = some (.string (Bs d.nm)) := HS.out.g.cell 0
      have g1 : World.cell? _ ⟨gb, 1, none⟩ = some (.int .i64 d.el) := HS.out.g.cell 1
      have g2 : World.cell? _ ⟨gb, 2, none⟩ = some (.int .i64 d.ln) := HS.out.g.cell 2
      have g3 : World.cell? _ ⟨gb, 3, none⟩ = some (.slice d.IA d.il.length d.ic) := HS.out.g.cell 3
      have g4 : World.cell? _ ⟨gb, 4, none⟩ = some (.bool d.ro) := HS.out.g.cell 4
      have p0 : World.cell? _ ⟨pb, 0, none⟩ = some (.int .i64 0) := HS.out.p.cell 0
      have p1 : World.cell? _ ⟨pb, 1, none⟩ = some (.int .i64 1) := HS.out.p.cell 1
      have p2 : World.cell? _ ⟨pb, 2, none⟩ = some (.int .i64 (i : Int)) := HS.out.p.cell 2
      have p3 : World.cell? _ ⟨pb, 3, none⟩ = some (.int .i64 (-1)) := HS.out.p.cell 3
      have p4 : World.cell? _ ⟨pb, 4, none⟩ = some (.int .i64 (-1)) := HS.out.p.cell 4
      have s0 : decide (d.ln < 1) = false := by have := HO.out.ln; simp; omega
      have s1 : decide (256 < d.ln) = false := by have := HO.out.ln; simp; omega
      go_wp2_with fail
      refine (failno_any _ _ _ _ _ _ _).mono ?_
      rintro en xn ⟨rfl, hb⟩
      replace HS := hide (HS.out.next hb); clear hb
      clear g0 g1 g2 g3 g4 p0 p1 p2 p3 p4 s0 s1
      have g0 : World.cell? _ ⟨gb, 0, none⟩ = some (.string (Bs d.nm)) := HS.out.g.cell 0
      have g1 : World.cell? _ ⟨gb, 1, none⟩ = some (.int .i64 d.el) := HS.out.g.cell 1
      have g2 : World.cell? _ ⟨gb, 2, none⟩ = some (.int .i64 d.ln) := HS.out.g.cell 2
      have g3 : World.cell? _ ⟨gb, 3, none⟩ = some (.slice d.IA d.il.length d.ic) := HS.out.g.cell 3
      have g4 : World.cell? _ ⟨gb, 4, none⟩ = some (.bool d.ro) := HS.out.g.cell 4
      have p0 : World.cell? _ ⟨pb, 0, none⟩ = some (.int .i64 0) := HS.out.p.cell 0
      have p1 : World.cell? _ ⟨pb, 1, none⟩ = some (.int .i64 1) := HS.out.p.cell 1
      have p2 : World.cell? _ ⟨pb, 2, none⟩ = some (.int .i64 (i : Int)) := HS.out.p.cell 2
      have p3 : World.cell? _ ⟨pb, 3, none⟩ = some (.int .i64 (-1)) := HS.out.p.cell 3
      have p4 : World.cell? _ ⟨pb, 4, none⟩ = some (.int .i64 (-1)) := HS.out.p.cell 4
      have s0 : decide (d.ln < (d.il.length : Int)) = false := by have := HO.out.il; simp; omega
      go_wp2_with fail
      refine (failno_any _ _ _ _ _ _ _).mono ?_
      rintro en xn ⟨rfl, hb⟩
      replace HS := hide (HS.out.next hb); clear hb
      clear g0 g1 g2 g3 g4 p0 p1 p2 p3 p4 s0
      have g0 : World.cell? _ ⟨gb, 0, none⟩ = some (.string (Bs d.nm)) := HS.out.g.cell 0
      have g1 : World.cell? _ ⟨gb, 1, none⟩ = some (.int .i64 d.el) := HS.out.g.cell 1
      have g2 : World.cell? _ ⟨gb, 2, none⟩ = some (.int .i64 d.ln) := HS.out.g.cell 2
      have g3 : World.cell? _ ⟨gb, 3, none⟩ = some (.slice d.IA d.il.length d.ic) := HS.out.g.cell 3
      have g4 : World.cell? _ ⟨gb, 4, none⟩ = some (.bool d.ro) := HS.out.g.cell 4
      have p0 : World.cell? _ ⟨pb, 0, none⟩ = some (.int .i64 0) := HS.out.p.cell 0
      have p1 : World.cell? _ ⟨pb, 1, none⟩ = some (.int .i64 1) := HS.out.p.cell 1
      have p2 : World.cell? _ ⟨pb, 2, none⟩ = some (.int .i64 (i : Int)) := HS.out.p.cell 2
      have p3 : World.cell? _ ⟨pb, 3, none⟩ = some (.int .i64 (-1)) := HS.out.p.cell 3
      have p4 : World.cell? _ ⟨pb, 4, none⟩ = some (.int .i64 (-1)) := HS.out.p.cell 4
      cases s0 : (d.el == 5) with
      | true =>
        have hil := HO.out.ptr (by simpa using s0)
        have s1 : decide ((0 : Int) < (d.il.length : Int)) = false := by rw [hil]; rfl
        have s2 : decide (0 < d.il.length) = false := by rw [hil]; rfl
        clear hil
        go_wp2_with fail
        refine (failno_any _ _ _ _ _ _ _).mono ?_
        rintro en xn ⟨rfl, hb⟩
        replace HS := hide (HS.out.next hb); clear hb
        clear g0 g1 g2 g3 g4 p0 p1 p2 p3 p4 s0 s1 s2
        have g3 : World.cell? _ ⟨gb, 3, none⟩ = some (.slice d.IA d.il.length d.ic) := HS.out.g.cell 3
        go_upto_region 12 with fail
        go_wp2_with fail
        go_loopw [73] (fun v W => ∃ j : Nat, v = .int .i64 (j : Int) ∧ j ≤ d.il.length ∧ GlS w W m gb pb d i (seenL gs (i + 1))) (fun v _ => d.il.length - (intOf v).toNat)
        case atStart => exact ⟨0, rfl, by omega, HS.out⟩
        case round =>
          obtain ⟨j, rfl, hj, hS⟩ := hrel
          replace HS := hide hS
          clear hS
          rcases Nat.lt_or_ge j d.il.length with hlt | hge
          · obtain ⟨z, hz⟩ : ∃ z, d.il[j]? = some z := ⟨_, List.getElem?_eq_getElem hlt⟩
            obtain ⟨zb, zo, hZ, hzc⟩ := rd_at HS.out.rd (by omega)
            have hcz := hzc j z hz
            have HIN : Hid (∀ W, Tab W → Calls Tryd.prog 71 #[.int .i64 z, .int .i64 d.el] W fun e w' => e = .returned (.bool true) ∧ Below W.heap.size W w') := hide (fun W hT => by
              have h1 := isint14_any z d.el W hT
              rw [HO.out.fits z (List.mem_of_getElem? hz)] at h1; simpa using h1)
            have r0 : (0 : Int) ≤ (j : Int) := by omega
            have r1 : (j : Int) < (d.il.length : Int) := by omega
            have HLJ := hide hlt
            clear hz hzc hlt
            rw [hZ]
            go_upto_region 15 with fail
            clear hcz r0 r1
            replace HS := hide (HS.out.next ((Below.refl _ _).drew))
            go_region_held3 (fun w' => w'.cell? ⟨gb, 0, none⟩ = some (.string (Bs d.nm)) ∧ w'.cell? ⟨gb, 1, none⟩ = some (.int .i64 d.el) ∧ w'.cell? ⟨gb, 2, none⟩ = some (.int .i64 d.ln) ∧ w'.cell? ⟨gb, 3, none⟩ = some (.slice d.IA d.il.length d.ic) ∧ w'.cell? ⟨gb, 4, none⟩ = some (.bool d.ro) ∧ w'.cell? ⟨pb, 0, none⟩ = some (.int .i64 0) ∧ w'.cell? ⟨pb, 1, none⟩ = some (.int .i64 1) ∧ w'.cell? ⟨pb, 2, none⟩ = some (.int .i64 (i : Int)) ∧ w'.cell? ⟨pb, 3, none⟩ = some (.int .i64 (-1)) ∧ w'.cell? ⟨pb, 4, none⟩ = some (.int .i64 (-1))) (exact ⟨HS.out.g.cell 0, HS.out.g.cell 1, HS.out.g.cell 2, HS.out.g.cell 3, HS.out.g.cell 4, HS.out.p.cell 0, HS.out.p.cell 1, HS.out.p.cell 2, HS.out.p.cell 3, HS.out.p.cell 4⟩) (first | (go_at_call 71; refine (HIN.out _ HS.out.tab).mono ?_; rintro en xn ⟨rfl, hb⟩; replace HS := hide (HS.out.next hb); clear hb) | (go_at_call 67; refine (failno_any _ _ _ _ _ _ _).mono ?_; rintro en xn ⟨rfl, hb⟩; replace HS := hide (HS.out.next hb); clear hb))
            have r2 : (0 : Int) ≤ (j : Int) := by omega
            have r3 : (j : Int) < 256 := by have := HLJ.out; have := HO.out.il; have := HO.out.ln; omega
            go_wp2_with fail
            go_roundw
            case rel => have := HLJ.out; have := HO.out.il; have := HO.out.ln; exact ⟨j + 1, by go_num, by omega, HS.out⟩
            case measure => have := HLJ.out; have := HO.out.il; have := HO.out.ln; simp [intOf]; omega
          · obtain rfl : j = d.il.length := by omega
            go_wp2_with fail
            go_roundw
            case rel => have := HLT.out; exact ⟨i + 1, by go_num, by omega, HS.out.b, HS.out.seen⟩
            case measure => have := HLT.out; simp [intOf]; omega
      | false =>
        go_wp2_with fail
        refine (failno_any _ _ _ _ _ _ _).mono ?_
        rintro en xn ⟨rfl, hb⟩
        replace HS := hide (HS.out.next hb); clear hb
        clear g0 g1 g2 g3 g4 p0 p1 p2 p3 p4 s0
        have g3 : World.cell? _ ⟨gb, 3, none⟩ = some (.slice d.IA d.il.length d.ic) := HS.out.g.cell 3
        go_upto_region 12 with fail
        go_wp2_with fail
        go_loopw [73] (fun v W => ∃ j : Nat, v = .int .i64 (j : Int) ∧ j ≤ d.il.length ∧ GlS w W m gb pb d i (seenL gs (i + 1))) (fun v _ => d.il.length - (intOf v).toNat)
        case atStart => exact ⟨0, rfl, by omega, HS.out⟩
        case round =>
          obtain ⟨j, rfl, hj, hS⟩ := hrel
          replace HS := hide hS
          clear hS
          rcases Nat.lt_or_ge j d.il.length with hlt | hge
          · obtain ⟨z, hz⟩ : ∃ z, d.il[j]? = some z := ⟨_, List.getElem?_eq_getElem hlt⟩
            obtain ⟨zb, zo, hZ, hzc⟩ := rd_at HS.out.rd (by omega)
            have hcz := hzc j z hz
            have HIN : Hid (∀ W, Tab W → Calls Tryd.prog 71 #[.int .i64 z, .int .i64 d.el] W fun e w' => e = .returned (.bool true) ∧ Below W.heap.size W w') := hide (fun W hT => by
              have h1 := isint14_any z d.el W hT
              rw [HO.out.fits z (List.mem_of_getElem? hz)] at h1; simpa using h1)
            have r0 : (0 : Int) ≤ (j : Int) := by omega
            have r1 : (j : Int) < (d.il.length : Int) := by omega
            have HLJ := hide hlt
            clear hz hzc hlt
            rw [hZ]
            go_upto_region 15 with fail
            clear hcz r0 r1
            replace HS := hide (HS.out.next ((Below.refl _ _).drew))
            go_region_held3 (fun w' => w'.cell? ⟨gb, 0, none⟩ = some (.string (Bs d.nm)) ∧ w'.cell? ⟨gb, 1, none⟩ = some (.int .i64 d.el) ∧ w'.cell? ⟨gb, 2, none⟩ = some (.int .i64 d.ln) ∧ w'.cell? ⟨gb, 3, none⟩ = some (.slice d.IA d.il.length d.ic) ∧ w'.cell? ⟨gb, 4, none⟩ = some (.bool d.ro) ∧ w'.cell? ⟨pb, 0, none⟩ = some (.int .i64 0) ∧ w'.cell? ⟨pb, 1, none⟩ = some (.int .i64 1) ∧ w'.cell? ⟨pb, 2, none⟩ = some (.int .i64 (i : Int)) ∧ w'.cell? ⟨pb, 3, none⟩ = some (.int .i64 (-1)) ∧ w'.cell? ⟨pb, 4, none⟩ = some (.int .i64 (-1))) (exact ⟨HS.out.g.cell 0, HS.out.g.cell 1, HS.out.g.cell 2, HS.out.g.cell 3, HS.out.g.cell 4, HS.out.p.cell 0, HS.out.p.cell 1, HS.out.p.cell 2, HS.out.p.cell 3, HS.out.p.cell 4⟩) (first | (go_at_call 71; refine (HIN.out _ HS.out.tab).mono ?_; rintro en xn ⟨rfl, hb⟩; replace HS := hide (HS.out.next hb); clear hb) | (go_at_call 67; refine (failno_any _ _ _ _ _ _ _).mono ?_; rintro en xn ⟨rfl, hb⟩; replace HS := hide (HS.out.next hb); clear hb))
            have r2 : (0 : Int) ≤ (j : Int) := by omega
            have r3 : (j : Int) < 256 := by have := HLJ.out; have := HO.out.il; have := HO.out.ln; omega
            go_wp2_with fail
            go_roundw
            case rel => have := HLJ.out; have := HO.out.il; have := HO.out.ln; exact ⟨j + 1, by go_num, by omega, HS.out⟩
            case measure => have := HLJ.out; have := HO.out.il; have := HO.out.ln; simp [intOf]; omega
          · obtain rfl : j = d.il.length := by omega
            go_wp2_with fail
            go_roundw
            case rel => have := HLT.out; exact ⟨i + 1, by go_num, by omega, HS.out.b, HS.out.seen⟩
            case measure => have := HLT.out; simp [intOf]; omega
    · obtain rfl : i = gs.length := by omega
      go_wp2_with fail
      first
        | (go_end0; exact ⟨rfl, hbW⟩)
        | (go_ret; exact ⟨rfl, hbW⟩)
end Go.Proofs.YtjphechnadoblaaDoor

/-
  Layer 20 (cfg): collect.
-/
import Derived.Test.YthnehmfdadgklaaCfT
import Derived.Deep.RegionHeld3
namespace Go.Proofs.Ythnehmfdadgklaa
open Go.RowKit Go.Deep

/-- What a function value is that tells the registers of positions. -/
structure FnM (P : Program) (w : World) (B : Nat) (f : FuncId) (caps : Array Value) (M : Int → Int → List Int) : Prop where
  enter : ∀ (xs : Array Value) (W : World), (callFunc f xs).run P W = .ok (.enter f xs) W
  call : ∀ W, Below B w W → ∀ a b, Calls P f (#[.agg #[.int .i64 a, .int .i64 b]] ++ caps) W (fun e W' => ∃ v, e = .returned v ∧ Rd W' .i64 v (M a b) ∧ Fresh v W.heap.size ∧ Below W.heap.size W W')
  le : B ≤ w.heap.size
theorem posC_all (p : Int × Int) : (posC p).toArray.all (·.oneCell') = true := all_oneCell_toArray (fun v hv => List.all_eq_true.1 (show (posC p).all (·.oneCell') = true by rfl) v hv)
theorem rdn_pos (w : World) (p : Int × Int) : RdN (w.alloc (.cells (posC p).toArray 37)).drew 2 (.slice (some ⟨w.heap.size, 0, none⟩) 1 1) [posC p] := rdn_whole (Whole.new w _ _) rfl
theorem posListI : (Try.prog.info? 64).map (fun i => (i.zero, i.size, i.bytes)) = some (some (.slice none 0 0), 1, 24) := by kernel_rfl
/-- The rows lie neither in block x nor where the slice's cells are. -/
def Clear (R : List Value) (x : Nat) (A : Option Addr) (n : Nat) : Prop := ∀ (i : Nat) (u : Value) (g : Nat), R[i]? = some u → u.ownBlock = some g → g ≠ x ∧ g ∉ slB A n
set_option maxRecDepth 100000 in
set_option maxHeartbeats 8000000 in
theorem collect_any (d : FnD) (w : World) (B : Nat) (f : FuncId) (caps : Array Value) (M : Int → Int → List Int) (hd : d.ok w) (hs : d.small) (hr : d.regs.length ≤ 131072) (hF : FnM Try.prog w B f caps M) :
    Calls Try.prog 33 #[.agg d.cells.toArray, .func (.func f) #[] caps] w fun e w' => ∃ D R, e = .returned (.slice (some ⟨D, 0, none⟩) d.regs.length d.regs.length) ∧ OwnP w' w.heap.size D R (colL d M d.blocks.length 0) ∧ Below w.heap.size w w' := by
  obtain ⟨A, hA⟩ : ∃ A, d.blocksA = A := ⟨_, rfl⟩
  have HBl : Hid (RdN w 7 (.slice A d.blocks.length d.blocksc) (d.blocks.map BkD.cells)) := hide (by rw [← hA]; exact hd.blocks)
  have hcap : d.blocksc ≤ 9223372036854775807 := by have h := hd.blocks.room.2; unfold maxLen at h; omega
  have hbl : d.blocks.length ≤ 1000000 := hs.1
  have HX := hide hd
  have HS := hide hs
  have HF := hide hF
  obtain ⟨q, hq⟩ : ∃ q, w.heap.size = q := ⟨_, rfl⟩
  obtain ⟨w1, hw1⟩ : ∃ z, w.alloc (.cells d.cells.toArray 27) = z := ⟨_, rfl⟩
  have HB : Hid (Below w.heap.size w w1) := hide (by rw [← hw1]; exact (Below.refl _ _).alloc (Nat.le_refl _) _)
  have HA : Hid (Whole w1 q 27 d.cells.toArray) := hide (by rw [← hw1, ← hq]; exact Whole.new w _ _)
  have hqs : Hid (q + 1 = w1.heap.size) := hide (by rw [← hw1, ← hq]; simp)
  have hQ : Hid (w.heap.size = q) := hide hq
  have hi7 : (Try.prog.info? 54).map (·.size) = some 7 := by kernel_rfl
  have hiP : (Try.prog.info? 37).map (·.size) = some 2 := by kernel_rfl
  have HU7 := hide Try.underlying54
  have HI7 := hide hi7
  have HUP := hide Try.underlying37
  have HIP := hide hiP
  have c3 : w1.cell? ⟨q, 3, none⟩ = some (.slice d.regsA d.regs.length d.regsc) := HA.out.cell 3
  have c4 : w1.cell? ⟨q, 4, none⟩ = some (.slice A d.blocks.length d.blocksc) := by rw [← hA]; exact HA.out.cell 4
  have hmk := run_made w1 38 64 (.slice none 0 0) 24 Try.underlying38 posListI rfl (by omega) d.regs.length hr
  clear hd hs hF hi7 hiP hA
  go_enter Try.func33, Try.ntmps33
  go_upto_region 1 with fail
  clear hw1 hq
  go_upto_region 2 with fail
  clear hmk c3
  obtain ⟨D, hD⟩ : ∃ D, w1.heap.size = D := ⟨_, rfl⟩
  rw [hD]
  obtain ⟨w2, hw2⟩ : ∃ z, w1.alloc (.cells (madeCells #[.slice none 0 0] d.regs.length) 64) = z := ⟨_, rfl⟩
  have HL : Hid (OwnP w2 D D (List.replicate d.regs.length (.slice none 0 0)) (colL d M 0 0)) := hide (by
    rw [← hw2, ← hD]
    have h1 := OwnP.made w1 w1.heap.size d.regs.length (by unfold maxLen; omega) (Nat.le_refl _)
    have e1 : colL d M 0 0 = List.replicate d.regs.length [] := by simp [colL, posTo, blkPos]
    rw [e1]
    exact h1)
  have HB2 : Hid (Below D w1 w2) := hide (by rw [← hw2, ← hD]; exact (Below.refl _ _).alloc (Nat.le_refl _) _)
  have HD := hide hD
  have c4' : w2.cell? ⟨q, 4, none⟩ = some (.slice A d.blocks.length d.blocksc) := (HB2.out.cell (p := ⟨q, 4, none⟩) (by show q < D; have := hqs.out; omega)).trans c4
  rw [hw2]
  clear hw2 hD c4
  go_wp2_with fail
  clear c4'
  go_loopw [19] (fun z wr => ∃ (a : Nat) (R : List Value), a ≤ d.blocks.length ∧ z = .int .i64 a ∧ Hid (R.length = d.regs.length) ∧ Hid (OwnP wr D D R (colL d M a 0)) ∧ Hid (Below D w1 wr)) (fun z _ => d.blocks.length - (intOf z).toNat)
  case atStart => exact ⟨0, _, Nat.zero_le _, rfl, hide (by simp), HL, HB2⟩
  case round =>
    clear HL HB2
    obtain ⟨wq, rfl⟩ : ∃ x, x = wr := ⟨_, rfl⟩
    obtain ⟨a, R, ha, rfl, hR, hL, hb⟩ := hrel
    by_cases hlt : a < d.blocks.length
    · obtain ⟨b, hb0⟩ : ∃ b, d.blocks[a]? = some b := ⟨_, List.getElem?_eq_getElem hlt⟩
      have hbw : Below w.heap.size w wq := HB.out.trans (hb.out.mono (by have := HD.out; have := HB.out.size; omega))
      obtain ⟨bb, off, rfl, hlb, hrow⟩ := (HBl.out.below' hbw).row (i := a) (r := b.cells) (by rw [List.getElem?_map, hb0]; rfl)
      have HRow : Hid (wq.rangeAt bb (off + a * 7) b.cells) := hide hrow
      have HB0 := hide hb0
      have hil : b.ins.length ≤ 1000000 := (HS.out.2 b (List.mem_of_getElem? hb0)).1
      clear hb0 hbw hrow hlb
      go_upto_region 4 with fail
      refine wp_region_lit ?_
      go_step; go_step; go_step
      go_step; go_step; go_step
      refine wpList_load_mid (by rfl) _ _ rfl bb (off + a * 7) (by rfl) b.cells _ HRow.out HU7.out rfl HI7.out ?_
      go_step; go_step; go_step
      go_step; go_step; go_step
      refine wpList_store_new (by rfl) _ _ _ rfl _ _ b.cells (by rfl) (by rfl) (by rfl) HI7.out BkD.all1' ?_
      obtain ⟨bv, hbv⟩ : ∃ bv, wq.heap.size = bv := ⟨_, rfl⟩
      have hbvl : Hid (D < bv) := hide (by rw [← hbv]; exact hL.out.lt.2)
      rw [hbv]
      obtain ⟨w3, hw3⟩ : ∃ z, wq.alloc (.cells b.cells.toArray 54) = z := ⟨_, rfl⟩
      have b13 : Below wq.heap.size wq w3 := by rw [← hw3]; exact (Below.refl _ _).alloc (Nat.le_refl _) _
      have HV : Hid (Whole w3 bv 54 b.cells.toArray) := hide (by rw [← hw3, ← hbv]; exact Whole.new wq _ _)
      replace hL := hide (hL.out.next b13)
      replace hb := hide (hb.out.trans (b13.mono (by have := hb.out.size; have := HD.out; omega)))
      rw [hw3]
      clear hw3 b13 HRow hbv
      go_wp2_with fail
      go_loopw [8] (fun z wr => ∃ (cnt : Nat) (R : List Value), cnt ≤ b.ins.length + 2 ∧ z = .int .i64 ((cnt : Int) - 1) ∧ Hid (R.length = d.regs.length) ∧ Hid (OwnP wr D D R (colL d M a cnt)) ∧ Hid (Whole wr bv 54 b.cells.toArray) ∧ Hid (Below D w1 wr)) (fun z _ => b.ins.length + 2 - (intOf z + 1).toNat)
      case atStart => exact ⟨0, R, by omega, rfl, hR, hL, HV, hb⟩
      case round =>
        clear HV hL hb hR
        obtain ⟨wp, rfl⟩ : ∃ x, x = wr := ⟨_, rfl⟩
        obtain ⟨cnt, R, hc, rfl, hR, hL, hV, hb⟩ := hrel
        have v1 : wp.cell? ⟨bv, 1, none⟩ = some (.slice b.insA b.ins.length b.insc) := hV.out.cell 1
        by_cases hlt2 : cnt < b.ins.length + 2
        · have hle : decide ((cnt : Int) - 1 ≤ (b.ins.length : Int)) = true := by simp; omega
          have hle' : (cnt : Int) ≤ (b.ins.length : Int) + 1 := by omega
          go_upto_region 8 with fail
          refine wp_region_lit ?_
          go_step; go_step; go_step
          go_step; go_step; go_step
          refine wpList_build_g (by rfl) _ _ rfl (posC ((a : Int), (cnt : Int) - 1)) (by kernel_rfl) ?_
          go_step; go_step; go_step
          refine wpList_store_new (by rfl) _ _ _ rfl _ _ (posC ((a : Int), (cnt : Int) - 1)) (by rfl) (by rfl) (by rfl) HIP.out (posC_all _) ?_
          obtain ⟨av, hav⟩ : ∃ av, wp.heap.size = av := ⟨_, rfl⟩
          rw [hav]
          obtain ⟨w4, hw4⟩ : ∃ z, wp.alloc (.cells (posC ((a : Int), (cnt : Int) - 1)).toArray 37) = z := ⟨_, rfl⟩
          have b14 : Below wp.heap.size wp w4 := by rw [← hw4]; exact (Below.refl _ _).alloc (Nat.le_refl _) _
          have HAt0 : Hid (Whole w4 av 37 (posC ((a : Int), (cnt : Int) - 1)).toArray) := hide (by rw [← hw4, ← hav]; exact Whole.new wp _ _)
          have hcl0 : Hid (∀ (i : Nat) (u : Value) (g : Nat), R[i]? = some u → u.ownBlock = some g → g < av) := hide (fun i u g hu hg => by
            obtain ⟨l, hl⟩ : ∃ l, (colL d M a cnt)[i]? = some l := ⟨_, List.getElem?_eq_getElem (by rw [colL_len, ← hR.out]; exact (List.getElem?_eq_some_iff.1 hu).1)⟩
            rw [← hav]
            exact ((hL.out.row i u l hu hl).lt g hg).2)
          have hDav : Hid (D < av) := hide (by rw [← hav]; exact hL.out.lt.2)
          have hlen4 : Hid (av < w4.heap.size) := hide (by rw [← hw4, ← hav, World.size_alloc]; exact Nat.lt_succ_self _)
          replace hL := hide (hL.out.next b14)
          replace hV := hide (hV.out.below' b14)
          replace hb := hide (hb.out.trans (b14.mono (by have := hb.out.size; have := HD.out; omega)))
          rw [hw4]
          clear hw4 b14 hav v1 hle
          go_upto_region 9 with fail
          refine wp_region_lit ?_
          go_step; go_step; go_step
          refine wpList_load_mid (by rfl) _ _ rfl av 0 (by rfl) (posC ((a : Int), (cnt : Int) - 1)) _ HAt0.out.range HUP.out rfl HIP.out ?_
          have hcf := HF.out.enter
          go_step; go_step
          clear hcf
          refine (HF.out.call _ ((HB.out.mono HF.out.le).trans (hb.out.mono (by have := HB.out.size; have := HD.out; have := HF.out.le; omega))) (a : Int) ((cnt : Int) - 1)).mono ?_
          rintro en w5 ⟨v, rfl, hrv, hfv, hb5⟩
          obtain ⟨VA, vc, hvv, hvc, hvm, -⟩ := id hrv
          subst hvv
          have hvc9 : vc ≤ 9223372036854775807 := by unfold maxLen at hvm; omega
          have HRr := hide hrv
          have hclr : Hid (Clear R av VA (M a ((cnt : Int) - 1)).length) := hide (fun i u g hu hg => by
            have h1 := hcl0.out i u g hu hg
            refine ⟨by omega, fun hm => ?_⟩
            have := hfv _ _ _ rfl g hm
            have := hlen4.out
            omega)
          have hvlt : Hid (∀ g ∈ slB VA (M a ((cnt : Int) - 1)).length, g < w5.heap.size) := hide (fun g hg => by
            obtain ⟨_, _, e1, _, _, h3⟩ := HRr.out
            injection e1 with e1 _ _
            subst e1
            cases VA with
            | none => cases hg
            | some x =>
              simp only [slB] at hg
              split at hg
              · cases hg
              · rename_i hne
                obtain ⟨b9, o9, e9, h9, _⟩ := h3 (by omega)
                injection e9 with e9
                rw [List.mem_singleton.1 hg, e9]
                exact h9)
          have havl : Hid (av < w5.heap.size) := hide (Nat.lt_of_lt_of_le hlen4.out hb5.size)
          have hvD : Hid (∀ g ∈ slB VA (M a ((cnt : Int) - 1)).length, D < g) := hide (fun g hm => by have := hfv _ _ _ rfl g hm; have := hlen4.out; have := hDav.out; omega)
          replace hL := hide (hL.out.next hb5)
          replace hV := hide (hV.out.below' hb5)
          have HAt1 := hide (HAt0.out.below' hb5)
          replace hb := hide (hb.out.trans (hb5.mono (by have := hb.out.size; have := HD.out; omega)))
          clear hrv hfv hb5 HAt0 hcl0 hvc hvm
          simp only []
          have hml : (M a ((cnt : Int) - 1)).length ≤ 9223372036854775807 := by have h := HRr.out.len; unfold maxLen at h; omega
          obtain ⟨rs, hrs⟩ : ∃ rs, M a ((cnt : Int) - 1) = rs := ⟨_, rfl⟩
          rw [hrs] at HRr hclr hvlt hvD hml ⊢
          have HRS := hide hrs
          clear hrs
          go_wp2_with fail
          go_loopw [38] (fun z wr => ∃ (j : Nat) (R : List Value), j ≤ rs.length ∧ z = .int .i64 j ∧ Hid (R.length = d.regs.length) ∧ Hid (OwnP wr D D R (colIn d M a cnt j)) ∧ Hid (Whole wr bv 54 b.cells.toArray) ∧ Hid (Whole wr av 37 (posC ((a : Int), (cnt : Int) - 1)).toArray) ∧ Hid (Clear R av VA rs.length) ∧ Hid (Rd wr .i64 (.slice VA rs.length vc) rs) ∧ Hid (w5.heap.size ≤ wr.heap.size) ∧ Hid (Below D w1 wr)) (fun z _ => rs.length - (intOf z).toNat)
          case atStart => exact ⟨0, R, Nat.zero_le _, rfl, hR, hL, hV, HAt1, hclr, HRr, hide (Nat.le_refl _), hb⟩
          case round =>
            clear hR hL hV HAt1 hclr HRr hb
            obtain ⟨wx, rfl⟩ : ∃ x, x = wr := ⟨_, rfl⟩
            obtain ⟨j, R, hj, rfl, hR, HO, HBv, HAt, hclr, HRr, hsz, hb2⟩ := hrel
            by_cases hlt3 : j < rs.length
            · obtain ⟨r0, hr0⟩ : ∃ r, rs[j]? = some r := ⟨_, List.getElem?_eq_getElem hlt3⟩
              obtain ⟨b8, o8, e8, hb8, hc8⟩ := HRr.out.toV.at j (.int .i64 r0) (by rw [List.getElem?_map, hr0]; rfl)
              subst e8
              have hnx := colIn_next d M a cnt j (r := r0) (by rw [HRS.out]; exact hr0)
              have HNX0 := hide hnx
              clear hr0 hnx hb8
              by_cases hin : 0 ≤ r0 ∧ r0 < (d.regs.length : Int)
              · obtain ⟨r, hrr⟩ : ∃ r : Nat, r0 = r := ⟨r0.toNat, by omega⟩
                subst hrr
                have hrl : r < d.regs.length := by omega
                have gi : decide (0 ≤ (r : Int) ∧ (r : Int) < (d.regs.length : Int)) = true := by simp; omega
                obtain ⟨v0, hv0⟩ : ∃ v, R[r]? = some v := ⟨_, List.getElem?_eq_getElem (by rw [hR.out]; exact hrl)⟩
                obtain ⟨l0, hl0⟩ : ∃ l, (colIn d M a cnt j)[r]? = some l := ⟨_, List.getElem?_eq_getElem (by rw [colIn_len]; exact hrl)⟩
                obtain ⟨_, A0, c0, e0, hc0, hm0, -⟩ := (HO.out.row r v0 l0 hv0 hl0).rd
                rw [List.length_map] at e0 hc0
                subst e0
                have hc09 : c0 ≤ 9223372036854775807 := by unfold maxLen at hm0; omega
                have hl00 : l0.length ≤ 2000000000000 := colIn_bound M HS.out (by omega) (by omega) l0 (List.mem_of_getElem? hl0)
                have Hv0 := hide hv0
                have Hl0 := hide hl0
                have HL00 := hide hl00
                clear hin hv0 hl0 hm0 hl00
                cases ge : endsB l0 ((a : Int), (cnt : Int) - 1) with
                | true =>
                  have HNX : Hid (colIn d M a cnt (j + 1) = colIn d M a cnt j) := hide (by rw [HNX0.out]; exact addAt_old Hl0.out ge)
                  go_upto_region 12 with fail
                  refine wp_region_held_drew (S := (fun w' => w'.cell? ⟨D, r, none⟩ = some (.slice A0 l0.length c0) ∧ w'.cell? ⟨av, 0, none⟩ = some (.int .i64 (a : Int)) ∧ w'.cell? ⟨av, 1, none⟩ = some (.int .i64 ((cnt : Int) - 1)))) (by kernel_rfl) ?_ (fun hHeld => ?_)
                  · exact ⟨HO.out.own.cellAt Hv0.out, HAt.out.cell 0, HAt.out.cell 1⟩
                  refine wpAnyH_take (i := 0) (oi := { dst := some 42, op := Op.move (Operand.tmp 11), type := 3, pos := "cfg.go:70", after := #[], guard := none }) (v := ?v1x0) rfl (by kernel_rfl) (by kernel_rfl) (by kernel_rfl) (fun _ _ _ h => h) (Or.inl ⟨by rfl, ?hy1x0⟩) (by assumption) ?rest1x0
                  case hy1x0 => (intro w hSw; (try dsimp only at hSw); (first | (go_simp; done) | (go_simp; with_reducible rfl)))
                  (try simp only [Act.put, List.setIfInBounds_toArray, List.set_cons_zero, List.set_cons_succ])
                  refine wpAnyH_take (i := 1) (oi := { dst := some 43, op := Op.move (Operand.tmp 5), type := 38, pos := "cfg.go:70", after := #[], guard := none }) (v := ?v1x1) rfl (by kernel_rfl) (by kernel_rfl) (by kernel_rfl) (fun _ _ _ h => h) (Or.inl ⟨by rfl, ?hy1x1⟩) (by assumption) ?rest1x1
                  case hy1x1 => (intro w hSw; (try dsimp only at hSw); (first | (go_simp; done) | (go_simp; with_reducible rfl)))
                  (try simp only [Act.put, List.setIfInBounds_toArray, List.set_cons_zero, List.set_cons_succ])
                  refine wpAnyH_take (i := 2) (oi := { dst := some 44, op := Op.call { callee := Callee.builtin Builtin.len, args := #[Operand.tmp 43], argTypes := #[38] }, type := 3, pos := "cfg.go:70", after := #[{ on := 1, ground := Ground.data }], guard := none }) (v := ?v1x2) rfl (by kernel_rfl) (by kernel_rfl) (by kernel_rfl) (fun _ _ _ h => h) (Or.inl ⟨by rfl, ?hy1x2⟩) (by assumption) ?rest1x2
                  case hy1x2 => (intro w hSw; (try dsimp only at hSw); (first | (go_simp; done) | (go_simp; with_reducible rfl)))
                  (try simp only [Act.put, List.setIfInBounds_toArray, List.set_cons_zero, List.set_cons_succ])
                  refine wpAnyH_ready (rs := [3]) (by kernel_rfl) (by simp) ?_
                  refine AllReadyH.cons (o := { dst := some 45, op := Op.call { callee := Callee.value (Operand.func 40), args := #[Operand.tmp 42, Operand.tmp 44], argTypes := #[3, 3] }, type := 4, pos := "cfg.go:70", after := #[{ on := 0, ground := Ground.data }, { on := 2, ground := Ground.data }], guard := none }) rfl (fun K hK => ?_) AllReadyH.nil
                  go_simp
                  go_at_call 40; refine (isindex_any _ _ _).mono ?_; rintro en wn1 ⟨rfl, hb3⟩; rw [gi]; replace hb3 : Below wx.heap.size wx wn1 := ⟨hb3.os, hb3.tape, hb3.output, hb3.size, hb3.block⟩; replace hsz := hide (Nat.le_trans hsz.out hb3.size); replace HAt := hide (HAt.out.below' hb3); replace HBv := hide (HBv.out.below' hb3); replace HO := hide (HO.out.next hb3); replace HRr := hide (HRr.out.below' hb3); replace hb2 := hide (hb2.out.trans (hb3.mono (by have := hb2.out.size; have := HD.out; omega))); clear hb3
                  (try go_wp2_with fail)
                  refine hK.out _ _ ?_ (fun hHeld => ?_)
                  · exact ⟨HO.out.own.cellAt Hv0.out, HAt.out.cell 0, HAt.out.cell 1⟩
                  clear hK K
                  (try simp only [Act.put, List.setIfInBounds_toArray, List.set_cons_zero, List.set_cons_succ])
                  refine wpAnyH_take (i := 4) (oi := { dst := some 46, op := Op.move (Operand.tmp 45), type := 4, pos := "cfg.go:70", after := #[{ on := 3, ground := Ground.data }, { on := 3, ground := Ground.chain }], guard := none }) (v := ?v1x4) rfl (by kernel_rfl) (by kernel_rfl) (by kernel_rfl) (fun _ _ _ h => h) (Or.inl ⟨by rfl, ?hy1x4⟩) (by assumption) ?rest1x4
                  case hy1x4 => (intro w hSw; (try dsimp only at hSw); (first | (go_simp; done) | (go_simp; with_reducible rfl)))
                  (try simp only [Act.put, List.setIfInBounds_toArray, List.set_cons_zero, List.set_cons_succ])
                  refine wpAnyH_take (i := 5) (oi := { dst := some 47, op := Op.move (Operand.tmp 5), type := 38, pos := "cfg.go:70", after := #[{ on := 4, ground := Ground.guard }], guard := some (4, true) }) (v := ?v1x5) rfl (by kernel_rfl) (by kernel_rfl) (by kernel_rfl) (fun _ _ _ h => h) (Or.inl ⟨by rfl, ?hy1x5⟩) (by assumption) ?rest1x5
                  case hy1x5 => (intro w hSw; (try dsimp only at hSw); (first | (go_simp; done) | (go_simp; with_reducible rfl)))
                  (try simp only [Act.put, List.setIfInBounds_toArray, List.set_cons_zero, List.set_cons_succ])
                  refine wpAnyH_take (i := 6) (oi := { dst := some 48, op := Op.move (Operand.tmp 11), type := 3, pos := "cfg.go:70", after := #[{ on := 4, ground := Ground.guard }], guard := some (4, true) }) (v := ?v1x6) rfl (by kernel_rfl) (by kernel_rfl) (by kernel_rfl) (fun _ _ _ h => h) (Or.inl ⟨by rfl, ?hy1x6⟩) (by assumption) ?rest1x6
                  case hy1x6 => (intro w hSw; (try dsimp only at hSw); (first | (go_simp; done) | (go_simp; with_reducible rfl)))
                  (try simp only [Act.put, List.setIfInBounds_toArray, List.set_cons_zero, List.set_cons_succ])
                  refine wpAnyH_take (i := 7) (oi := { dst := some 49, op := Op.indexAddr 38 (Operand.tmp 47) (Operand.tmp 48), type := 0, pos := "cfg.go:70", after := #[{ on := 5, ground := Ground.data }, { on := 6, ground := Ground.data }, { on := 4, ground := Ground.guard }], guard := some (4, true) }) (v := ?v1x7) rfl (by kernel_rfl) (by kernel_rfl) (by kernel_rfl) (fun _ _ _ h => h) (Or.inl ⟨by rfl, ?hy1x7⟩) (by assumption) ?rest1x7
                  case hy1x7 => (intro w hSw; (try dsimp only at hSw); (first | (go_simp; done) | (go_simp; with_reducible rfl)))
                  (try simp only [Act.put, List.setIfInBounds_toArray, List.set_cons_zero, List.set_cons_succ])
                  refine wpAnyH_take (i := 8) (oi := { dst := some 50, op := Op.load 64 (Operand.tmp 49), type := 64, pos := "cfg.go:70", after := #[{ on := 7, ground := Ground.data }, { on := 4, ground := Ground.guard }], guard := some (4, true) }) (v := ?v1x8) rfl (by kernel_rfl) (by kernel_rfl) (by kernel_rfl) (fun _ _ _ h => h) (Or.inl ⟨by rfl, ?hy1x8⟩) (by assumption) ?rest1x8
                  case hy1x8 => (intro w hSw; (try dsimp only at hSw); (first | (go_simp; done) | (go_simp; with_reducible rfl)))
                  (try simp only [Act.put, List.setIfInBounds_toArray, List.set_cons_zero, List.set_cons_succ])
                  refine wpAnyH_take (i := 9) (oi := { dst := some 51, op := Op.load 37 (Operand.tmp 9), type := 37, pos := "cfg.go:70", after := #[{ on := 4, ground := Ground.guard }], guard := some (4, true) }) (v := ?v1x9) rfl (by kernel_rfl) (by kernel_rfl) (by kernel_rfl) (fun _ _ _ h => h) (Or.inl ⟨by rfl, ?hy1x9⟩) (by assumption) ?rest1x9
                  case hy1x9 => (intro w hSw; (try dsimp only at hSw); (first | (go_simp; done) | (go_simp; with_reducible rfl)))
                  (try simp only [Act.put, List.setIfInBounds_toArray, List.set_cons_zero, List.set_cons_succ])
                  refine wpAnyH_ready (rs := [10]) (by kernel_rfl) (by simp) ?_
                  refine AllReadyH.cons (o := { dst := some 52, op := Op.call { callee := Callee.value (Operand.func 52), args := #[Operand.tmp 50, Operand.tmp 51], argTypes := #[64, 37] }, type := 4, pos := "cfg.go:70", after := #[{ on := 8, ground := Ground.data }, { on := 9, ground := Ground.data }, { on := 4, ground := Ground.chain }, { on := 4, ground := Ground.guard }], guard := some (4, true) }) rfl (fun K hK => ?_) AllReadyH.nil
                  go_simp
                  go_at_call 52; refine (ends_any _ l0 _ _ _ (HO.out.row r _ l0 Hv0.out Hl0.out).rd).mono ?_; rintro en wn2 ⟨rfl, hb3⟩; rw [ge]; replace hsz := hide (Nat.le_trans hsz.out hb3.size); replace HAt := hide (HAt.out.below' hb3); replace HBv := hide (HBv.out.below' hb3); replace HO := hide (HO.out.next hb3); replace HRr := hide (HRr.out.below' hb3); replace hb2 := hide (hb2.out.trans (hb3.mono (by have := hb2.out.size; have := HD.out; omega))); clear hb3
                  (try go_wp2_with fail)
                  refine hK.out _ _ ?_ (fun hHeld => ?_)
                  · exact ⟨HO.out.own.cellAt Hv0.out, HAt.out.cell 0, HAt.out.cell 1⟩
                  clear hK K
                  (try simp only [Act.put, List.setIfInBounds_toArray, List.set_cons_zero, List.set_cons_succ])
                  refine wpAnyH_take (i := 11) (oi := { dst := some 53, op := Op.unOp UnOp.not 4 (Operand.tmp 52), type := 4, pos := "cfg.go:70", after := #[{ on := 10, ground := Ground.data }, { on := 4, ground := Ground.guard }], guard := some (4, true) }) (v := ?v1x11) rfl (by kernel_rfl) (by kernel_rfl) (by kernel_rfl) (fun _ _ _ h => h) (Or.inl ⟨by rfl, ?hy1x11⟩) (by assumption) ?rest1x11
                  case hy1x11 => (intro w hSw; (try dsimp only at hSw); (first | (go_simp; done) | (go_simp; with_reducible rfl)))
                  (try simp only [Act.put, List.setIfInBounds_toArray, List.set_cons_zero, List.set_cons_succ])
                  refine wpAnyH_take (i := 12) (oi := { dst := some 54, op := Op.pick (Operand.tmp 46) (Operand.tmp 53) (Operand.const (Value.bool false)), type := 4, pos := "cfg.go:70", after := #[{ on := 4, ground := Ground.data }, { on := 11, ground := Ground.data }], guard := none }) (v := ?v1x12) rfl (by kernel_rfl) (by kernel_rfl) (by kernel_rfl) (fun _ _ _ h => h) (Or.inl ⟨by rfl, ?hy1x12⟩) (by assumption) ?rest1x12
                  case hy1x12 => (intro w hSw; (try dsimp only at hSw); (first | (go_simp; done) | (go_simp; with_reducible rfl)))
                  (try simp only [Act.put, List.setIfInBounds_toArray, List.set_cons_zero, List.set_cons_succ])
                  refine wpAnyH_done (by kernel_rfl) ?_ _
                  all_goals
                    go_wp2_with fail
                    go_roundw
                    case rel => exact ⟨j + 1, R, by omega, by go_num, hR, hide (by rw [HNX.out]; exact HO.out), HBv, HAt, hclr, HRr, hsz, hb2⟩
                    case measure => simp [intOf]; omega
                | false =>
                  have HNX : Hid (colIn d M a cnt (j + 1) = (colIn d M a cnt j).set r (l0 ++ [((a : Int), (cnt : Int) - 1)])) := hide (by rw [HNX0.out]; exact addAt_new Hl0.out ge)
                  go_upto_region 12 with fail
                  refine wp_region_held_drew (S := (fun w' => w'.cell? ⟨D, r, none⟩ = some (.slice A0 l0.length c0) ∧ w'.cell? ⟨av, 0, none⟩ = some (.int .i64 (a : Int)) ∧ w'.cell? ⟨av, 1, none⟩ = some (.int .i64 ((cnt : Int) - 1)))) (by kernel_rfl) ?_ (fun hHeld => ?_)
                  · exact ⟨HO.out.own.cellAt Hv0.out, HAt.out.cell 0, HAt.out.cell 1⟩
                  refine wpAnyH_take (i := 0) (oi := { dst := some 42, op := Op.move (Operand.tmp 11), type := 3, pos := "cfg.go:70", after := #[], guard := none }) (v := ?v2x0) rfl (by kernel_rfl) (by kernel_rfl) (by kernel_rfl) (fun _ _ _ h => h) (Or.inl ⟨by rfl, ?hy2x0⟩) (by assumption) ?rest2x0
                  case hy2x0 => (intro w hSw; (try dsimp only at hSw); (first | (go_simp; done) | (go_simp; with_reducible rfl)))
                  (try simp only [Act.put, List.setIfInBounds_toArray, List.set_cons_zero, List.set_cons_succ])
                  refine wpAnyH_take (i := 1) (oi := { dst := some 43, op := Op.move (Operand.tmp 5), type := 38, pos := "cfg.go:70", after := #[], guard := none }) (v := ?v2x1) rfl (by kernel_rfl) (by kernel_rfl) (by kernel_rfl) (fun _ _ _ h => h) (Or.inl ⟨by rfl, ?hy2x1⟩) (by assumption) ?rest2x1
                  case hy2x1 => (intro w hSw; (try dsimp only at hSw); (first | (go_simp; done) | (go_simp; with_reducible rfl)))
                  (try simp only [Act.put, List.setIfInBounds_toArray, List.set_cons_zero, List.set_cons_succ])
                  refine wpAnyH_take (i := 2) (oi := { dst := some 44, op := Op.call { callee := Callee.builtin Builtin.len, args := #[Operand.tmp 43], argTypes := #[38] }, type := 3, pos := "cfg.go:70", after := #[{ on := 1, ground := Ground.data }], guard := none }) (v := ?v2x2) rfl (by kernel_rfl) (by kernel_rfl) (by kernel_rfl) (fun _ _ _ h => h) (Or.inl ⟨by rfl, ?hy2x2⟩) (by assumption) ?rest2x2
                  case hy2x2 => (intro w hSw; (try dsimp only at hSw); (first | (go_simp; done) | (go_simp; with_reducible rfl)))
                  (try simp only [Act.put, List.setIfInBounds_toArray, List.set_cons_zero, List.set_cons_succ])
                  refine wpAnyH_ready (rs := [3]) (by kernel_rfl) (by simp) ?_
                  refine AllReadyH.cons (o := { dst := some 45, op := Op.call { callee := Callee.value (Operand.func 40), args := #[Operand.tmp 42, Operand.tmp 44], argTypes := #[3, 3] }, type := 4, pos := "cfg.go:70", after := #[{ on := 0, ground := Ground.data }, { on := 2, ground := Ground.data }], guard := none }) rfl (fun K hK => ?_) AllReadyH.nil
                  go_simp
                  go_at_call 40; refine (isindex_any _ _ _).mono ?_; rintro en wn1 ⟨rfl, hb3⟩; rw [gi]; replace hb3 : Below wx.heap.size wx wn1 := ⟨hb3.os, hb3.tape, hb3.output, hb3.size, hb3.block⟩; replace hsz := hide (Nat.le_trans hsz.out hb3.size); replace HAt := hide (HAt.out.below' hb3); replace HBv := hide (HBv.out.below' hb3); replace HO := hide (HO.out.next hb3); replace HRr := hide (HRr.out.below' hb3); replace hb2 := hide (hb2.out.trans (hb3.mono (by have := hb2.out.size; have := HD.out; omega))); clear hb3
                  (try go_wp2_with fail)
                  refine hK.out _ _ ?_ (fun hHeld => ?_)
                  · exact ⟨HO.out.own.cellAt Hv0.out, HAt.out.cell 0, HAt.out.cell 1⟩
                  clear hK K
                  (try simp only [Act.put, List.setIfInBounds_toArray, List.set_cons_zero, List.set_cons_succ])
                  refine wpAnyH_take (i := 4) (oi := { dst := some 46, op := Op.move (Operand.tmp 45), type := 4, pos := "cfg.go:70", after := #[{ on := 3, ground := Ground.data }, { on := 3, ground := Ground.chain }], guard := none }) (v := ?v2x4) rfl (by kernel_rfl) (by kernel_rfl) (by kernel_rfl) (fun _ _ _ h => h) (Or.inl ⟨by rfl, ?hy2x4⟩) (by assumption) ?rest2x4
                  case hy2x4 => (intro w hSw; (try dsimp only at hSw); (first | (go_simp; done) | (go_simp; with_reducible rfl)))
                  (try simp only [Act.put, List.setIfInBounds_toArray, List.set_cons_zero, List.set_cons_succ])
                  refine wpAnyH_take (i := 5) (oi := { dst := some 47, op := Op.move (Operand.tmp 5), type := 38, pos := "cfg.go:70", after := #[{ on := 4, ground := Ground.guard }], guard := some (4, true) }) (v := ?v2x5) rfl (by kernel_rfl) (by kernel_rfl) (by kernel_rfl) (fun _ _ _ h => h) (Or.inl ⟨by rfl, ?hy2x5⟩) (by assumption) ?rest2x5
                  case hy2x5 => (intro w hSw; (try dsimp only at hSw); (first | (go_simp; done) | (go_simp; with_reducible rfl)))
                  (try simp only [Act.put, List.setIfInBounds_toArray, List.set_cons_zero, List.set_cons_succ])
                  refine wpAnyH_take (i := 6) (oi := { dst := some 48, op := Op.move (Operand.tmp 11), type := 3, pos := "cfg.go:70", after := #[{ on := 4, ground := Ground.guard }], guard := some (4, true) }) (v := ?v2x6) rfl (by kernel_rfl) (by kernel_rfl) (by kernel_rfl) (fun _ _ _ h => h) (Or.inl ⟨by rfl, ?hy2x6⟩) (by assumption) ?rest2x6
                  case hy2x6 => (intro w hSw; (try dsimp only at hSw); (first | (go_simp; done) | (go_simp; with_reducible rfl)))
                  (try simp only [Act.put, List.setIfInBounds_toArray, List.set_cons_zero, List.set_cons_succ])
                  refine wpAnyH_take (i := 7) (oi := { dst := some 49, op := Op.indexAddr 38 (Operand.tmp 47) (Operand.tmp 48), type := 0, pos := "cfg.go:70", after := #[{ on := 5, ground := Ground.data }, { on := 6, ground := Ground.data }, { on := 4, ground := Ground.guard }], guard := some (4, true) }) (v := ?v2x7) rfl (by kernel_rfl) (by kernel_rfl) (by kernel_rfl) (fun _ _ _ h => h) (Or.inl ⟨by rfl, ?hy2x7⟩) (by assumption) ?rest2x7
                  case hy2x7 => (intro w hSw; (try dsimp only at hSw); (first | (go_simp; done) | (go_simp; with_reducible rfl)))
                  (try simp only [Act.put, List.setIfInBounds_toArray, List.set_cons_zero, List.set_cons_succ])
                  refine wpAnyH_take (i := 8) (oi := { dst := some 50, op := Op.load 64 (Operand.tmp 49), type := 64, pos := "cfg.go:70", after := #[{ on := 7, ground := Ground.data }, { on := 4, ground := Ground.guard }], guard := some (4, true) }) (v := ?v2x8) rfl (by kernel_rfl) (by kernel_rfl) (by kernel_rfl) (fun _ _ _ h => h) (Or.inl ⟨by rfl, ?hy2x8⟩) (by assumption) ?rest2x8
                  case hy2x8 => (intro w hSw; (try dsimp only at hSw); (first | (go_simp; done) | (go_simp; with_reducible rfl)))
                  (try simp only [Act.put, List.setIfInBounds_toArray, List.set_cons_zero, List.set_cons_succ])
                  refine wpAnyH_take (i := 9) (oi := { dst := some 51, op := Op.load 37 (Operand.tmp 9), type := 37, pos := "cfg.go:70", after := #[{ on := 4, ground := Ground.guard }], guard := some (4, true) }) (v := ?v2x9) rfl (by kernel_rfl) (by kernel_rfl) (by kernel_rfl) (fun _ _ _ h => h) (Or.inl ⟨by rfl, ?hy2x9⟩) (by assumption) ?rest2x9
                  case hy2x9 => (intro w hSw; (try dsimp only at hSw); (first | (go_simp; done) | (go_simp; with_reducible rfl)))
                  (try simp only [Act.put, List.setIfInBounds_toArray, List.set_cons_zero, List.set_cons_succ])
                  refine wpAnyH_ready (rs := [10]) (by kernel_rfl) (by simp) ?_
                  refine AllReadyH.cons (o := { dst := some 52, op := Op.call { callee := Callee.value (Operand.func 52), args := #[Operand.tmp 50, Operand.tmp 51], argTypes := #[64, 37] }, type := 4, pos := "cfg.go:70", after := #[{ on := 8, ground := Ground.data }, { on := 9, ground := Ground.data }, { on := 4, ground := Ground.chain }, { on := 4, ground := Ground.guard }], guard := some (4, true) }) rfl (fun K hK => ?_) AllReadyH.nil
                  go_simp
                  go_at_call 52; refine (ends_any _ l0 _ _ _ (HO.out.row r _ l0 Hv0.out Hl0.out).rd).mono ?_; rintro en wn2 ⟨rfl, hb3⟩; rw [ge]; replace hsz := hide (Nat.le_trans hsz.out hb3.size); replace HAt := hide (HAt.out.below' hb3); replace HBv := hide (HBv.out.below' hb3); replace HO := hide (HO.out.next hb3); replace HRr := hide (HRr.out.below' hb3); replace hb2 := hide (hb2.out.trans (hb3.mono (by have := hb2.out.size; have := HD.out; omega))); clear hb3
                  (try go_wp2_with fail)
                  refine hK.out _ _ ?_ (fun hHeld => ?_)
                  · exact ⟨HO.out.own.cellAt Hv0.out, HAt.out.cell 0, HAt.out.cell 1⟩
                  clear hK K
                  (try simp only [Act.put, List.setIfInBounds_toArray, List.set_cons_zero, List.set_cons_succ])
                  refine wpAnyH_take (i := 11) (oi := { dst := some 53, op := Op.unOp UnOp.not 4 (Operand.tmp 52), type := 4, pos := "cfg.go:70", after := #[{ on := 10, ground := Ground.data }, { on := 4, ground := Ground.guard }], guard := some (4, true) }) (v := ?v2x11) rfl (by kernel_rfl) (by kernel_rfl) (by kernel_rfl) (fun _ _ _ h => h) (Or.inl ⟨by rfl, ?hy2x11⟩) (by assumption) ?rest2x11
                  case hy2x11 => (intro w hSw; (try dsimp only at hSw); (first | (go_simp; done) | (go_simp; with_reducible rfl)))
                  (try simp only [Act.put, List.setIfInBounds_toArray, List.set_cons_zero, List.set_cons_succ])
                  refine wpAnyH_take (i := 12) (oi := { dst := some 54, op := Op.pick (Operand.tmp 46) (Operand.tmp 53) (Operand.const (Value.bool false)), type := 4, pos := "cfg.go:70", after := #[{ on := 4, ground := Ground.data }, { on := 11, ground := Ground.data }], guard := none }) (v := ?v2x12) rfl (by kernel_rfl) (by kernel_rfl) (by kernel_rfl) (fun _ _ _ h => h) (Or.inl ⟨by rfl, ?hy2x12⟩) (by assumption) ?rest2x12
                  case hy2x12 => (intro w hSw; (try dsimp only at hSw); (first | (go_simp; done) | (go_simp; with_reducible rfl)))
                  (try simp only [Act.put, List.setIfInBounds_toArray, List.set_cons_zero, List.set_cons_succ])
                  refine wpAnyH_done (by kernel_rfl) ?_ _
                  all_goals
                    go_upto_region 13 with fail
                    have cD : wn2.cell? ⟨D, r, none⟩ = some (.slice A0 l0.length c0) := HO.out.own.cellAt Hv0.out
                    have hAl := (Below.refl wn2.heap.size wn2).alloc (Nat.le_refl _) (.cells (posC ((a : Int), (cnt : Int) - 1)).toArray 37)
                    have cA1 : wn2.cell? ⟨av, 0, none⟩ = some (.int .i64 (a : Int)) := HAt.out.cell 0
                    have cA2 : wn2.cell? ⟨av, 1, none⟩ = some (.int .i64 ((cnt : Int) - 1)) := HAt.out.cell 1
                    have cD' : (wn2.alloc (.cells #[.int .i64 (a : Int), .int .i64 ((cnt : Int) - 1)] 37)).cell? ⟨D, r, none⟩ = some (.slice A0 l0.length c0) := (hAl.cell (p := ⟨D, r, none⟩) HO.out.lt.2).trans cD
                    have cA1' : (wn2.alloc (.cells #[.int .i64 (a : Int), .int .i64 ((cnt : Int) - 1)] 37)).cell? ⟨av, 0, none⟩ = some (.int .i64 (a : Int)) := (hAl.cell (p := ⟨av, 0, none⟩) HAt.out.lt).trans cA1
                    have cA2' : (wn2.alloc (.cells #[.int .i64 (a : Int), .int .i64 ((cnt : Int) - 1)] 37)).cell? ⟨av, 1, none⟩ = some (.int .i64 ((cnt : Int) - 1)) := (hAl.cell (p := ⟨av, 1, none⟩) HAt.out.lt).trans cA2
                    obtain ⟨o1, ho1⟩ : ∃ o, Obj.cells (posC ((a : Int), (cnt : Int) - 1)).toArray 37 = o := ⟨_, rfl⟩
                    have HO2 : Hid (OwnN (wn2.alloc o1).drew D 37 2 (.slice A0 l0.length c0) (l0.map posC)) := hide ((HO.out.row r _ l0 Hv0.out Hl0.out).alloc o1)
                    have hRo : Hid (RdN (wn2.alloc o1).drew 2 (.slice (some ⟨wn2.heap.size, 0, none⟩) 1 1) [posC ((a : Int), (cnt : Int) - 1)]) := hide (by rw [← ho1]; exact rdn_pos wn2 _)
                    have hby : Hid (((l0.map posC).length + [posC ((a : Int), (cnt : Int) - 1)].length) * 16 ≤ 140737488355328) := hide (by have := HL00.out; simp only [List.length_map, List.length_cons, List.length_nil]; omega)
                    have hml2 : Hid ((l0.map posC).length + [posC ((a : Int), (cnt : Int) - 1)].length ≤ maxLen) := hide (by have := HL00.out; unfold maxLen; simp only [List.length_map, List.length_cons, List.length_nil]; omega)
                    have hbs : Hid (D ≤ (wn2.alloc o1).drew.heap.size) := hide (by show D ≤ (wn2.alloc o1).heap.size; rw [World.size_alloc]; have := HO.out.lt; omega)
                    have HAFT : Hid (∀ v' w9, OwnN w9 D 37 2 v' (l0.map posC ++ [posC ((a : Int), (cnt : Int) - 1)]) → Frm (wn2.alloc o1).drew w9 (Value.slice A0 l0.length c0).ownBlock.toList → (v'.ownBlock = (Value.slice A0 l0.length c0).ownBlock ∨ v'.ownBlock = some (wn2.alloc o1).drew.heap.size) →
                        ∃ A5 c5, v' = .slice A5 (l0.length + 1) c5 ∧ w9.cell? ⟨D, r, none⟩ = some (.slice A0 l0.length c0) ∧ w9.frozen? ⟨D, r, none⟩ = false ∧
                          Hid (OwnP (w9.setCell ⟨D, r, none⟩ v') D D (R.set r v') (colIn d M a cnt (j + 1)) ∧ Whole (w9.setCell ⟨D, r, none⟩ v') bv 54 b.cells.toArray ∧ Whole (w9.setCell ⟨D, r, none⟩ v') av 37 (posC ((a : Int), (cnt : Int) - 1)).toArray ∧
                            Clear (R.set r v') av (some ⟨b8, o8, none⟩) rs.length ∧ Rd (w9.setCell ⟨D, r, none⟩ v') .i64 (.slice (some ⟨b8, o8, none⟩) rs.length vc) rs ∧ w5.heap.size ≤ (w9.setCell ⟨D, r, none⟩ v').heap.size ∧ Below D w1 (w9.setCell ⟨D, r, none⟩ v'))) := hide (by
                      intro v' w9 ho9 hf9 hb9
                      have hf9 : Frm (wn2.alloc o1) w9 (Value.slice A0 l0.length c0).ownBlock.toList := (Frm.drew _ _).trans hf9
                      have hsz0 : (wn2.alloc o1).drew.heap.size = wn2.heap.size + 1 := World.size_alloc _ _
                      have hb5' : v'.ownBlock = (Value.slice A0 l0.length c0).ownBlock ∨ ∀ g', v'.ownBlock = some g' → (wn2.alloc o1).heap.size ≤ g' := hb9.imp id (fun h g' hg' => by rw [h, hsz0] at hg'; injection hg' with e; rw [World.size_alloc]; omega)
                      have e9 : l0.map posC ++ [posC ((a : Int), (cnt : Int) - 1)] = (l0 ++ [((a : Int), (cnt : Int) - 1)]).map posC := by simp
                      rw [e9] at ho9
                      have hP := (HO.out.frm ((Frm.refl wn2 []).alloc o1)).push Hv0.out Hl0.out hf9 ho9 hb5'
                      rw [← HNX.out] at hP
                      have hrow := HO.out.row r _ l0 Hv0.out Hl0.out
                      have f19 : Frm wn2 w9 (Value.slice A0 l0.length c0).ownBlock.toList := ((Frm.refl wn2 _).alloc o1).trans hf9
                      have hset : Frm w9 (w9.setCell ⟨D, r, none⟩ v') [D] := (Frm.refl w9 [D]).setCell _ _ (.inl (by simp))
                      have hDn : D ∉ (Value.slice A0 l0.length c0).ownBlock.toList := fun hg => HO.out.apart r _ Hv0.out (by simpa using hg)
                      have nb : bv ∉ (Value.slice A0 l0.length c0).ownBlock.toList := fun hg => hrow.ne_whole HBv.out (by decide) (by simpa using hg)
                      have na : av ∉ (Value.slice A0 l0.length c0).ownBlock.toList := fun hg => (hclr.out r _ av Hv0.out (by simpa using hg)).1 rfl
                      have nv : ∀ b ∈ slB (some ⟨b8, o8, none⟩) rs.length, b ∉ (Value.slice A0 l0.length c0).ownBlock.toList := fun b hb hg => (hclr.out r _ b Hv0.out (by simpa using hg)).2 hb
                      have h9s := f19.size
                      obtain ⟨_, A5, c5, e5, -, -, -⟩ := ho9.rd
                      rw [List.length_map, List.length_append, List.length_singleton] at e5
                      have hbl2 := hb2.out
                      refine ⟨A5, c5, e5, (f19.cell (p := ⟨D, r, none⟩) HO.out.lt.2 hDn).trans cD, (f19.frozen (p := ⟨D, r, none⟩) HO.out.lt.2 hDn).trans (HO.out.own.freeAt r), hide ⟨hP, (HBv.out.frm f19 nb).frm hset (by have := hbvl.out; simp; omega), (HAt.out.frm f19 na).frm hset (by have := hDav.out; simp; omega), ?_, ?_, ?_, ?_⟩⟩
                      · intro k u g hu hg
                        by_cases e : k = r
                        · subst e
                          rw [List.getElem?_set_self (by rw [hR.out]; exact hrl)] at hu
                          injection hu with hu
                          subst hu
                          rcases hb5' with h1 | h1
                          · rw [h1] at hg
                            exact hclr.out k _ g Hv0.out hg
                          · have h2 := h1 g hg
                            rw [World.size_alloc] at h2
                            have h3 := hsz.out
                            refine ⟨by have := havl.out; omega, fun hm => ?_⟩
                            have := hvlt.out g hm
                            omega
                        · rw [List.getElem?_set_ne (fun x => e x.symm)] at hu
                          exact hclr.out k u g hu hg
                      · exact (HRr.out.frmB f19 nv).frmB hset (fun b hb hb' => by have := hvD.out b hb; simp only [List.mem_singleton] at hb'; omega)
                      · have h3 := hsz.out
                        have := hset.size
                        omega
                      · refine (hbl2.trans (f19.toBelow (B := D) (fun g hg => (hrow.lt g (by simpa using hg)).1) (by have := HO.out.lt; omega))).trans (hset.toBelow (fun g hg => by rw [List.mem_singleton.1 hg]; exact Nat.le_refl _) (by have := HO.out.lt; omega)))
                    have ho1' : Obj.cells #[.int .i64 (a : Int), .int .i64 ((cnt : Int) - 1)] 37 = o1 := ho1
                    rw [ho1'] at cD' cA1' cA2'
                    clear hAl ho1
                    go_region_law (refine step_append_n rfl (.tmp 60) (.tmp 62) 64 rfl D 37 2 _ 16 posE (.slice A0 l0.length c0) (l0.map posC) (by simp [Act.eval]) HO2.out (.slice (some ⟨wn2.heap.size, 0, none⟩) 1 1) [posC ((a : Int), (cnt : Int) - 1)] (by simp [Act.eval]) hRo.out (pos_one (l := [((a : Int), (cnt : Int) - 1)])) hby.out hml2.out hbs.out ?_; intro v' w9 ho9 hf9 hb9; obtain ⟨A5, c5, rfl, cv6, fr6, HP⟩ := HAFT.out v' w9 ho9 hf9 hb9; clear ho9 hf9 hb9)
                    all_goals
                      clear cD cA1 cA2 cD' cA1' cA2' HO2 hRo hby hml2 hbs HAFT
                      go_wp2_with fail
                      go_roundw
                      case rel => exact ⟨j + 1, R.set r (.slice A5 (l0.length + 1) c5), by omega, by go_num, hide (by rw [List.length_set]; exact hR.out), hide HP.out.1, hide HP.out.2.1, hide HP.out.2.2.1, hide HP.out.2.2.2.1, hide HP.out.2.2.2.2.1, hide HP.out.2.2.2.2.2.1, hide HP.out.2.2.2.2.2.2⟩
                      case measure => simp [intOf]; omega
              · have gi : decide (0 ≤ r0 ∧ r0 < (d.regs.length : Int)) = false := by simpa using hin
                have HNX : Hid (colIn d M a cnt (j + 1) = colIn d M a cnt j) := hide (by rw [HNX0.out]; exact addAt_out (by rw [colIn_len]; exact hin))
                clear hin
                go_upto_region 12 with fail
                refine wp_region_held_drew (S := (fun _ => True)) (by kernel_rfl) ?_ (fun hHeld => ?_)
                · exact trivial
                refine wpAnyH_take (i := 0) (oi := { dst := some 42, op := Op.move (Operand.tmp 11), type := 3, pos := "cfg.go:70", after := #[], guard := none }) (v := ?v3x0) rfl (by kernel_rfl) (by kernel_rfl) (by kernel_rfl) (fun _ _ _ h => h) (Or.inl ⟨by rfl, ?hy3x0⟩) (by assumption) ?rest3x0
                case hy3x0 => (intro w hSw; (try dsimp only at hSw); (first | (go_simp; done) | (go_simp; with_reducible rfl)))
                (try simp only [Act.put, List.setIfInBounds_toArray, List.set_cons_zero, List.set_cons_succ])
                refine wpAnyH_take (i := 1) (oi := { dst := some 43, op := Op.move (Operand.tmp 5), type := 38, pos := "cfg.go:70", after := #[], guard := none }) (v := ?v3x1) rfl (by kernel_rfl) (by kernel_rfl) (by kernel_rfl) (fun _ _ _ h => h) (Or.inl ⟨by rfl, ?hy3x1⟩) (by assumption) ?rest3x1
                case hy3x1 => (intro w hSw; (try dsimp only at hSw); (first | (go_simp; done) | (go_simp; with_reducible rfl)))
                (try simp only [Act.put, List.setIfInBounds_toArray, List.set_cons_zero, List.set_cons_succ])
                refine wpAnyH_take (i := 2) (oi := { dst := some 44, op := Op.call { callee := Callee.builtin Builtin.len, args := #[Operand.tmp 43], argTypes := #[38] }, type := 3, pos := "cfg.go:70", after := #[{ on := 1, ground := Ground.data }], guard := none }) (v := ?v3x2) rfl (by kernel_rfl) (by kernel_rfl) (by kernel_rfl) (fun _ _ _ h => h) (Or.inl ⟨by rfl, ?hy3x2⟩) (by assumption) ?rest3x2
                case hy3x2 => (intro w hSw; (try dsimp only at hSw); (first | (go_simp; done) | (go_simp; with_reducible rfl)))
                (try simp only [Act.put, List.setIfInBounds_toArray, List.set_cons_zero, List.set_cons_succ])
                refine wpAnyH_ready (rs := [3]) (by kernel_rfl) (by simp) ?_
                refine AllReadyH.cons (o := { dst := some 45, op := Op.call { callee := Callee.value (Operand.func 40), args := #[Operand.tmp 42, Operand.tmp 44], argTypes := #[3, 3] }, type := 4, pos := "cfg.go:70", after := #[{ on := 0, ground := Ground.data }, { on := 2, ground := Ground.data }], guard := none }) rfl (fun K hK => ?_) AllReadyH.nil
                go_simp
                go_at_call 40; refine (isindex_any _ _ _).mono ?_; rintro en wn1 ⟨rfl, hb3⟩; rw [gi]; replace hb3 : Below wx.heap.size wx wn1 := ⟨hb3.os, hb3.tape, hb3.output, hb3.size, hb3.block⟩; replace hsz := hide (Nat.le_trans hsz.out hb3.size); replace HAt := hide (HAt.out.below' hb3); replace HBv := hide (HBv.out.below' hb3); replace HO := hide (HO.out.next hb3); replace HRr := hide (HRr.out.below' hb3); replace hb2 := hide (hb2.out.trans (hb3.mono (by have := hb2.out.size; have := HD.out; omega))); clear hb3
                (try go_wp2_with fail)
                refine hK.out _ _ ?_ (fun hHeld => ?_)
                · exact trivial
                clear hK K
                (try simp only [Act.put, List.setIfInBounds_toArray, List.set_cons_zero, List.set_cons_succ])
                refine wpAnyH_take (i := 4) (oi := { dst := some 46, op := Op.move (Operand.tmp 45), type := 4, pos := "cfg.go:70", after := #[{ on := 3, ground := Ground.data }, { on := 3, ground := Ground.chain }], guard := none }) (v := ?v3x4) rfl (by kernel_rfl) (by kernel_rfl) (by kernel_rfl) (fun _ _ _ h => h) (Or.inl ⟨by rfl, ?hy3x4⟩) (by assumption) ?rest3x4
                case hy3x4 => (intro w hSw; (try dsimp only at hSw); (first | (go_simp; done) | (go_simp; with_reducible rfl)))
                (try simp only [Act.put, List.setIfInBounds_toArray, List.set_cons_zero, List.set_cons_succ])
                refine wpAnyH_take (i := 5) (oi := { dst := some 47, op := Op.move (Operand.tmp 5), type := 38, pos := "cfg.go:70", after := #[{ on := 4, ground := Ground.guard }], guard := some (4, true) }) (v := undef) rfl (by kernel_rfl) (by kernel_rfl) (by kernel_rfl) (fun _ _ _ h => h) (Or.inr ⟨by rfl, rfl⟩) (by assumption) ?_
                (try simp only [Act.put, List.setIfInBounds_toArray, List.set_cons_zero, List.set_cons_succ])
                refine wpAnyH_take (i := 6) (oi := { dst := some 48, op := Op.move (Operand.tmp 11), type := 3, pos := "cfg.go:70", after := #[{ on := 4, ground := Ground.guard }], guard := some (4, true) }) (v := undef) rfl (by kernel_rfl) (by kernel_rfl) (by kernel_rfl) (fun _ _ _ h => h) (Or.inr ⟨by rfl, rfl⟩) (by assumption) ?_
                (try simp only [Act.put, List.setIfInBounds_toArray, List.set_cons_zero, List.set_cons_succ])
                refine wpAnyH_take (i := 7) (oi := { dst := some 49, op := Op.indexAddr 38 (Operand.tmp 47) (Operand.tmp 48), type := 0, pos := "cfg.go:70", after := #[{ on := 5, ground := Ground.data }, { on := 6, ground := Ground.data }, { on := 4, ground := Ground.guard }], guard := some (4, true) }) (v := undef) rfl (by kernel_rfl) (by kernel_rfl) (by kernel_rfl) (fun _ _ _ h => h) (Or.inr ⟨by rfl, rfl⟩) (by assumption) ?_
                (try simp only [Act.put, List.setIfInBounds_toArray, List.set_cons_zero, List.set_cons_succ])
                refine wpAnyH_take (i := 8) (oi := { dst := some 50, op := Op.load 64 (Operand.tmp 49), type := 64, pos := "cfg.go:70", after := #[{ on := 7, ground := Ground.data }, { on := 4, ground := Ground.guard }], guard := some (4, true) }) (v := undef) rfl (by kernel_rfl) (by kernel_rfl) (by kernel_rfl) (fun _ _ _ h => h) (Or.inr ⟨by rfl, rfl⟩) (by assumption) ?_
                (try simp only [Act.put, List.setIfInBounds_toArray, List.set_cons_zero, List.set_cons_succ])
                refine wpAnyH_take (i := 9) (oi := { dst := some 51, op := Op.load 37 (Operand.tmp 9), type := 37, pos := "cfg.go:70", after := #[{ on := 4, ground := Ground.guard }], guard := some (4, true) }) (v := undef) rfl (by kernel_rfl) (by kernel_rfl) (by kernel_rfl) (fun _ _ _ h => h) (Or.inr ⟨by rfl, rfl⟩) (by assumption) ?_
                (try simp only [Act.put, List.setIfInBounds_toArray, List.set_cons_zero, List.set_cons_succ])
                refine wpAnyH_take (i := 10) (oi := { dst := some 52, op := Op.call { callee := Callee.value (Operand.func 52), args := #[Operand.tmp 50, Operand.tmp 51], argTypes := #[64, 37] }, type := 4, pos := "cfg.go:70", after := #[{ on := 8, ground := Ground.data }, { on := 9, ground := Ground.data }, { on := 4, ground := Ground.chain }, { on := 4, ground := Ground.guard }], guard := some (4, true) }) (v := undef) rfl (by kernel_rfl) (by kernel_rfl) (by kernel_rfl) (fun _ _ _ h => h) (Or.inr ⟨by rfl, rfl⟩) (by assumption) ?_
                (try simp only [Act.put, List.setIfInBounds_toArray, List.set_cons_zero, List.set_cons_succ])
                refine wpAnyH_take (i := 11) (oi := { dst := some 53, op := Op.unOp UnOp.not 4 (Operand.tmp 52), type := 4, pos := "cfg.go:70", after := #[{ on := 10, ground := Ground.data }, { on := 4, ground := Ground.guard }], guard := some (4, true) }) (v := undef) rfl (by kernel_rfl) (by kernel_rfl) (by kernel_rfl) (fun _ _ _ h => h) (Or.inr ⟨by rfl, rfl⟩) (by assumption) ?_
                (try simp only [Act.put, List.setIfInBounds_toArray, List.set_cons_zero, List.set_cons_succ])
                refine wpAnyH_take (i := 12) (oi := { dst := some 54, op := Op.pick (Operand.tmp 46) (Operand.tmp 53) (Operand.const (Value.bool false)), type := 4, pos := "cfg.go:70", after := #[{ on := 4, ground := Ground.data }, { on := 11, ground := Ground.data }], guard := none }) (v := ?v3x12) rfl (by kernel_rfl) (by kernel_rfl) (by kernel_rfl) (fun _ _ _ h => h) (Or.inl ⟨by rfl, ?hy3x12⟩) (by assumption) ?rest3x12
                case hy3x12 => (intro w hSw; (try dsimp only at hSw); (first | (go_simp; done) | (go_simp; with_reducible rfl)))
                (try simp only [Act.put, List.setIfInBounds_toArray, List.set_cons_zero, List.set_cons_succ])
                refine wpAnyH_done (by kernel_rfl) ?_ _
                all_goals
                  go_wp2_with fail
                  go_roundw
                  case rel => exact ⟨j + 1, R, by omega, by go_num, hR, hide (by rw [HNX.out]; exact HO.out), HBv, HAt, hclr, HRr, hsz, hb2⟩
                  case measure => simp [intOf]; omega
            · have hjl : j = rs.length := by omega
              have HJ := hide hjl
              clear hjl
              have hcl : colIn d M a cnt j = colL d M a (cnt + 1) := by rw [HJ.out, ← HRS.out]; exact colIn_all d M a cnt
              have HCL := hide hcl
              have hms : b.ins.length + 2 - ((cnt : Int) + 1).toNat < b.ins.length + 2 - ((cnt : Int) - 1 + 1).toNat := by omega
              have HMS := hide hms
              clear hcl hms
              go_wp2_with fail
              exact ⟨⟨cnt + 1, R, by omega, by rw [show ((cnt + 1 : Nat) : Int) - 1 = (cnt : Int) by omega], hR, hide (by rw [← HCL.out]; exact HO.out), HBv, hb2⟩, HMS.out⟩
        · have hcn : cnt = b.ins.length + 2 := by omega
          have HC := hide hcn
          have hle : decide ((cnt : Int) - 1 ≤ (b.ins.length : Int)) = false := by simp; omega
          have hle' : ¬ (cnt : Int) ≤ (b.ins.length : Int) + 1 := by omega
          clear hcn
          go_wp2_with fail
          have e1 : colL d M a cnt = colL d M (a + 1) 0 := by rw [HC.out]; exact colL_block HB0.out
          first
          | exact ⟨⟨a + 1, R, by omega, by go_num, hR, hide (by rw [← e1]; exact hL.out), hb⟩, by simp [intOf]; omega⟩
          | (go_roundw
             case rel => exact ⟨a + 1, R, by omega, by go_num, hR, hide (by rw [← e1]; exact hL.out), hb⟩
             case measure => simp [intOf]; omega)
    · have hkl : a = d.blocks.length := by omega
      have HK := hide hkl
      have HRl := hR
      clear hkl hR
      go_wp2_with fail
      go_ret
      have e1 := HK.out
      have e2 := HRl.out
      have hD1 : w.heap.size ≤ D := by have := HB.out.size; have := HD.out; omega
      subst e1
      exact ⟨D, R, rfl, hL.out.low hD1, HB.out.trans (hb.out.mono hD1)⟩
end Go.Proofs.Ythnehmfdadgklaa

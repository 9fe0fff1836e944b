/-
  Layer 20 (cfg): the reference's Graph.
-/
import Derived.Test.YthnehmfdadgklaaCfLs
import Derived.Test.YthnehmfdadgklaaCfN
namespace Go.Proofs.Ythnehmfdadgklaa
open Go.RowKit Go.Deep

/-- Rows of integers gathered by append. -/
structure AccL (w : World) (base : Nat) (v : Value) (R : List Value) (L : List (List Int)) : Prop where
  own : OwnV w base 22 v R
  len : R.length = L.length
  row : ∀ (i : Nat) (u : Value) (l : List Int), R[i]? = some u → L[i]? = some l → Own w base 3 .i64 u l
  apart : ∀ (i : Nat) (u : Value) (g : Nat), R[i]? = some u → u.ownBlock = some g → v.ownBlock ≠ some g
theorem AccL.below {w w' : World} {base : Nat} {v : Value} {R : List Value} {L : List (List Int)} (h : AccL w base v R L) (hb : Below w.heap.size w w') : AccL w' base v R L :=
  ⟨h.own.below' hb, h.len, fun i u l hu hl => (h.row i u l hu hl).below' hb, h.apart⟩
theorem AccL.far {w w' : World} {base : Nat} {v : Value} {R : List Value} {L : List (List Int)} (h : AccL w base v R L) {S : List Nat} (hf : Frm w w' S) (hs : ∀ g ∈ S, g < base) : AccL w' base v R L :=
  ⟨h.own.frm hf (fun g hg hg2 => by have h1 := (h.own.size g hg).1; have h2 := hs g hg2; omega), h.len, fun i u l hu hl => (h.row i u l hu hl).frmS hf (fun g hg hg2 => by have h1 := ((h.row i u l hu hl).size g hg).1; have h2 := hs g hg2; omega), h.apart⟩
theorem AccL.nil {w : World} {base : Nat} : AccL w base (.slice none 0 0) [] [] := ⟨OwnV.nil, rfl, fun i u l hu => by simp at hu, fun i u g hu => by simp at hu⟩
theorem AccL.push {w w' : World} {base : Nat} {v v' u : Value} {R : List Value} {L : List (List Int)} {l : List Int} (h : AccL w base v R L) (hu : Own w base 3 .i64 u l) (ha : ∀ g, u.ownBlock = some g → v.ownBlock ≠ some g)
    (ho : OwnV w' base 22 v' (R ++ [u])) (hf : Frm w w' v.ownBlock.toList) (hv : v'.ownBlock = v.ownBlock ∨ v'.ownBlock = some w.heap.size) : AccL w' base v' (R ++ [u]) (L ++ [l]) := by
  have key : ∀ (x : Value) (m : List Int), Own w base 3 .i64 x m → (∀ g, x.ownBlock = some g → v.ownBlock ≠ some g) → Own w' base 3 .i64 x m ∧ ∀ g, x.ownBlock = some g → v'.ownBlock ≠ some g := by
    intro x m hx hxa
    refine ⟨hx.frmS hf (fun g hg hg2 => hxa g hg (by simpa using hg2)), fun g hg e => ?_⟩
    rcases hv with e2 | e2
    · exact hxa g hg (e2 ▸ e)
    · have h1 := (hx.size g hg).2
      rw [e2] at e
      injection e with e
      omega
  refine ⟨ho, by simp [h.len], fun i x m hx hm => ?_, fun i x g hx hg => ?_⟩
  · by_cases hi : i < R.length
    · rw [List.getElem?_append_left hi] at hx
      rw [List.getElem?_append_left (by rw [← h.len]; exact hi)] at hm
      exact (key x m (h.row i x m hx hm) (fun g hg => h.apart i x g hx hg)).1
    · rw [List.getElem?_append_right (by omega)] at hx
      rw [List.getElem?_append_right (by rw [← h.len]; omega), ← h.len] at hm
      have hi0 : i - R.length = 0 := by
        have := (List.getElem?_eq_some_iff.1 hx).1
        simp at this
        omega
      rw [hi0] at hx hm
      simp at hx hm
      subst hx hm
      exact (key u l hu ha).1
  · by_cases hi : i < R.length
    · rw [List.getElem?_append_left hi] at hx
      obtain ⟨m, hm⟩ : ∃ m, L[i]? = some m := ⟨_, List.getElem?_eq_getElem (by rw [← h.len]; exact hi)⟩
      exact (key x m (h.row i x m hx hm) (fun g hg => h.apart i x g hx hg)).2 g hg
    · rw [List.getElem?_append_right (by omega)] at hx
      have hi0 : i - R.length = 0 := by
        have := (List.getElem?_eq_some_iff.1 hx).1
        simp at this
        omega
      rw [hi0] at hx
      simp at hx
      subst hx
      exact (key u l hu ha).2 g hg
theorem AccL.rd {w : World} {base : Nat} {v : Value} {R : List Value} {L : List (List Int)} (h : AccL w base v R L) : ∃ A c, v = .slice A L.length c ∧ RdL w A c L := by
  have h1 := h.own.rd
  obtain ⟨A, c, e, -⟩ := id h1
  subst e
  rw [h.len] at h1 ⊢
  refine ⟨A, c, rfl, R, h.len, h1, fun i l hl => ?_⟩
  obtain ⟨u, hu⟩ : ∃ u, R[i]? = some u := ⟨_, List.getElem?_eq_getElem (by rw [h.len]; exact (List.getElem?_eq_some_iff.1 hl).1)⟩
  have h2 := (h.row i u l hu hl).rd
  have h3 := h2
  obtain ⟨B, d, rfl, -⟩ := h2
  exact ⟨B, d, hu, h3⟩
theorem rowsV : ElemV Try.prog 31 22 (.slice none 0 0) 24 := ⟨Try.underlying31, rfl, infoN intsI⟩
set_option maxRecDepth 100000 in
set_option maxHeartbeats 4000000 in
theorem rgraph_any (d : FnD) (w : World) (hd : d.ok w) (hn : d.blocks.length ≤ 131072) (hm : ∀ b ∈ d.blocks, b.term.succs.length ≤ 131072) :
    Calls Try.prog 13 #[.agg d.cells.toArray] w fun e w' => ∃ A c, e = .returned (.agg #[.slice A d.blocks.length c]) ∧ RdL w' A c d.graph ∧ Below w.heap.size w w' := by
  obtain ⟨A, hA⟩ : ∃ A, d.blocksA = A := ⟨_, rfl⟩
  have HBl : Hid (RdN w 7 (.slice A d.blocks.length d.blocksc) (d.blocks.map BkD.cells)) := hide (by rw [← hA]; exact hd.blocks)
  have HX := hide hd
  have HM := hide hm
  have HN := hide hn
  obtain ⟨q, hq⟩ : ∃ q, w.heap.size = q := ⟨_, rfl⟩
  obtain ⟨w1, hw1⟩ : ∃ z, ((w.alloc (.cells d.cells.toArray 27)).alloc (.cells #[.slice none 0 0] 33)).alloc (.cells #[.slice none 0 0] 33) = z := ⟨_, rfl⟩
  have HB : Hid (Below w.heap.size w w1) := hide (by rw [← hw1]; exact (((Below.refl _ _).alloc (Nat.le_refl _) _).alloc (by simp) _).alloc (by simp; omega) _)
  have HA : Hid (Whole w1 q 27 d.cells.toArray) := hide (by rw [← hw1, ← hq]; exact ((Whole.new w _ _).alloc _).alloc _)
  have HZ : Hid (Whole w1 (q + 1) 33 #[.slice none 0 0]) := hide (by
    rw [← hw1, ← hq, show w.heap.size + 1 = (w.alloc (.cells d.cells.toArray 27)).heap.size by simp]; exact (Whole.new _ _ _).alloc _)
  have HG : Hid (Whole w1 (q + 1 + 1) 33 #[.slice none 0 0]) := hide (by
    rw [← hw1, ← hq, show w.heap.size + 1 + 1 = ((w.alloc (.cells d.cells.toArray 27)).alloc (.cells #[.slice none 0 0] 33)).heap.size by simp]; exact Whole.new _ _ _)
  have hqs : Hid (q + 3 = w1.heap.size) := hide (by rw [← hw1, ← hq]; simp)
  have hQ : Hid (w.heap.size = q) := hide hq
  have c4 : w1.cell? ⟨q, 4, none⟩ = some (.slice A d.blocks.length d.blocksc) := by rw [← hA]; exact HA.out.cell 4
  have hcap : d.blocksc ≤ 9223372036854775807 := by have h := hd.blocks.room.2; unfold maxLen at h; omega
  have cz : w1.cell? ⟨q + 1 + 1, 0, none⟩ = some (.slice none 0 0) := HG.out.cell 0
  have fz : w1.frozen? ⟨q + 1 + 1, 0, none⟩ = false := HG.out.free 0
  clear hd hm hn hA
  go_enter Try.func13, Try.ntmps13
  go_upto_region 2 with fail
  clear hw1 hq
  obtain ⟨w2, hw2⟩ : ∃ z, w1.setCell ⟨q + 1 + 1, 0, none⟩ (.slice none 0 0) = z := ⟨_, rfl⟩
  have HG2 : Hid (Whole w2 (q + 1 + 1) 33 #[.slice none 0 0]) := hide (by rw [← hw2]; exact HG.out.set 0 _)
  have HZ2 : Hid (Whole w2 (q + 1) 33 #[.slice none 0 0]) := hide (by rw [← hw2]; exact HZ.out.far (fun e => by simp only [] at e; omega) _)
  have c4' : w2.cell? ⟨q, 4, none⟩ = some (.slice A d.blocks.length d.blocksc) := by
    have := (HA.out.far (p := ⟨q + 1 + 1, 0, none⟩) (fun e => by simp only [] at e; omega) (.slice none 0 0)).cell 4
    rw [hw2] at this
    exact this.trans ((HA.out.cell 4).symm.trans c4)
  have HB2 : Hid (Below w.heap.size w w2) := hide (by rw [← hw2]; exact HB.out.setCell (by show w.heap.size ≤ q + 1 + 1; have := hQ.out; omega) _)
  have HS2 : Hid (q + 3 = w2.heap.size) := hide (by rw [← hw2, hqs.out]; simp)
  rw [hw2]
  clear hw2 HG HZ HA HB c4 cz fz hqs
  have hu := Try.underlying54
  have hi : (Try.prog.info? 54).map (·.size) = some 7 := by kernel_rfl
  have hi2 : (Try.prog.info? 56).map (·.size) = some 2 := by kernel_rfl
  have hig : (Try.prog.info? 33).map (·.size) = some 1 := by kernel_rfl
  have HU := hide hu
  have HI := hide hi
  have HU2 := hide Try.underlying56
  have HI2 := hide hi2
  have HIG := hide hig
  have HUG := hide Try.underlying33
  have hn1 : d.blocks.length ≤ 131072 := HN.out
  clear hu hi hi2 hig
  go_wp2_with fail
  clear c4'
  go_loopw [13] (fun z wr => ∃ (a : Nat) (v : Value) (R : List Value), a ≤ d.blocks.length ∧ z = .int .i64 a ∧ Hid (AccL wr (q + 3) v R (d.graph.take a)) ∧ Hid (Whole wr (q + 1 + 1) 33 #[v]) ∧ Hid (Whole wr (q + 1) 33 #[.slice none 0 0]) ∧ Hid (Below w.heap.size w wr ∧ q + 3 ≤ wr.heap.size)) (fun z _ => d.blocks.length - (intOf z).toNat)
  case atStart => exact ⟨0, _, [], Nat.zero_le _, rfl, hide AccL.nil, HG2, HZ2, hide ⟨HB2.out, Nat.le_of_eq HS2.out⟩⟩
  case round =>
    clear HG2 HZ2 HB2 HS2
    obtain ⟨wq, rfl⟩ : ∃ x, x = wr := ⟨_, rfl⟩
    obtain ⟨a, v, R, ha, rfl, hL, hG, hZ, hb⟩ := hrel
    by_cases hlt : a < d.blocks.length
    · obtain ⟨b, hb0⟩ : ∃ b, d.blocks[a]? = some b := ⟨_, List.getElem?_eq_getElem hlt⟩
      obtain ⟨bb, off, rfl, hlb, hrow⟩ := (HBl.out.below' hb.out.1).row (i := a) (r := b.cells) (by rw [List.getElem?_map, hb0]; rfl)
      have HRow : Hid (wq.rangeAt bb (off + a * 7) b.cells) := hide hrow
      have HB0 := hide hb0
      have hml : b.term.succs.length ≤ 131072 := HM.out b (List.mem_of_getElem? hb0)
      clear hb0 hrow hlb
      go_upto_region 4 with fail
      refine wp_region_lit ?_
      go_step; go_step; go_step
      refine wpList_load_mid (by rfl) _ _ rfl bb (off + a * 7) (by rfl) b.cells _ HRow.out HU.out rfl HI.out ?_
      go_step; go_step; go_step
      refine wpList_store_new (by rfl) _ _ _ rfl _ _ b.cells (by rfl) (by rfl) (by rfl) HI.out BkD.all1' ?_
      obtain ⟨bv, hbv⟩ : ∃ bv, wq.heap.size = bv := ⟨_, rfl⟩
      rw [hbv]
      obtain ⟨w3, hw3⟩ : ∃ z, wq.alloc (.cells b.cells.toArray 54) = z := ⟨_, rfl⟩
      have b13 : Below wq.heap.size wq w3 := by rw [← hw3]; exact (Below.refl _ _).alloc (Nat.le_refl _) _
      have A3 : Whole w3 bv 54 b.cells.toArray := by rw [← hw3, ← hbv]; exact Whole.new wq _ _
      rw [hw3]
      obtain ⟨SA, hSA⟩ : ∃ SA, b.term.succsA = SA := ⟨_, rfl⟩
      have c5 : w3.cell? ⟨bv, 5, none⟩ = some (.slice SA b.term.succs.length b.term.succsc) := by rw [← hSA]; exact A3.cell 5
      replace hL := hide (hL.out.below b13)
      replace hG := hide (hG.out.below' b13)
      replace hZ := hide (hZ.out.below' b13)
      replace hb : Hid (Below w.heap.size w w3 ∧ q + 3 ≤ w3.heap.size) := hide ⟨Below.all hb.out.1 b13, Nat.le_trans hb.out.2 b13.size⟩
      have hbo := (HX.out.blocksO b (List.mem_of_getElem? HB0.out)).term
      have HSu : Hid (RdN w 2 (.slice SA b.term.succs.length b.term.succsc) (b.term.succs.map EdD.cells)) := hide (by rw [← hSA]; exact hbo.succs)
      have hsc : b.term.succsc ≤ 9223372036854775807 := by have h := HSu.out.room.2; unfold maxLen at h; omega
      clear hw3 b13 A3 HRow hSA hbo hbv
      go_wp2_with fail
      clear c5
      go_loopw [6, 21] (fun p z wr => ∃ j : Nat, j ≤ b.term.succs.length ∧ z = .int .i64 j ∧ Hid (Own wr w3.heap.size 3 .i64 p (b.out.take j)) ∧ Hid (Below w3.heap.size w3 wr)) (fun _ z _ => b.term.succs.length - (intOf z).toNat)
      case atStart => exact ⟨0, Nat.zero_le _, rfl, hide Own.nil, hide (Below.refl _ _)⟩
      case round =>
        obtain ⟨wp, rfl⟩ : ∃ x, x = wr := ⟨_, rfl⟩
        obtain ⟨j, hj, rfl, hO, hb3⟩ := hrel
        obtain ⟨p, rfl⟩ : ∃ x, x = u6 := ⟨_, rfl⟩
        by_cases hlt2 : j < b.term.succs.length
        · obtain ⟨e, he0⟩ : ∃ e, b.term.succs[j]? = some e := ⟨_, List.getElem?_eq_getElem hlt2⟩
          have hbw := hide (Below.all hb.out.1 hb3.out)
          obtain ⟨b2, off2, rfl, hlb, hrow⟩ := (HSu.out.below' hbw.out).row (i := j) (r := e.cells) (by rw [List.getElem?_map, he0]; rfl)
          have HRow : Hid (wp.rangeAt b2 (off2 + j * 2) e.cells) := hide hrow
          have hnx : b.out.take (j + 1) = b.out.take j ++ [e.blk] := by
            have h1 := BkD.out_at he0
            rw [List.take_succ_eq_append_getElem (List.getElem?_eq_some_iff.1 h1).1, (List.getElem?_eq_some_iff.1 h1).2]
          have HNX := hide hnx
          clear he0 hlb hrow hnx
          go_upto_region 8 with fail
          refine wp_region_lit ?_
          go_step; go_step; go_step
          refine wpList_load_mid (by rfl) _ _ rfl b2 (off2 + j * 2) (by rfl) e.cells _ HRow.out HU2.out rfl HI2.out ?_
          go_step; go_step; go_step
          refine wpList_store_new (by rfl) _ _ _ rfl _ _ e.cells (by rfl) (by rfl) (by rfl) HI2.out EdD.all1' ?_
          obtain ⟨ev, hev⟩ : ∃ ev, wp.heap.size = ev := ⟨_, rfl⟩
          rw [hev]
          obtain ⟨w5, hw5⟩ : ∃ z, wp.alloc (.cells e.cells.toArray 56) = z := ⟨_, rfl⟩
          have b15 : Below wp.heap.size wp w5 := by rw [← hw5]; exact (Below.refl _ _).alloc (Nat.le_refl _) _
          have A5 : Whole w5 ev 56 e.cells.toArray := by rw [← hw5, ← hev]; exact Whole.new wp _ _
          rw [hw5]
          have c0 : w5.cell? ⟨ev, 0, none⟩ = some (.int .i64 e.blk) := A5.cell 0
          have hal : Below w5.heap.size w5 (w5.alloc (.cells #[.int .i64 e.blk] 3)) := (Below.refl _ _).alloc (Nat.le_refl _) _
          have HO5 := hide ((hO.out.below' b15).below' hal)
          have hb5 := hide (Below.all hb3.out b15)
          have hb6 := hide (Below.all hb5.out hal)
          have hs5 : w3.heap.size ≤ (w5.alloc (.cells #[.int .i64 e.blk] 3)).heap.size := hb6.out.size
          have hlen : (b.out.take j).length ≤ 131072 := by rw [List.length_take, b.out_len]; omega
          clear hw5 b15 A5 HRow hO hb3 hev hal
          go_wp2_with (refine wpList_append_rd _ rfl _ _ 22 rfl w3.heap.size 3 .i64 8 intEI _ _ rfl HO5.out _ [e.blk] rfl (rd_one _ _ _) ?b0 ?b1 hs5 ?_)
          case b0 => simp only [List.length_singleton]; omega
          case b1 => simp only [List.length_singleton]; unfold maxLen; omega
          rintro v' w' ho hg hbl -
          have HO6 := hide ho
          have hbl2 : Below w3.heap.size (w5.alloc (.cells #[.int .i64 e.blk] 3)) w' := hbl
          have hb7 := hide (hb6.out.trans hbl2)
          clear ho hg hbl hbl2 c0 hs5
          go_wp2_with fail
          go_roundw
          case rel => exact ⟨j + 1, by omega, by go_num, hide (by rw [HNX.out]; exact HO6.out), hb7⟩
          case measure => simp [intOf]; omega
        · have hjl : b.out.take j = b.out := List.take_of_length_le (by rw [b.out_len]; omega)
          rw [hjl] at hO
          have HJ := hide hlt2
          obtain ⟨Ap, cp, ep, -⟩ := id hO.out.rd
          subst ep
          have hnx : d.graph.take (a + 1) = d.graph.take a ++ [b.out] := by
            have h1 := FnD.graph_at HB0.out
            rw [List.take_succ_eq_append_getElem (List.getElem?_eq_some_iff.1 h1).1, (List.getElem?_eq_some_iff.1 h1).2]
          have HNX := hide hnx
          have hRl : R.length ≤ 131072 := by rw [hL.out.len, List.length_take, d.graph_len]; omega
          have cg : wp.cell? ⟨q + 1 + 1, 0, none⟩ = some v := (hG.out.below' hb3.out).cell 0
          have hal : Below wp.heap.size wp (wp.alloc (.cells #[Value.slice Ap b.out.length cp] 22)) := (Below.refl _ _).alloc (Nat.le_refl _) _
          have hbv3 := hide (Below.all hb3.out hal)
          have HL6 := hide (hL.out.below hbv3.out)
          have HG6 := hide (hG.out.below' hbv3.out)
          have HZ6 := hide (hZ.out.below' hbv3.out)
          have hb6 : Hid (Below w.heap.size w (wp.alloc (.cells #[Value.slice Ap b.out.length cp] 22)) ∧ q + 3 ≤ (wp.alloc (.cells #[Value.slice Ap b.out.length cp] 22)).heap.size) := hide ⟨Below.all hb.out.1 hbv3.out, Nat.le_trans hb.out.2 hbv3.out.size⟩
          have hs6 : q + 3 ≤ (wp.alloc (.cells #[Value.slice Ap b.out.length cp] 22)).heap.size := hb6.out.2
          have HU6 := hide ((hO.out.low hb.out.2).below' hal)
          have HUA : Hid (∀ g, (Value.slice Ap b.out.length cp).ownBlock = some g → v.ownBlock ≠ some g) := hide (fun g hg hg2 => by
            have h1 := (hO.out.size g hg).1
            have h2 := (hL.out.own.size g hg2).2
            omega)
          have HOne : Hid (∀ x ∈ [Value.slice Ap b.out.length cp], x.oneCell' = true) := hide (fun x hx => by
            rw [List.mem_singleton.1 hx]
            rfl)
          clear hjl hlt2 hnx hal hL hG hZ hb hO hb3
          go_wp2_with (refine wpList_append_v _ rfl _ _ 31 rfl (q + 3) 22 (.slice none 0 0) 24 rowsV v R rfl HL6.out.own _ [Value.slice Ap b.out.length cp] rfl (rdv_one _ _ _) HOne.out ?b2 ?b3 hs6 ?_)
          case b2 => simp only [List.length_singleton]; omega
          case b3 => simp only [List.length_singleton]; unfold maxLen; omega
          rintro v' w' ho hf hv
          obtain ⟨A7, c7, e7, -⟩ := id ho.rd
          subst e7
          rw [List.length_append, List.length_singleton] at ho hv
          have HG7 := hide (HG6.out.frm hf (fun hg => by
            have := (HL6.out.own.size (q + 1 + 1) (by simpa using hg)).1
            omega))
          have HZ7 := hide (HZ6.out.frm hf (fun hg => by
            have := (HL6.out.own.size (q + 1) (by simpa using hg)).1
            omega))
          have HA7 := hide (HL6.out.push HU6.out HUA.out ho hf (by rw [World.size_alloc]; exact hv))
          have HB7 : Hid (Below w.heap.size w w' ∧ q + 3 ≤ w'.heap.size) := hide ⟨hb6.out.1.trans (hf.toBelow (fun g hg => by
            have := (HL6.out.own.size g (by simpa using hg)).1
            have := hQ.out
            omega) (by have := hb6.out.1.size; exact this)), Nat.le_trans hs6 hf.size⟩
          have cz : w'.cell? ⟨q + 1 + 1, 0, none⟩ = some v := HG7.out.cell 0
          have fz : w'.frozen? ⟨q + 1 + 1, 0, none⟩ = false := HG7.out.free 0
          have f8 : Frm w' (w'.setCell ⟨q + 1 + 1, 0, none⟩ (.slice A7 (R.length + 1) c7)) [q + 1 + 1] := (Frm.refl w' [q + 1 + 1]).setCell _ _ (.inl (by simp))
          have HA8 := hide (HA7.out.far f8 (fun g hg => by rw [List.mem_singleton.1 hg]; omega))
          have HG8 := hide (HG7.out.set 0 (.slice A7 (R.length + 1) c7))
          have HZ8 := hide (HZ7.out.frm f8 (by simp))
          have HB8 : Hid (Below w.heap.size w (w'.setCell ⟨q + 1 + 1, 0, none⟩ (.slice A7 (R.length + 1) c7)) ∧ q + 3 ≤ (w'.setCell ⟨q + 1 + 1, 0, none⟩ (.slice A7 (R.length + 1) c7)).heap.size) := hide ⟨HB7.out.1.setCell (by show w.heap.size ≤ q + 1 + 1; have := hQ.out; omega) _, Nat.le_trans HB7.out.2 f8.size⟩
          clear ho hf hv f8 cg hs6 HG7 HZ7 HA7 HB7
          go_wp2_with fail
          go_roundw
          case rel => exact ⟨a + 1, _, R ++ [Value.slice Ap b.out.length cp], by omega, by go_num, hide (by rw [HNX.out]; exact HA8.out), HG8, HZ8, HB8⟩
          case measure => simp [intOf]; omega
    · have hal : d.graph.take a = d.graph := List.take_of_length_le (by rw [d.graph_len]; omega)
      rw [hal] at hL
      obtain ⟨A9, c9, e9, -⟩ := hL.out.rd
      rw [d.graph_len] at e9
      subst e9
      have cg := hG.out.cell 0
      have cz : wq.cell? ⟨q + 1, 0, none⟩ = some (.slice none 0 0) := hZ.out.cell 0
      have fz : wq.frozen? ⟨q + 1, 0, none⟩ = false := hZ.out.free 0
      have f8 : Frm wq (wq.setCell ⟨q + 1, 0, none⟩ (.slice A9 d.blocks.length c9)) [q + 1] := (Frm.refl wq [q + 1]).setCell _ _ (.inl (by simp))
      have HA8 := hide (hL.out.far f8 (fun g hg => by rw [List.mem_singleton.1 hg]; omega))
      have HZ8 := hide (hZ.out.set 0 (.slice A9 d.blocks.length c9))
      have HB8 : Hid (Below w.heap.size w (wq.setCell ⟨q + 1, 0, none⟩ (.slice A9 d.blocks.length c9))) := hide (hb.out.1.setCell (by show w.heap.size ≤ q + 1; have := hQ.out; omega) _)
      clear hal f8 hL hG hZ hb
      go_wp2_with fail
      obtain ⟨A8, c8, e8, hrd⟩ := HA8.out.rd
      injection e8 with e8 _ e10
      subst e8 e10
      have c8 := HZ8.out.cell 0
      refine bodyPost_ret (v := .agg #[.slice A9 d.blocks.length c9]) ?_ rfl ⟨A9, c9, rfl, hrd, HB8.out⟩
      simp [results, Try.f13, asAddr, go_sem, cz]
end Go.Proofs.Ythnehmfdadgklaa

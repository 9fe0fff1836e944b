import Derived.Test.YtcenbpjkndhlgaaState
import Derived.Test.YtcenbpjkndhlgaaOpenN
namespace Go.Proofs.Ytcenbpjkndhlgaa
open Go.RowKit Go.Maps

theorem keeps_big (v : Value) (xs : List Value) (w : World) (hv : RdV w v xs) (h : 40 < xs.length) :
    Calls Try.prog 4 #[v] w (LawDone w) := by
  obtain ⟨A, c, rfl, hc, hm, _⟩ := hv
  have hc9 : c ≤ 9223372036854775807 := by unfold maxLen at hm; omega
  go_enter Try.func4, Try.ntmps4
  go_wp2_with fail
  refine (awake_any w).mono ?_
  rintro en w' ⟨rfl, hB⟩
  go_wp2_with fail
  go_ret
  exact ⟨rfl, hB⟩

set_option maxRecDepth 100000 in
theorem keeps_small (v : Value) (ps : List (Value × List Int)) (w : World) (hv : RdV w v (ps.map (·.1))) (hps : ∀ p ∈ ps, Rd w .u8 p.1 p.2 ∧ Byt p.2) (h : ps.length ≤ 40) :
    Calls Try.prog 4 #[v] w (LawDone w) := by
  obtain ⟨A, c, rfl, hc, hm, hr⟩ := hv
  have hc9 : c ≤ 9223372036854775807 := by unfold maxLen at hm; omega
  rw [List.length_map] at hc hr ⊢
  have HPS := hide hps
  clear hps
  go_enter Try.func4, Try.ntmps4
  go_wp2_with fail
  refine (new_any _ w).mono ?_
  rintro en w0 ⟨rfl, ht0, hf0⟩
  have e0 : clamp (ps.length : Int) = ps.length := by unfold clamp; rw [if_neg (by omega), if_neg (by omega)]
  rw [e0] at ht0
  have hS0 : St w0 w.heap.size [w.heap.size, w.heap.size + 1] ps.length [] (.slice none 0 0) := ⟨ht0, OwnV.nil, fun _ _ h => (by cases h), Keys.nil, fun _ h => (by cases h)⟩
  have HS0 := hide hS0
  have hB0 : Below w.heap.size w w0 := hf0.toBelow (fun _ h => (by cases h)) (Nat.le_refl _)
  have HB0 := hide hB0
  clear e0 ht0 hf0 hS0 hB0
  go_wp2_with fail
  go_loopw [4, 29] (fun kv i wr => ∃ (k : Nat) (ks : List (List Int)) (F : List Nat), k ≤ ps.length ∧ i = .int .i64 k ∧ ks.length ≤ k ∧ St wr w.heap.size F ps.length ks kv ∧ Below w.heap.size w wr) (fun _ i _ => ps.length - (intOf i).toNat)
  case atStart => exact ⟨0, [], _, Nat.zero_le _, rfl, Nat.zero_le _, HS0.out, HB0.out⟩
  case round =>
    clear HS0 HB0
    obtain ⟨wo, rfl⟩ : ∃ x, x = wr := ⟨_, rfl⟩
    obtain ⟨k, ks, F, hk, rfl, hkl, hS, hB⟩ := hrel
    have HS := hide hS
    have HB := hide hB
    have hsz := hB.size
    clear hS hB
    by_cases hlt : k < ps.length
    · obtain ⟨⟨lv, l⟩, hp⟩ : ∃ p, ps[k]? = some p := ⟨_, List.getElem?_eq_getElem hlt⟩
      obtain ⟨b, off, rfl, hbl, hcell⟩ := hr (by omega)
      have ck := (HB.out.cell (p := ⟨b, off + k, none⟩) hbl).trans (hcell k lv (by rw [List.getElem?_map, hp]; rfl))
      have hpm : Rd w .u8 lv l ∧ Byt l := HPS.out _ (List.mem_of_getElem? hp)
      obtain ⟨hlr, hlby⟩ := hpm
      have HLB := hide hlby
      have HLR := hide (hlr.below HB.out (Nat.le_refl _))
      have HCELL := hide hcell
      obtain ⟨A2, c2, rfl, hc2, hm2, _⟩ := id hlr
      have hc29 : c2 ≤ 9223372036854775807 := by unfold maxLen at hm2; omega
      have ik : (k : Int) < ps.length := by omega
      have HLR0 := hide hlr
      clear hr hcell hp hlr hlby
      by_cases hbig : 200 < l.length
      · go_wp2_with fail
        refine (awake_any wo).mono ?_
        rintro en w' ⟨rfl, hB'⟩
        go_wp2_with fail
        go_ret
        exact ⟨rfl, HB.out.trans (hB'.mono hsz)⟩
      · have hsm : ¬ ((200 : Int) < l.length) := by omega
        go_wp2_with (at_builtin; refine wpList_append_rd _ rfl _ _ 29 rfl wo.heap.size 5 .u8 1 bytesE _ [] rfl (ownI_empty wo _ _ _ (Nat.le_refl _)) _ l rfl (HLR.out.alloc _) ?b1 ?b2 (by simp) ?_)
        case b1 => omega
        case b2 => omega
        have HFL := hide HS.out.1.lt
        have HKL := hide HS.out.2.1.size
        intro bv w1 hob _ hb1 _
        have hb1' : Below wo.heap.size wo w1 := ((Below.refl _ wo).alloc (Nat.le_refl _) _).trans hb1
        have HS1 := hide (HS.out.below hb1')
        have HOB := hide (show Own w1 wo.heap.size 5 .u8 bv l from hob)
        have HB1 := hide (HB.out.trans (hb1'.mono hsz))
        have HLR1 := hide (HLR.out.below' hb1')
        clear hob hb1 hb1' HS HB HLR
        have hroom := addOut_room (n := ps.length) (ks := ks) l (by omega)
        go_wp2_with fail
        refine (add_any w1 _ F _ ks HS1.out.1 HS1.out.2.2.2.1 bv l HOB.out.rd HLB.out (by omega)).mono ?_
        rintro en w2 ⟨rfl, F2, ht2, hf2, hsub2⟩
        have hks2 := addOut_keys (n := ps.length) HS1.out.2.2.2.1 HLB.out (by omega)
        obtain ⟨hkv2, hap2⟩ := HS1.out.added ht2 hf2 hsub2
        have HOB2 := hide (HOB.out.toV.frm hf2 (fun g hg hF => by have h1 := (HFL.out g hF).2; have h2 := (HOB.out.size g hg).1; omega)).toI
        have hB2 := HB1.out.trans (hf2.toBelow (fun g hg => (HFL.out g hg).1) HB1.out.size)
        have hs12 := hf2.size
        have HLR2 := hide (HLR0.out.below hB2 (Nat.le_refl _))
        by_cases hm : l ∈ ks
        · rw [if_pos hm] at hroom
          rw [hroom] at ht2 hks2 ⊢
          obtain ⟨p, hp0, hplt, hpl⟩ := pos_get hm
          rw [hp0]
          have t1 : ((p : Int) == (ks.length : Int)) = false := by rw [beq_eq_false_iff_ne]; omega
          have t2 : decide ((p : Int) < 0) = false := decide_eq_false (by omega)
          have t3 : decide ((p : Int) > (ks.length : Int)) = false := decide_eq_false (by omega)
          have t4 : decide ((ks.length : Int) < (p : Int)) = false := decide_eq_false (by omega)
          have t5 : decide (ks.length < p) = false := decide_eq_false (by omega)
          obtain ⟨Ak, ck9, rfl, hck1, hck2, _⟩ := id hkv2.rd
          have hck9 : ck9 ≤ 9223372036854775807 := by unfold maxLen at hck2; omega
          have hlen : (strs ks).length = ks.length := by simp [strs]
          have HS3 := hide (show St w2 w.heap.size F2 ps.length ks (.slice Ak (strs ks).length ck9) from ⟨ht2, hkv2, hap2, hks2, HS1.out.2.2.2.2⟩)
          rw [hlen] at HS3 hck1 HKL ⊢
          obtain ⟨F3, rfl⟩ : ∃ x, x = F2 := ⟨_, rfl⟩
          obtain ⟨ks3, rfl⟩ : ∃ x, x = ks := ⟨_, rfl⟩
          obtain ⟨w3, rfl⟩ : ∃ x, x = w2 := ⟨_, rfl⟩
          have hdis : ∀ g, bv.ownBlock = some g → g ∉ F3 ∧ (Value.slice Ak ks3.length ck9).ownBlock ≠ some g := fun g hg => by
            have h1 := HOB.out.size g hg
            refine ⟨fun hF => ?_, fun e => ?_⟩
            · rcases hsub2 g hF with h | h
              · have := (HFL.out g h).2; omega
              · omega
            · have := (HKL.out g e).2; omega
          have HOB3 := HOB2
          have HB3 := hide hB2
          have hs3 := hB2.size
          clear hf2 hsub2 hkv2 hap2 hroom ht2 hB2 hks2 hm
          have hgb9 : ∀ g, bv.ownBlock = some g → w.heap.size ≤ g := fun g hg => Nat.le_trans hsz (HOB.out.size g hg).1
          obtain ⟨Ab, cb, rfl, hcb, hmb, _⟩ := id HOB3.out.rd
          have hcb9 : cb ≤ 9223372036854775807 := by unfold maxLen at hmb; omega
          clear HOB HOB2 HS1 HB1 HFL
          go_wp2_with fail
          go_loopw [75] (fun i wq => ∃ (j : Nat) (m : List Int), j ≤ l.length ∧ i = .int .i64 j ∧ m.length = l.length ∧ Own wq wo.heap.size 5 .u8 (.slice Ab l.length cb) m ∧ Frm w3 wq (Value.slice Ab l.length cb).ownBlock.toList) (fun i _ => l.length - (intOf i).toNat)
          case atStart => exact ⟨0, l, Nat.zero_le _, rfl, rfl, HOB3.out, Frm.refl _ _⟩
          case round =>
            obtain ⟨j, m, hj, rfl, hml, hom, hfm⟩ := hrel
            by_cases hjl : j < l.length
            · obtain ⟨gb, rfl⟩ : ∃ gb, Ab = some ⟨gb, 0, none⟩ := by
                obtain ⟨gb, cap, e, _⟩ := hom.form (by omega)
                injection e with e _ _
                exact ⟨gb, e⟩
              obtain ⟨x, hx⟩ : ∃ x, m[j]? = some x := ⟨_, List.getElem?_eq_getElem (by omega)⟩
              have cx := hom.cellAt hx
              have fx := hom.freeAt j
              have hjl' : (j : Int) < l.length := by omega
              have HOM := hide (And.intro hom hfm)
              clear hom hfm hx
              go_wp2_with fail
              go_roundw
              case rel => exact ⟨j + 1, m.set j _, by omega, by go_num, by rw [List.length_set]; exact hml, HOM.out.1.set j _, HOM.out.2.setCell _ _ (.inl (by simp [Value.ownBlock]))⟩
              case measure => simp [intOf]; omega
            · obtain rfl : j = l.length := by omega
              obtain ⟨wq, rfl⟩ : ∃ x, x = wr := ⟨_, rfl⟩
              have hS4 := HS3.out.frm hfm (fun g hg => hdis g (by simpa using hg))
              have HS4 := hide hS4
              have HB4 := hide (HB3.out.trans ((hfm.toBelow (fun g hg => hgb9 g (by simpa using hg)) hs3)))
              have hs4 := HB4.out.size
              clear hom hfm hS4
              go_wp2_with fail
              refine (key_in wq _ F3 _ ks3 HS4.out.1 HS4.out.2.2.2.1 p l hpl (by unfold maxLen; omega)).mono ?_
              rintro en w5 ⟨cap5, rfl, hb5, hf5, hs5, hm5⟩
              have HS5 := hide (HS4.out.below (hf5.toBelow (fun _ h => (by cases h)) (Nat.le_refl _)))
              have HB5 := hide (HB4.out.trans (hf5.toBelow (fun _ h => (by cases h)) hs4))
              have HBUF := hide hb5
              have hcap59 : cap5 ≤ 9223372036854775807 := by unfold maxLen at hm5; omega
              clear hb5 hf5
              go_wp2_with fail
              go_loopw [90] (fun i wz => ∃ (j : Nat) (m : List Int), j ≤ l.length ∧ i = .int .i64 j ∧ m.length = l.length ∧ Buf wz (.slice (some ⟨wq.heap.size, 0, none⟩) l.length cap5) m ∧ Frm w5 wz [wq.heap.size]) (fun i _ => l.length - (intOf i).toNat)
              case atStart => exact ⟨0, l, Nat.zero_le _, rfl, rfl, HBUF.out, Frm.refl _ _⟩
              case round =>
                obtain ⟨j, m, hj, rfl, hml, hom, hfm⟩ := hrel
                by_cases hjl : j < l.length
                · obtain ⟨x, hx⟩ : ∃ x, m[j]? = some x := ⟨_, List.getElem?_eq_getElem (by omega)⟩
                  have cx := hom.cellAt hx
                  have fx := hom.freeAt (j := j) (by omega)
                  have hjl' : (j : Int) < l.length := by omega
                  have HOM := hide (And.intro hom hfm)
                  clear hom hfm hx
                  go_wp2_with fail
                  go_roundw
                  case rel => exact ⟨j + 1, m.set j 0, by omega, by go_num, by rw [List.length_set]; exact hml, HOM.out.1.set j 0, HOM.out.2.setCell _ _ (.inl (by simp))⟩
                  case measure => simp [intOf]; omega
                · obtain rfl : j = l.length := by omega
                  have HS6 := hide (HS5.out.frm hfm (fun g hg => by
                    obtain rfl : g = wq.heap.size := by simpa using hg
                    exact ⟨fun hF => by have := (HS4.out.1.lt _ hF).2; omega, fun e => by have := (HS4.out.2.1.size _ e).2; omega⟩))
                  have HB6 := hide (HB5.out.trans (hfm.toBelow (fun g hg => by
                    obtain rfl : g = wq.heap.size := by simpa using hg
                    exact hs4) (Nat.le_trans hs4 (Nat.le_of_lt hs5))))
                  clear hom hfm
                  go_wp2_with fail
                  go_roundw
                  case rel => exact ⟨k + 1, ks3, F3, by omega, by go_num, by omega, HS6.out, HB6.out⟩
                  case measure => simp [intOf]; omega
        · rw [if_neg hm] at hroom
          rw [hroom] at ht2 hks2 ⊢
          have hconv := run_convert_rd (P := Try.prog) w2 29 9 5 Try.underlying29 Try.underlying5 Try.underlying9 HLR2.out
          obtain ⟨Ak, ck8, rfl, hck1, hck2, _⟩ := id hkv2.rd
          have hck8 : ck8 ≤ 9223372036854775807 := by unfold maxLen at hck2; omega
          have hlen : (strs ks).length = ks.length := by simp [strs]
          have HKV := hide (show OwnV w2 w.heap.size 9 (.slice Ak ks.length ck8) (strs ks) from hlen ▸ hkv2)
          rw [hlen] at HKL
          have HT2 := hide (And.intro ht2 (And.intro hks2 (And.intro hap2 (And.intro HS1.out.2.2.2.2 hsub2))))
          have HB2 := hide hB2
          have h60 := HS1.out.2.2.2.1.len
          rw [hlen] at hck1 ⊢
          clear hkv2 ht2 hks2 hap2 hsub2 hB2 hf2 hroom
          go_wp2_with (at_builtin; refine wpList_append_v _ rfl _ _ 41 rfl w.heap.size 9 _ 16 strE (.slice Ak ks.length ck8) (strs ks) rfl (HKV.out.alloc _) _ [.string (strOfNums l)] rfl (rdv_one _ _ _) ?hone ?hby ?hml ?hbs ?_)
          case hone => intro x hx; rw [List.mem_singleton] at hx; subst hx; rfl
          case hby => simp only [List.length_cons, List.length_nil, hlen]; omega
          case hml => unfold maxLen; simp only [List.length_cons, List.length_nil, hlen]; omega
          case hbs => have := HB2.out.size; rw [World.size_alloc]; omega
          intro kv3 w3 hkv3 hfk hlk
          rw [strs_snoc] at hkv3
          have hfa : Frm w2 w3 (Value.slice Ak ks.length ck8).ownBlock.toList := ((Frm.refl w2 _).alloc _).trans' hfk (fun _ h => .inl h)
          obtain ⟨ht2, hks2, hap2, h200, hsub2⟩ := HT2.out
          have hap2' : ∀ g ∈ F2, (Value.slice Ak ks.length ck8).ownBlock ≠ some g := by rw [← hlen]; exact hap2
          have HS3' : St w3 w.heap.size F2 ps.length (ks ++ [l]) kv3 := ⟨ht2.frm hfa (fun g hg h => hap2' g hg (by simpa using h)), hkv3, fun g hg e => (by
            rcases hlk with h | h
            · exact hap2' g hg (h ▸ e)
            · have := (ht2.lt g hg).2
              rw [h] at e
              injection e with e
              omega), hks2, fun q hq => (by
            rcases List.mem_append.1 hq with h | h
            · exact h200 q h
            · rw [List.mem_singleton] at h; subst h; omega)⟩
          have hdis0 : ∀ g, bv.ownBlock = some g → g ∉ F2 ∧ kv3.ownBlock ≠ some g := fun g hg => by
            have h1 := HOB.out.size g hg
            refine ⟨fun hF => ?_, fun e => ?_⟩
            · rcases hsub2 g hF with h | h
              · have := (HFL.out g h).2; omega
              · omega
            · rcases hlk with h | h
              · have := (HKL.out g (h ▸ e)).2; omega
              · rw [h] at e
                injection e with e
                omega
          obtain ⟨Ak3, ck9, rfl, hck31, hck32, _⟩ := id hkv3.rd
          have hck9 : ck9 ≤ 9223372036854775807 := by unfold maxLen at hck32; omega
          have hlen3 : (strs (ks ++ [l])).length = ks.length + 1 := by simp [strs]
          have hpl : (ks ++ [l])[ks.length]? = some l := by simp
          have HS3 := hide HS3'
          rw [hlen3] at HS3 hdis0 hck31 ⊢
          have hdis := hide hdis0
          have hlen4 : (ks ++ [l]).length = ks.length + 1 := by simp
          obtain ⟨F3, rfl⟩ : ∃ x, x = F2 := ⟨_, rfl⟩
          obtain ⟨ks3, hks3⟩ : ∃ x, x = ks ++ [l] := ⟨_, rfl⟩
          rw [← hks3] at HS3 hpl hlen4
          have HOB3 := hide (HOB2.out.toV.frm hfa (fun g hg h => by
            have h1 := HOB.out.size g hg
            have h2 := (HKL.out g (by simpa using h)).2
            omega)).toI
          have hB3 : Below w.heap.size w w3 := HB2.out.trans (hfa.toBelow (fun g hg => (HKL.out g (by simpa using hg)).1) HB2.out.size)
          have HB3 := hide hB3
          have hs3 := hB3.size
          clear hkv3 hfk hlk hfa ht2 hks2 hap2 hap2' h200 hsub2 HS3' hdis0 hks3 hB3 HT2 HB2 HKV HKL hconv HLR2 hm hlen hlen3
          have hgb9 : ∀ g, bv.ownBlock = some g → w.heap.size ≤ g := fun g hg => Nat.le_trans hsz (HOB.out.size g hg).1
          obtain ⟨Ab, cb, rfl, hcb, hmb, _⟩ := id HOB3.out.rd
          have hcb9 : cb ≤ 9223372036854775807 := by unfold maxLen at hmb; omega
          clear HOB HOB2 HS1 HB1 HFL
          go_wp2_with fail
          go_loopw [75] (fun i wq => ∃ (j : Nat) (m : List Int), j ≤ l.length ∧ i = .int .i64 j ∧ m.length = l.length ∧ Own wq wo.heap.size 5 .u8 (.slice Ab l.length cb) m ∧ Frm w3 wq (Value.slice Ab l.length cb).ownBlock.toList) (fun i _ => l.length - (intOf i).toNat)
          case atStart => exact ⟨0, l, Nat.zero_le _, rfl, rfl, HOB3.out, Frm.refl _ _⟩
          case round =>
            obtain ⟨j, m, hj, rfl, hml, hom, hfm⟩ := hrel
            by_cases hjl : j < l.length
            · obtain ⟨gb, rfl⟩ : ∃ gb, Ab = some ⟨gb, 0, none⟩ := by
                obtain ⟨gb, cap, e, _⟩ := hom.form (by omega)
                injection e with e _ _
                exact ⟨gb, e⟩
              obtain ⟨x, hx⟩ : ∃ x, m[j]? = some x := ⟨_, List.getElem?_eq_getElem (by omega)⟩
              have cx := hom.cellAt hx
              have fx := hom.freeAt j
              have hjl' : (j : Int) < l.length := by omega
              have HOM := hide (And.intro hom hfm)
              clear hom hfm hx
              go_wp2_with fail
              go_roundw
              case rel => exact ⟨j + 1, m.set j _, by omega, by go_num, by rw [List.length_set]; exact hml, HOM.out.1.set j _, HOM.out.2.setCell _ _ (.inl (by simp [Value.ownBlock]))⟩
              case measure => simp [intOf]; omega
            · obtain rfl : j = l.length := by omega
              obtain ⟨wq, rfl⟩ : ∃ x, x = wr := ⟨_, rfl⟩
              have hS4 := HS3.out.frm hfm (fun g hg => hdis.out g (by simpa using hg))
              have HS4 := hide hS4
              have HB4 := hide (HB3.out.trans ((hfm.toBelow (fun g hg => hgb9 g (by simpa using hg)) hs3)))
              have hs4 := HB4.out.size
              clear hom hfm hS4
              go_wp2_with fail
              refine (key_in wq _ F3 _ ks3 HS4.out.1 HS4.out.2.2.2.1 ks.length l hpl (by unfold maxLen; omega)).mono ?_
              rintro en w5 ⟨cap5, rfl, hb5, hf5, hs5, hm5⟩
              have HS5 := hide (HS4.out.below (hf5.toBelow (fun _ h => (by cases h)) (Nat.le_refl _)))
              have HB5 := hide (HB4.out.trans (hf5.toBelow (fun _ h => (by cases h)) hs4))
              have HBUF := hide hb5
              have hcap59 : cap5 ≤ 9223372036854775807 := by unfold maxLen at hm5; omega
              clear hb5 hf5
              go_wp2_with fail
              go_loopw [90] (fun i wz => ∃ (j : Nat) (m : List Int), j ≤ l.length ∧ i = .int .i64 j ∧ m.length = l.length ∧ Buf wz (.slice (some ⟨wq.heap.size, 0, none⟩) l.length cap5) m ∧ Frm w5 wz [wq.heap.size]) (fun i _ => l.length - (intOf i).toNat)
              case atStart => exact ⟨0, l, Nat.zero_le _, rfl, rfl, HBUF.out, Frm.refl _ _⟩
              case round =>
                obtain ⟨j, m, hj, rfl, hml, hom, hfm⟩ := hrel
                by_cases hjl : j < l.length
                · obtain ⟨x, hx⟩ : ∃ x, m[j]? = some x := ⟨_, List.getElem?_eq_getElem (by omega)⟩
                  have cx := hom.cellAt hx
                  have fx := hom.freeAt (j := j) (by omega)
                  have hjl' : (j : Int) < l.length := by omega
                  have HOM := hide (And.intro hom hfm)
                  clear hom hfm hx
                  go_wp2_with fail
                  go_roundw
                  case rel => exact ⟨j + 1, m.set j 0, by omega, by go_num, by rw [List.length_set]; exact hml, HOM.out.1.set j 0, HOM.out.2.setCell _ _ (.inl (by simp))⟩
                  case measure => simp [intOf]; omega
                · obtain rfl : j = l.length := by omega
                  have HS6 := hide (HS5.out.frm hfm (fun g hg => by
                    obtain rfl : g = wq.heap.size := by simpa using hg
                    exact ⟨fun hF => by have := (HS4.out.1.lt _ hF).2; omega, fun e => by have := (HS4.out.2.1.size _ e).2; omega⟩))
                  have HB6 := hide (HB5.out.trans (hfm.toBelow (fun g hg => by
                    obtain rfl : g = wq.heap.size := by simpa using hg
                    exact hs4) (Nat.le_trans hs4 (Nat.le_of_lt hs5))))
                  clear hom hfm
                  go_wp2_with fail
                  go_roundw
                  case rel => exact ⟨k + 1, ks3, F3, by omega, by go_num, by omega, HS6.out, HB6.out⟩
                  case measure => simp [intOf]; omega
    · obtain rfl : k = ps.length := by omega
      have hSo := HS.out
      obtain ⟨Ak, ck9, rfl, hck1, hck2, _⟩ := id hSo.2.1.rd
      have hlen : (strs ks).length = ks.length := by simp [strs]
      have hck9 : ck9 ≤ 9223372036854775807 := by unfold maxLen at hck2; omega
      rw [hlen] at hSo hck1 ⊢
      have HS1 := hide hSo
      have hk40 : ks.length ≤ 40 := by omega
      clear hSo HS hr HPS
      go_wp2_with fail
      go_loopw [100] (fun i wz => ∃ j : Nat, j ≤ ks.length ∧ i = .int .i64 j ∧ St wz w.heap.size F ps.length ks (.slice Ak ks.length ck9) ∧ Below w.heap.size w wz) (fun i _ => ks.length - (intOf i).toNat)
      case atStart => exact ⟨0, Nat.zero_le _, rfl, HS1.out, HB.out⟩
      case round =>
        obtain ⟨wq, rfl⟩ : ∃ x, x = wr := ⟨_, rfl⟩
        obtain ⟨j, hj, rfl, hS, hB⟩ := hrel
        have HS2 := hide hS
        have HB2 := hide hB
        clear hS hB HS1 HB
        by_cases hjl : j < ks.length
        · obtain ⟨l, hl⟩ : ∃ l, ks[j]? = some l := ⟨_, List.getElem?_eq_getElem hjl⟩
          have hls : (strs ks)[j]? = some (.string (strOfNums l)) := by unfold strs; rw [List.getElem?_map, hl]; rfl
          obtain ⟨gk, off, rfl, hgl, hcell⟩ := HS2.out.2.1.rd.at j _ hls
          have hlm := List.mem_of_getElem? hl
          have hlb := HS2.out.2.2.2.1.byt l hlm
          have hl200 := HS2.out.2.2.2.2 l hlm
          have hjl' : (j : Int) < ks.length := by omega
          obtain ⟨cap, w1, hrun, hbuf, hf1, hs1, hcm⟩ := run_bytes_buf (P := Try.prog) wq 9 29 5 l hlb (by unfold maxLen; omega) Try.underlying9 Try.underlying29 Try.underlying5
          have hcap9 : cap ≤ 9223372036854775807 := by unfold maxLen at hcm; omega
          have hb1 : Below wq.heap.size wq w1 := hf1.toBelow (fun _ h => (by cases h)) (Nat.le_refl _)
          have HS3 := hide (HS2.out.below hb1)
          have HB3 := hide (HB2.out.trans (hb1.mono HB2.out.size))
          have hpos : pos ks l = j := by
            unfold pos
            rw [if_pos hlm]
            have := HS2.out.2.2.2.1.nodup.idxOf_getElem j hjl
            rw [List.getElem?_eq_getElem hjl] at hl
            injection hl with hl
            rw [hl] at this
            rw [this]
          have HF := hide (find_tbl w1 _ F _ ks HS3.out.1 HS3.out.2.2.2.1 _ l hbuf.rd hlb)
          rw [hpos, decide_eq_true hlm] at HF
          have HL := hide (And.intro hl (And.intro hlb hl200))
          clear hl hls hlm hlb hbuf hf1 hb1 hpos HS2 HB2
          go_wp2_with fail
          refine HF.out.mono ?_
          rintro en w2 ⟨rfl, hf2⟩
          have HS4 := hide (HS3.out.below (hf2.toBelow (fun _ h => (by cases h)) (Nat.le_refl _)))
          have HB4 := hide (HB3.out.trans (hf2.toBelow (fun _ h => (by cases h)) HB3.out.size))
          clear hf2 HF HS3 HB3
          go_wp2_with fail
          refine (key_in w2 _ F _ ks HS4.out.1 HS4.out.2.2.2.1 j l HL.out.1 (by have := HL.out.2.2; unfold maxLen; omega)).mono ?_
          rintro en w3 ⟨cap3, rfl, hb3, hf3, hs3, hm3⟩
          have HS5 := hide (HS4.out.below (hf3.toBelow (fun _ h => (by cases h)) (Nat.le_refl _)))
          have HB5 := hide (HB4.out.trans (hf3.toBelow (fun _ h => (by cases h)) HB4.out.size))
          have hconv := run_convert_rd (P := Try.prog) w3 29 9 5 Try.underlying29 Try.underlying5 Try.underlying9 hb3.rd
          clear hb3 hf3 HS4 HB4
          go_wp2_with fail
          go_roundw
          case rel => exact ⟨j + 1, by omega, by go_num, HS5.out, HB5.out⟩
          case measure => simp [intOf]; omega
        · obtain rfl : j = ks.length := by omega
          go_wp2_with fail
          refine (awake_any wq).mono ?_
          rintro en w2 ⟨rfl, hb2⟩
          have HS3 := hide (HS2.out.below hb2)
          have HB3 := hide (HB2.out.trans (hb2.mono HB2.out.size))
          clear hb2
          go_wp2_with fail
          refine (len_tbl w2 _ F _ ks HS3.out.1).mono ?_
          rintro en w3 ⟨rfl, rfl⟩
          go_wp2_with fail
          go_ret
          exact ⟨rfl, HB3.out⟩
end Go.Proofs.Ytcenbpjkndhlgaa

import Derived.Test.YtcenbpjkndhlgaaRefAdd
import Derived.Test.YtcenbpjkndhlgaaOpenN
namespace Go.Proofs.Ytcenbpjkndhlgaa
open Go.RowKit Go.Maps

/-- A step: its kind, its number, its key as a value and as bytes. -/
structure Sp where
  kind : Int
  n : Int
  v : Value
  key : List Int
def Sp.row (s : Sp) : List Value := [.int .i64 s.kind, .int .i64 s.n, s.v]

theorem small_any (v : Value) (ss : List Sp) (w : World) (hv : RdN w 3 v (ss.map Sp.row)) (hs : ∀ s ∈ ss, Rd w .u8 s.v s.key) :
    Calls Try.prog 5 #[v] w fun en w' => ∃ ok : Bool, en = .returned (.bool ok) ∧ (ok = true → ss.length ≤ 80 ∧ ∀ s ∈ ss, s.key.length ≤ 200) ∧ Below w.heap.size w w' := by
  obtain ⟨_, A, c, rfl, hc, hm, hr⟩ := hv
  have hc9 : c ≤ 9223372036854775807 := by unfold maxLen at hm; omega
  rw [List.length_map] at hc hr ⊢
  by_cases hbig : 80 < ss.length
  · clear hr hs
    go_enter Try.func5, Try.ntmps5
    go_wp2_with fail
    go_ret
    exact ⟨false, rfl, fun h => (by cases h), Below.refl _ _⟩
  · have hb' : ¬ ((80 : Int) < ss.length) := by omega
    have HR := hide hr
    have HS := hide hs
    clear hr hs
    go_enter Try.func5, Try.ntmps5
    go_wp2_with fail
    go_loopw [10] (fun i wr => ∃ k : Nat, k ≤ ss.length ∧ i = .int .i64 k ∧ Below w.heap.size w wr ∧ ∀ s ∈ ss.take k, s.key.length ≤ 200) (fun i _ => ss.length - (intOf i).toNat)
    case atStart => exact ⟨0, Nat.zero_le _, rfl, Below.refl _ _, fun _ h => (by simp at h)⟩
    case round =>
      obtain ⟨wq, rfl⟩ : ∃ x, x = wr := ⟨_, rfl⟩
      obtain ⟨k, hk, rfl, hB, hall⟩ := hrel
      have hsz := hB.size
      by_cases hlt : k < ss.length
      · obtain ⟨s, hsk⟩ : ∃ s, ss[k]? = some s := ⟨_, List.getElem?_eq_getElem hlt⟩
        obtain ⟨b, off, rfl, hbl, hcell⟩ := HR.out (by omega)
        have hrow : (ss.map Sp.row)[k]? = some s.row := by rw [List.getElem?_map, hsk]; rfl
        have k0 : wq.cell? ⟨b, off + k * 3, none⟩ = some (.int .i64 s.kind) := (hB.cell (p := ⟨b, off + (k * 3 + 0), none⟩) hbl).trans (hcell k 0 _ _ hrow rfl)
        have k1 : wq.cell? ⟨b, off + k * 3 + 1, none⟩ = some (.int .i64 s.n) := (hB.cell (p := ⟨b, off + (k * 3 + 1), none⟩) hbl).trans (hcell k 1 _ _ hrow rfl)
        have k2 : wq.cell? ⟨b, off + k * 3 + 2, none⟩ = some (s.v) := (hB.cell (p := ⟨b, off + (k * 3 + 2), none⟩) hbl).trans (hcell k 2 _ _ hrow rfl)
        obtain ⟨A2, c2, hsv, hc2, hm2, _⟩ := HS.out s (List.mem_of_getElem? hsk)
        have hc29 : c2 ≤ 9223372036854775807 := by unfold maxLen at hm2; omega
        rw [hsv] at k2
        have HSK := hide hsk
        have HB := hide hB
        have HALL := hide hall
        have hlt' : (k : Int) < ss.length := by omega
        clear hcell hrow hB hall hsk hsv
        by_cases h2 : 200 < s.key.length
        · have t2 : (200 : Int) < s.key.length := by omega
          go_wp2_with fail
          go_ret
          exact ⟨false, rfl, fun h => (by cases h), HB.out.alloc hsz _⟩
        · have t2 : ¬ ((200 : Int) < s.key.length) := by omega
          go_wp2_with fail
          go_roundw
          case rel =>
            refine ⟨k + 1, by omega, by go_num, HB.out.alloc hsz _, ?_⟩
            intro s' hs'
            rw [List.take_add_one, HSK.out] at hs'
            rcases List.mem_append.1 hs' with h | h
            · exact HALL.out s' h
            · simp at h; subst h; omega
          case measure => simp [intOf]; omega
      · obtain rfl : k = ss.length := by omega
        have HB := hide hB
        have HALL := hide hall
        clear hB hall
        go_wp2_with fail
        go_ret
        refine ⟨true, rfl, fun _ => ⟨by omega, ?_⟩, HB.out⟩
        have := HALL.out
        rwa [List.take_length] at this

theorem addOut_mem {n : Int} {ks : List (List Int)} {l q : List Int} (h : q ∈ (addOut n ks l).2) : q ∈ ks ∨ q = l := by
  unfold addOut at h
  split at h
  · exact .inl h
  · split at h
    · exact .inl h
    · rcases List.mem_append.1 h with h | h
      · exact .inl h
      · exact .inr (by simpa using h)

/-- Both tables, with the same keys, apart from each other. -/
def Two (w : World) (B g : Nat) (F G : List Nat) (n : Int) (ks : List (List Int)) : Prop := TblAt w B F n ks ∧ RefAt w g G n ks ∧ (∀ x ∈ F, x ∉ G) ∧ Keys ks
theorem Two.frm {w w' : World} {B g : Nat} {F G : List Nat} {n : Int} {ks : List (List Int)} (h : Two w B g F G n ks) (hf : Frm w w' []) : Two w' B g F G n ks :=
  ⟨h.1.frm hf (fun _ _ => by simp), h.2.1.frm hf (fun _ _ => by simp), h.2.2⟩

theorem Two.ref {w w' : World} {B g : Nat} {F G : List Nat} {n : Int} {ks : List (List Int)} (h : Two w B g F G n ks) (hf : Frm w w' F) : RefAt w' g G n ks := h.2.1.frm hf (fun x hx hF => h.2.2.1 x hF hx)
theorem Two.add {w4 w5 w6 : World} {B g : Nat} {F G F' G' : List Nat} {n : Int} {ks ks' : List (List Int)} (h : Two w4 B g F G n ks) (t5 : TblAt w5 B F' n ks') (f5 : Frm w4 w5 F) (s5 : ∀ x ∈ F', x ∈ F ∨ w4.heap.size ≤ x)
    (r6 : RefAt w6 g G' n ks') (f6 : Frm w5 w6 G) (s6 : ∀ x ∈ G', x ∈ G ∨ w5.heap.size ≤ x) (hk : Keys ks') : Two w6 B g F' G' n ks' := by
  have dis : ∀ x ∈ F', x ∉ G := fun x hx hG => by
    rcases s5 x hx with h1 | h1
    · exact h.2.2.1 x h1 hG
    · have := (h.2.1.lt x hG).2; omega
  refine ⟨t5.frm f6 dis, r6, fun x hx hG => ?_, hk⟩
  rcases s6 x hG with h1 | h1
  · exact dis x hx h1
  · have := (t5.lt x hx).2; omega

set_option maxHeartbeats 2000000 in
set_option maxRecDepth 100000 in
theorem runs_any (n : Int) (v : Value) (ss : List Sp) (w : World) (hv : RdN w 3 v (ss.map Sp.row)) (hs : ∀ s ∈ ss, Rd w .u8 s.v s.key ∧ Byt s.key) :
    Calls Try.prog 3 #[.int .i64 n, v] w (LawDone w) := by
  have HSM := hide (small_any v ss w hv (fun s h => (hs s h).1))
  have HS := hide hs
  obtain ⟨_, A, c, rfl, hc, hm, hr⟩ := hv
  have hc9 : c ≤ 9223372036854775807 := by unfold maxLen at hm; omega
  rw [List.length_map] at hc hr HSM ⊢
  have HR := hide hr
  clear hr hs
  go_enter Try.func3, Try.ntmps3
  go_wp2_with fail
  refine HSM.out.mono ?_
  rintro en w0 ⟨ok, rfl, hok, hb0⟩
  cases ok with
  | false =>
    go_wp2_with fail
    refine (awake_any w0).mono ?_
    rintro en w1 ⟨rfl, hb1⟩
    go_wp2_with fail
    go_ret
    exact ⟨rfl, hb0.trans (hb1.mono hb0.size)⟩
  | true =>
    obtain ⟨h80, hk200⟩ := hok rfl
    have HK200 := hide hk200
    have hs0 := hb0.size
    clear hok hk200 HSM
    go_wp2_with fail
    refine (new_any n w0).mono ?_
    rintro en w1 ⟨rfl, ht1, hf1⟩
    have hs1 := hf1.size
    go_wp2_with fail
    refine (rnew_any n w1).mono ?_
    rintro en w2 ⟨rfl, hr2, hf2⟩
    have hs2 := hf2.size
    have hT2 : Two w2 w0.heap.size w1.heap.size [w0.heap.size, w0.heap.size + 1] [w1.heap.size] (clamp n) [] := by
      refine ⟨ht1.frm hf2 (fun _ _ => by simp), hr2, fun x hx h => ?_, Keys.nil⟩
      have := (ht1.lt x hx).2
      rw [List.mem_singleton] at h
      omega
    have hb2 : Below w.heap.size w w2 := hb0.trans ((hf1.toBelow (fun _ h => (by cases h)) hs0).trans (hf2.toBelow (fun _ h => (by cases h)) (by omega)))
    clear ht1 hf1 hr2 hf2 hb0
    have HT2 := hide hT2
    have HB2 := hide hb2
    clear hT2 hb2
    go_wp2_with fail
    refine (awake_any w2).mono ?_
    rintro en w3 ⟨rfl, hb3⟩
    have HT3 := hide (HT2.out.frm (Frm.below hb3))
    have HB3 := hide (HB2.out.trans (hb3.mono HB2.out.size))
    clear hb3 HT2 HB2
    go_wp2_with fail
    go_loopw [38] (fun i wr => ∃ (k : Nat) (ks : List (List Int)) (F G : List Nat), k ≤ ss.length ∧ i = .int .i64 k ∧ Two wr w0.heap.size w1.heap.size F G (clamp n) ks ∧ Below w.heap.size w wr ∧ ∀ q ∈ ks, q.length ≤ 200) (fun i _ => ss.length - (intOf i).toNat)
    case atStart => exact ⟨0, [], _, _, Nat.zero_le _, rfl, HT3.out, HB3.out, fun _ h => (by cases h)⟩
    case round =>
      obtain ⟨wq, rfl⟩ : ∃ x, x = wr := ⟨_, rfl⟩
      obtain ⟨k, ks, F, G, hk, rfl, hT, hB, hq200⟩ := hrel
      have HQ := hide hq200
      clear hq200
      have hsz := hB.size
      clear HT3 HB3
      by_cases hlt : k < ss.length
      · obtain ⟨s, hsk⟩ : ∃ s, ss[k]? = some s := ⟨_, List.getElem?_eq_getElem hlt⟩
        obtain ⟨b, off, rfl, hbl, hcell⟩ := HR.out (by omega)
        have hrow : (ss.map Sp.row)[k]? = some s.row := by rw [List.getElem?_map, hsk]; rfl
        have k0 : wq.cell? ⟨b, off + k * 3, none⟩ = some (.int .i64 s.kind) := (hB.cell (p := ⟨b, off + (k * 3 + 0), none⟩) hbl).trans (hcell k 0 _ _ hrow rfl)
        have k1 : wq.cell? ⟨b, off + k * 3 + 1, none⟩ = some (.int .i64 s.n) := (hB.cell (p := ⟨b, off + (k * 3 + 1), none⟩) hbl).trans (hcell k 1 _ _ hrow rfl)
        have k2 : wq.cell? ⟨b, off + k * 3 + 2, none⟩ = some s.v := (hB.cell (p := ⟨b, off + (k * 3 + 2), none⟩) hbl).trans (hcell k 2 _ _ hrow rfl)
        have hsm := List.mem_of_getElem? hsk
        obtain ⟨hrd, hby⟩ := HS.out s hsm
        have hl200 := HK200.out s hsm
        obtain ⟨kind, num, sv, l⟩ := s
        simp only at k0 k1 k2 hrd hby hl200
        obtain ⟨A2, c2, rfl, hc2, hm2, _⟩ := id hrd
        have hc29 : c2 ≤ 9223372036854775807 := by unfold maxLen at hm2; omega
        have hlt' : (k : Int) < ss.length := by omega
        have HRD := hide hrd
        have HBY := hide hby
        have hBx : Below w.heap.size w (wq.alloc (.cells #[.int .i64 kind, .int .i64 num, .slice A2 l.length c2] 31)) := hB.alloc hsz _
        have hTx := hT.frm ((Frm.refl wq []).alloc (.cells #[.int .i64 kind, .int .i64 num, .slice A2 l.length c2] 31))
        have HBX := hide hBx
        have HTX := hide hTx
        have hk9 := hT.2.2.2.len
        have HTQ := hide hT
        have HBQ := hide hB
        clear hcell hrow hsk hsm hrd hby hT hBx hTx hB
        have HRDX := hide (HRD.out.below HBX.out (Nat.le_refl _))
        by_cases e0 : kind = 0
        · subst e0
          have hE0 := ownI_empty (wq.alloc (.cells #[.int .i64 0, .int .i64 num, .slice A2 l.length c2] 31)) 5 .u8 (wq.heap.size + 1) (by rw [World.size_alloc]; exact Nat.le_refl _)
          rw [World.size_alloc] at hE0
          have HE0 := hide hE0
          clear hE0
          go_wp2_with (first | (go_at_call 9; refine (len_tbl _ _ _ _ _ HTX.out.1).mono ?_; rintro en w' ⟨rfl, rfl⟩) | (go_at_call 10; refine (rlen_any _ _ _ _ _ HTX.out.2.1).mono ?_; rintro en w' ⟨rfl, rfl⟩) | (at_builtin; refine wpList_append_rd _ rfl _ _ 29 rfl (wq.heap.size + 1) 5 .u8 1 bytesE _ [] rfl HE0.out _ l rfl (HRDX.out.alloc _) ?b1 ?b2 ?b3 ?_))
          case b1 => simp only [List.length_nil]; omega
          case b2 => unfold maxLen; simp only [List.length_nil]; omega
          case b3 => rw [World.size_alloc, World.size_alloc]; omega
          intro v' w4 ho4 _ hb4 _
          have hq4 : Below wq.heap.size wq w4 := (((Below.refl wq.heap.size wq).alloc (Nat.le_refl _) _).alloc (by rw [World.size_alloc]; exact Nat.le_succ _) _).trans (hb4.mono (Nat.le_succ _))
          have HT4 := hide (HTQ.out.frm (Frm.below hq4))
          have HB4 := hide (HBQ.out.trans (hq4.mono hsz))
          have HO4 := hide (show Own w4 (wq.heap.size + 1) 5 .u8 v' l from ho4)
          have hx4 : w4.cell? ⟨wq.heap.size, 2, none⟩ = some (.slice A2 l.length c2) := (hb4.cell (p := ⟨wq.heap.size, 2, none⟩) (Nat.lt_succ_self _)).trans (by
            rw [World.cell?_of_block (Below.heap_alloc _ _ _ (by rw [World.size_alloc]; exact Nat.lt_succ_self _))]
            simp [go_sem])
          have hFQ : wq.heap.size ∉ F := fun h => by have := (HTQ.out.1.lt _ h).2; omega
          have hw4 : wq.heap.size < w4.heap.size := Nat.lt_of_lt_of_le (by rw [World.size_alloc, World.size_alloc]; omega) hb4.size
          clear ho4 hb4 hq4 HE0 HTX HBX HRDX HTQ HBQ
          go_wp2_with fail
          refine (add_any w4 _ F _ ks HT4.out.1 HT4.out.2.2.2 v' l HO4.out.rd HBY.out (clamp_le n).2).mono ?_
          rintro en w5 ⟨rfl, F', t5, f5, s5⟩
          have hk5 := addOut_keys (n := clamp n) HT4.out.2.2.2 HBY.out (clamp_le n).2
          have hx5 := (f5.cell (p := ⟨wq.heap.size, 2, none⟩) hw4 hFQ).trans hx4
          have HB5 := hide (HB4.out.trans (f5.toBelow (fun x hx => Nat.le_trans hs0 (HT4.out.1.lt x hx).1) HB4.out.size))
          have HR5 := hide (HT4.out.ref f5)
          have H5 := hide (And.intro t5 (And.intro f5 (And.intro s5 hk5)))
          clear t5 f5 s5 hk5
          go_wp2_with fail
          refine (radd_any w5 _ G _ ks HR5.out HT4.out.2.2.2 _ l (HRD.out.below HB5.out (Nat.le_refl _)) HBY.out (clamp_le n).2).mono ?_
          rintro en w6 ⟨rfl, G', r6, f6, s6⟩
          have HT6 := hide (HT4.out.add H5.out.1 H5.out.2.1 H5.out.2.2.1 r6 f6 s6 H5.out.2.2.2)
          have HB6 := hide (HB5.out.trans (f6.toBelow (fun x hx => Nat.le_trans (Nat.le_trans hs0 hs1) (HT4.out.2.1.lt x hx).1) HB5.out.size))
          clear r6 f6 s6 H5 HR5 HB5 HT4 HB4 HO4
          go_wp2_with fail
          go_roundw
          case rel => exact ⟨k + 1, _, F', G', by omega, by go_num, HT6.out, HB6.out, fun q hq => (by
            rcases addOut_mem hq with h | h
            · exact HQ.out q h
            · subst h; exact hl200)⟩
          case measure => simp [intOf]; omega
        · have t0 : (kind == 0) = false := by simpa using e0
          by_cases e1 : kind = 1
          · subst e1
            go_wp2_with (first | (go_at_call 9; refine (len_tbl _ _ _ _ _ HTX.out.1).mono ?_; rintro en w' ⟨rfl, rfl⟩) | (go_at_call 10; refine (rlen_any _ _ _ _ _ HTX.out.2.1).mono ?_; rintro en w' ⟨rfl, rfl⟩))
            refine (find_tbl _ _ _ _ _ HTX.out.1 HTX.out.2.2.2 _ l HRDX.out HBY.out).mono ?_
            rintro en w4 ⟨rfl, f4⟩
            have HT4 := hide (HTX.out.frm f4)
            have HB4 := hide (HBX.out.trans (f4.toBelow (fun _ h => (by cases h)) HBX.out.size))
            have HX4 := hide ((HRD.out.below HB4.out (Nat.le_refl _)))
            have hx2 : w4.cell? ⟨wq.heap.size, 2, none⟩ = some (.slice A2 l.length c2) := (f4.cell (p := ⟨wq.heap.size, 2, none⟩) (by rw [World.size_alloc]; exact Nat.lt_succ_self _) (by simp)).trans (by simp [go_sem])
            clear f4 HTX HBX HRDX HTQ HBQ
            go_wp2_with fail
            refine (rfind_any w4 _ _ _ _ HT4.out.2.1 HT4.out.2.2.2 _ l HX4.out HBY.out).mono ?_
            rintro en w5 ⟨rfl, f5⟩
            have HT5 := hide (HT4.out.frm f5)
            have HB5 := hide (HB4.out.trans (f5.toBelow (fun _ h => (by cases h)) HB4.out.size))
            clear f5 HT4 HB4 HX4
            go_wp2_with fail
            go_roundw
            case rel => exact ⟨k + 1, ks, F, G, by omega, by go_num, HT5.out, HB5.out, HQ.out⟩
            case measure => simp [intOf]; omega
          · have t1 : (kind == 1) = false := by simpa using e1
            by_cases e2 : kind = 2
            · subst e2
              obtain ⟨wx, hwx⟩ : ∃ x, x = (wq.alloc (.cells #[.int .i64 2, .int .i64 num, .slice A2 l.length c2] 31)) := ⟨_, rfl⟩
              have x1 : wx.cell? ⟨wq.heap.size, 1, none⟩ = some (.int .i64 num) := by rw [hwx]; simp [go_sem]
              have hxs : wq.heap.size < wx.heap.size := by rw [hwx, World.size_alloc]; exact Nat.lt_succ_self _
              go_wp2_with (first | (go_at_call 9; refine (len_tbl _ _ _ _ _ HTX.out.1).mono ?_; rintro en w' ⟨rfl, rfl⟩) | (go_at_call 10; refine (rlen_any _ _ _ _ _ HTX.out.2.1).mono ?_; rintro en w' ⟨rfl, rfl⟩))
              rw [← hwx] at HTX HBX HRDX ⊢
              clear hwx
              have x1' : wx.drew.cell? ⟨wq.heap.size, 1, none⟩ = some (.int .i64 num) := x1
              by_cases hin : 0 ≤ num ∧ num < ks.length
              · obtain ⟨m, rfl⟩ : ∃ m : Nat, num = m := ⟨num.toNat, by omega⟩
                have hm : m < ks.length := by omega
                obtain ⟨q, hq⟩ : ∃ q, ks[m]? = some q := ⟨_, List.getElem?_eq_getElem hm⟩
                have hq64 : q.length ≤ maxLen := by have := HQ.out q (List.mem_of_getElem? hq); unfold maxLen; omega
                have HK1 := hide (fun (W : World) (h : Frm wx W []) => key_in W _ _ _ _ (HTX.out.frm h).1 HTX.out.2.2.2 m q hq hq64)
                have HK2 := hide (fun (W : World) (h : Frm wx W []) => rkey_in W _ _ _ _ (HTX.out.frm h).2.1 HTX.out.2.2.2 m q hq hq64)
                have HX1 := hide (fun (W : World) (h : Frm wx W []) => (h.cell (p := ⟨wq.heap.size, 1, none⟩) hxs (by simp)).trans x1)
                clear hq x1
                go_region_with (first | (go_at_call 15; refine (HK1.out _ (by first | exact hfb | exact Frm.drew _ _)).mono ?_; rintro en wa ⟨capa, rfl, ba, fa, sa, ma⟩; have hfa : Frm wx wa [] := (by first | exact hfb.trans fa | exact (Frm.drew _ _).trans fa); have ca1 := HX1.out wa hfa; first | (have hR1 := ba.rd; have hR2 := (bb.frm fa (fun _ _ => by simp)).rd; have hRF := hfa) | skip) | (go_at_call 16; refine (HK2.out _ (by first | exact hfa | exact Frm.drew _ _)).mono ?_; rintro en wb ⟨capb, rfl, bb, fb, sb, mb⟩; have hfb : Frm wx wb [] := (by first | exact hfa.trans fb | exact (Frm.drew _ _).trans fb); have cb1 := HX1.out wb hfb; first | (have hR2 := bb.rd; have hR1 := (ba.frm fb (fun _ _ => by simp)).rd; have hRF := hfb) | skip))
                all_goals (
                  have hdz : wx.drew.heap.size = wx.heap.size := rfl
                  simp only [hdz] at hR1 hR2
                  have hca9 : capa ≤ 9223372036854775807 := by unfold maxLen at ma; omega
                  have hcb9 : capb ≤ 9223372036854775807 := by unfold maxLen at mb; omega
                  have hcv1 := run_convert_rd (P := Try.prog) _ 29 9 5 Try.underlying29 Try.underlying5 Try.underlying9 hR1
                  have hcv2 := run_convert_rd (P := Try.prog) _ 29 9 5 Try.underlying29 Try.underlying5 Try.underlying9 hR2
                  have HZ := hide (And.intro (HTX.out.frm hRF) (HBX.out.trans (hRF.toBelow (fun _ h => (by cases h)) HBX.out.size)))
                  clear hR1 hR2 hRF ba fa sa ma hfa ca1 bb fb sb mb hfb cb1 HK1 HK2 HX1 HTX HBX HRDX HTQ HBQ k0 k1 k2 x1' hxs
                  go_wp2_with fail
                  go_roundw
                  · exact ⟨k + 1, ks, F, G, by omega, by go_num, HZ.out.1, HZ.out.2, HQ.out⟩
                  · simp [intOf]; omega)
              · have HK1 := hide (key_out wx.drew _ _ _ _ (HTX.out.frm (Frm.drew _ _)).1 num (by omega))
                have HK2 := hide (rkey_out wx.drew _ _ _ _ (HTX.out.frm (Frm.drew _ _)).2.1 num (by omega))
                go_region_with (first | (go_at_call 15; refine HK1.out.mono ?_; rintro en w' ⟨rfl, rfl⟩) | (go_at_call 16; refine HK2.out.mono ?_; rintro en w' ⟨rfl, rfl⟩))
                all_goals
                  have hc1 := run_convert_rd (P := Try.prog) wx.drew 29 9 5 Try.underlying29 Try.underlying5 Try.underlying9 (Rd.nil (k := .u8) (w := wx.drew))
                  go_wp2_with fail
                  go_roundw
                  · exact ⟨k + 1, ks, F, G, by omega, by go_num, HTX.out.frm (Frm.drew _ _), HBX.out.trans ((Frm.drew wx []).toBelow (fun _ h => (by cases h)) HBX.out.size), HQ.out⟩
                  · simp [intOf]; omega
            · have t2 : (kind == 2) = false := by simpa using e2
              go_wp2_with (first | (go_at_call 9; refine (len_tbl _ _ _ _ _ HTX.out.1).mono ?_; rintro en w' ⟨rfl, rfl⟩) | (go_at_call 10; refine (rlen_any _ _ _ _ _ HTX.out.2.1).mono ?_; rintro en w' ⟨rfl, rfl⟩))
              go_roundw
              case rel => exact ⟨k + 1, ks, F, G, by omega, by go_num, HTX.out, HBX.out, HQ.out⟩
              case measure => simp [intOf]; omega
      · obtain rfl : k = ss.length := by omega
        have HB := hide hB
        clear hB hT HK200 HS HR
        go_wp2_with fail
        go_ret
        exact ⟨rfl, HB.out⟩
end Go.Proofs.Ytcenbpjkndhlgaa

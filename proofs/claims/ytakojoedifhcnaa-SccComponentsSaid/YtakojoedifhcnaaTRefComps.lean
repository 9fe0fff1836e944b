/-
  Layer 7 (scc), the reference: Components and Index.
-/
import Derived.Test.YtakojoedifhcnaaTReady
import Derived.Test.YtakojoedifhcnaaTComps
namespace Go.Proofs.Ytakojoedifhcnaa
open Go.RowKit

theorem mem_part {n : Nat} {f : Nat → Nat} {c k : Nat} : (k : Int) ∈ part n f c ↔ k < n ∧ f k = c := by
  unfold part
  rw [List.mem_map]
  constructor
  · rintro ⟨x, hx, e⟩
    obtain rfl : x = k := by omega
    obtain ⟨h1, h2⟩ := List.mem_filter.1 hx
    exact ⟨List.mem_range.1 h1, by simpa using h2⟩
  · rintro ⟨h1, h2⟩
    exact ⟨k, List.mem_filter.2 ⟨List.mem_range.2 h1, by simpa using h2⟩, rfl⟩
section
variable {s : List (List Int)} {n : Nat} {num : Nat → Nat} {cnt : Nat} {lst : List Nat}
theorem comp_part (hok : okG s = true) (hp : Parts s cnt num) (hn : s.length = n) {i : Nat} (hi : i < n) : compTo (path1B s) i n = part n num (num i) := by
  unfold compTo part
  congr 1
  refine List.filter_congr fun x hx => ?_
  have hx := List.mem_range.1 hx
  exact compB_iff hok hp (by rw [hn]; exact hi) (by rw [hn]; exact hx)
theorem ready_yes (hn : s.length = n) {i : Nat} (h : ReadyR s num lst i) : readyB n (path1B s) (part n num (num i)) (fun x => decide (num x ∈ lst)) = true := by
  subst hn
  refine readyB_true fun z hz => ?_
  obtain ⟨j, hj⟩ := List.getElem?_of_mem hz
  obtain ⟨x, rfl, hx, hxi⟩ := part_mem (f := num) (k := num i) hj
  rw [Int.toNat_natCast]
  intro k hk hm
  rcases h x hx hxi k hk hm with c | c
  · exact .inl (mem_part.2 ⟨hk, c⟩)
  · exact .inr (by simpa using c)
theorem ready_no (hn : s.length = n) {i : Nat} (h : ¬ ReadyR s num lst i) : readyB n (path1B s) (part n num (num i)) (fun x => decide (num x ∈ lst)) = false := by
  subst hn
  unfold ReadyR at h
  simp only [Classical.not_forall, not_or] at h
  obtain ⟨x, hx, hxi, k, hk, hm, h1, h2⟩ := h
  exact readyB_false (x := x) (k := k) (mem_part.2 ⟨hx, hxi⟩) hk hm (fun c => h1 (mem_part.1 c).2) (by simpa using h2)
end

set_option maxRecDepth 100000 in
set_option maxHeartbeats 8000000 in
theorem rcomps_any (A : Option Addr) (c : Nat) (g : List (List Int)) (cnt : Nat) (num : Nat → Nat) (w : World) (hg : RdL w A c g) (hN : g.length ≤ 50) (hp : Parts (stray g) cnt num) :
    Calls Try.prog 10 #[.agg #[.slice A g.length c]] w fun en w' => (∃ sv R lst, en = .returned sv ∧ Lists (stray g) cnt num lst ∧ OwnG w' w.heap.size sv R (lst.map (part g.length num))) ∧ Below w.heap.size w w' := by
  have hc := hg.cap
  have hc9 : c ≤ 9223372036854775807 := by unfold maxLen at hc; omega
  obtain ⟨w1, hw1⟩ : ∃ x, w.alloc (.cells #[.slice A g.length c] 24) = x := ⟨_, rfl⟩
  have hx1 : w1.cell? ⟨w.heap.size, 0, none⟩ = some (.slice A g.length c) := by rw [← hw1]; simp [go_sem]
  have hB1 : Below w.heap.size w w1 := by rw [← hw1]; exact (Below.refl _ _).alloc (Nat.le_refl _) _
  have HB1 := hide hB1
  have h0 : ¬ (65536 : Int) < g.length := by omega
  have h0b : decide ((65536 : Int) < g.length) = false := decide_eq_false h0
  have HK := hide (paths_any A c g w1 (hg.below' hB1) (by omega))
  obtain ⟨s, hs⟩ : ∃ s, stray g = s := ⟨_, rfl⟩
  have hsl : s.length = g.length := by rw [← hs, stray_len]
  have HOKS : Hid (okG s = true) := hide (hs ▸ stray_ok g)
  rw [hs] at HK hp ⊢
  have HPT := hide hp
  clear hg hB1 hc hp hs
  go_enter Try.func10, Try.ntmps10
  go_wp2_with fail
  refine HK.out.mono ?_
  rintro en w2 ⟨⟨sv, rs, rfl, hrs, hM⟩, hb2⟩
  obtain ⟨As, cs, e0, hcs, hcm, -⟩ := hM.own.rd
  rw [rowsV_len, hrs] at hcs e0
  subst e0
  have hcs9 : cs ≤ 9223372036854775807 := by unfold maxLen at hcm; omega
  have HM := hide hM
  have HRS := hide hrs
  have HB2 : Hid (Below w.heap.size w w2) := hide (HB1.out.trans (hb2.mono HB1.out.size))
  have hmk := run_made w2 32 4 (.bool false) 1 Try.underlying32 infoBool rfl (by omega) g.length (by omega)
  obtain ⟨w3, h3⟩ : ∃ x, w2.alloc (.cells (madeCells #[.bool false] g.length) 4) = x := ⟨_, rfl⟩
  have HD3 : Hid (OwnV w3 w2.heap.size 4 (.slice (some ⟨w2.heap.size, 0, none⟩) g.length g.length) (bl g.length (fun x => decide (num x ∈ ([] : List Nat))))) := hide (by
    rw [bl_congr (h := fun _ => false) (fun i _ => by simp), bl_false, ← h3]
    exact own_madeV w2 4 (.bool false) g.length w2.heap.size (by unfold maxLen; omega) (Nat.le_refl _))
  have HB3 : Hid (Below w2.heap.size w2 w3) := hide (by rw [← h3]; exact (Below.refl _ _).alloc (Nat.le_refl _) _)
  have hs3 : w3.heap.size = w2.heap.size + 1 := by rw [← h3, World.size_alloc]
  clear hM hb2 hrs hcm hw1 hx1 HK
  go_wp2_with fail
  clear h3 hmk
  go_loopw [5, 6] (fun sv z wr => ∃ (lst : List Nat) (R : List Value), z = .int .i64 (done g.length num lst : Nat) ∧ Hid (Grd (cond s num cnt) lst) ∧ Hid (OwnG wr w3.heap.size sv R (lst.map (part g.length num))) ∧ Hid (OwnV wr w2.heap.size 4 (.slice (some ⟨w2.heap.size, 0, none⟩) g.length g.length) (bl g.length (fun x => decide (num x ∈ lst)))) ∧ Hid (Below w2.heap.size w2 wr) ∧ Hid (w3.heap.size ≤ wr.heap.size)) (fun _ z _ => g.length - (intOf z).toNat)
  case atStart => exact ⟨[], [], by rw [done_nil]; rfl, hide .nil, hide OwnG.nil, HD3, HB3, hide (Nat.le_refl _)⟩
  case round =>
    clear HD3 HB3
    obtain ⟨wq, rfl⟩ : ∃ x, x = wr := ⟨_, rfl⟩
    obtain ⟨lst, R, rfl, HG, HO, HD, HB, HSZ⟩ := hrel
    obtain ⟨Ao, co, e0, hco, hcom⟩ := HO.out.form
    subst e0
    rw [List.length_map] at hco HO ⊢
    have hco9 : co ≤ 9223372036854775807 := by unfold maxLen at hcom; omega
    have hdl := done_le (num := num) (lst := lst) g.length
    clear hcom
    by_cases hlt : done g.length num lst < g.length
    · have hlt' : (done g.length num lst : Int) < g.length := by omega
      have HEX : Hid (∃ i, i < g.length ∧ num i ∉ lst ∧ ReadyR s num lst i) := hide (by
        obtain ⟨x, hx, hn⟩ := done_lt hlt
        have := ready_node HOKS.out HPT.out HG.out (x := x) (by rw [hsl]; exact hx) hn
        rwa [hsl] at this)
      obtain ⟨dq, hdq⟩ : ∃ d, done g.length num lst = d := ⟨_, rfl⟩
      rw [hdq] at hlt hlt' hdl ⊢
      go_wp2_with fail
      go_loopw [5, 6, 7] (fun o sz z wr => ∃ i : Nat, i ≤ g.length ∧ z = .int .i64 (i : Nat) ∧ o = .slice Ao lst.length co ∧ sz = .int .i64 (dq : Nat) ∧ Hid (∀ y, y < i → num y ∈ lst ∨ ¬ ReadyR s num lst y) ∧ Hid (Below wq.heap.size wq wr)) (fun _ _ z _ => g.length - (intOf z).toNat)
      case atStart => exact ⟨0, Nat.zero_le _, rfl, rfl, rfl, hide (fun y hy => by omega), hide (Below.refl _ _)⟩
      case round =>
        obtain ⟨wp, rfl⟩ : ∃ x, x = wr := ⟨_, rfl⟩
        obtain ⟨i, hi, rfl, rfl, rfl, HNO, HBP⟩ := hrel
        by_cases hin : i < g.length
        · have hin' : (i : Int) < g.length := by omega
          have hDp := HD.out.below' HBP.out
          have cdn := hDp.cellAt (bl_get (fun x => decide (num x ∈ lst)) hin)
          have HDP := hide hDp
          have HBW := hide (HB.out.trans (HBP.out.mono HB.out.size))
          clear hDp
          cases hdi : decide (num i ∈ lst) with
          | true =>
            rw [hdi] at cdn
            have HN2 : Hid (∀ y, y < i + 1 → num y ∈ lst ∨ ¬ ReadyR s num lst y) := hide fun y hy => by
              by_cases e : y = i
              · subst e; exact .inl (of_decide_eq_true hdi)
              · exact HNO.out y (by omega)
            clear hdi
            go_wp2_with fail
            go_roundw
            case rel => exact ⟨i + 1, by omega, by go_num, rfl, rfl, HN2, HBP⟩
            case measure => simp [intOf]; omega
          | false =>
            rw [hdi] at cdn
            have HNI := hide (of_decide_eq_false hdi)
            have HKC := hide (rcomp_any As g.length cs w1.heap.size i rs (path1B s) wp (HM.out.still HBW.out) HRS.out hin (by omega))
            clear hdi
            go_wp2_with fail
            refine HKC.out.mono ?_
            rintro en w6 ⟨⟨pv, rfl, hpv⟩, hb6⟩
            rw [comp_part HOKS.out HPT.out hsl hin] at hpv
            obtain ⟨pt, hpt⟩ : ∃ pt, part g.length num (num i) = pt := ⟨_, rfl⟩
            have HPI : Hid (part g.length num (num i) = pt) := hide hpt
            rw [hpt] at hpv
            have hptl : pt.length ≤ 50 := by rw [← hpt]; have := part_lt (n := g.length) (f := num) (k := num i); omega
            have hpt0 : 0 < pt.length := by rw [← hpt]; exact part_pos hin
            have HPM : Hid (∀ z ∈ pt, ∃ x : Nat, z = x ∧ x < g.length) := hide (by
              intro z hz
              rw [← hpt] at hz
              obtain ⟨j, hj⟩ := List.getElem?_of_mem hz
              obtain ⟨x, h1, h2, -⟩ := part_mem (f := num) (k := num i) hj
              exact ⟨x, h1, h2⟩)
            have HPV := hide hpv
            have HB6 := hide (HBP.out.trans (hb6.mono HBP.out.size))
            have HD6 := hide (HDP.out.below' hb6)
            have hbw6 := HBW.out.trans (hb6.mono HBW.out.size)
            have HBW6 := hide hbw6
            have HKR := hide (ready_any As g.length cs w1.heap.size rs (path1B s) pv (.slice (some ⟨w2.heap.size, 0, none⟩) g.length g.length) pt (fun x => decide (num x ∈ lst)) w6 (HM.out.still hbw6) HRS.out hpv.rd HPM.out HD6.out.rd (by omega))
            obtain ⟨Ap, cp, e1, hcp, hcpm, -⟩ := hpv.rd
            have hcp9 : cp ≤ 9223372036854775807 := by unfold maxLen at hcpm; omega
            subst e1
            clear hb6 hbw6 hpv hcpm HKC cdn hpt
            go_wp2_with fail
            refine HKR.out.mono ?_
            rintro en w7 ⟨rfl, hb7⟩
            have HB7 := hide (HB6.out.trans (hb7.mono HB6.out.size))
            have HD7 := hide (HD6.out.below' hb7)
            have HPV7 := hide (HPV.out.below' hb7)
            have HBW7 := hide (HBW6.out.trans (hb7.mono HBW6.out.size))
            by_cases hr : ReadyR s num lst i
            · have HRY := hide (ready_yes hsl hr)
              rw [HPI.out] at HRY
              rw [HRY.out]
              have HGR := hide (ready_least HOKS.out HPT.out HG.out (by rw [hsl]; exact hin) HNI.out hr HNO.out)
              have HDS := hide (done_snoc (num := num) (lst := lst) g.length HNI.out)
              rw [HPI.out, hdq] at HDS
              have hPb : ∀ b, (Value.slice Ap pt.length cp).ownBlock = some b → w3.heap.size ≤ b ∧ wq.heap.size ≤ b := fun b hb => by
                have h1 := (HPV.out.size b hb).1
                have h2 := HBP.out.size
                have h3 := HSZ.out
                omega
              have HPB := hide hPb
              clear hr hb7 HKR HD6 HPV HB6 HBW6 hPb
              go_wp2_with fail
              go_loopw [44] (fun z wr => ∃ j : Nat, j ≤ pt.length ∧ z = .int .i64 (j : Nat) ∧ Hid (OwnV wr w2.heap.size 4 (.slice (some ⟨w2.heap.size, 0, none⟩) g.length g.length) (bl g.length (fun x => decide (num x ∈ lst) || decide ((x : Int) ∈ pt.take j)))) ∧ Hid (Frm w7 wr [w2.heap.size])) (fun z _ => pt.length - (intOf z).toNat)
              case atStart => exact ⟨0, Nat.zero_le _, rfl, hide (by
                have := HD7.out
                rwa [bl_congr (h := fun x => decide (num x ∈ lst) || decide ((x : Int) ∈ pt.take 0)) (fun i _ => by simp)] at this), hide (Frm.refl _ _)⟩
              case round =>
                obtain ⟨wo, rfl⟩ : ∃ x, x = wr := ⟨_, rfl⟩
                obtain ⟨j, hj, rfl, HDO, HFO⟩ := hrel
                have HPVO : Hid (Own wo wp.heap.size 3 .i64 (.slice Ap pt.length cp) pt) := hide (HPV7.out.frmS HFO.out (fun b hb hm => by
                  have h1 := (HPB.out b hb).1
                  rw [List.mem_singleton.1 hm] at h1
                  omega))
                by_cases hjl : j < pt.length
                · have hjl' : (j : Int) < pt.length := by omega
                  obtain ⟨z, hz⟩ : ∃ z, pt[j]? = some z := ⟨_, List.getElem?_eq_getElem hjl⟩
                  obtain ⟨y, rfl, hy⟩ := HPM.out z (List.mem_of_getElem? hz)
                  obtain ⟨b, off, rfl, -, cx⟩ := rd_at HPVO.out.rd hz
                  have hy' : (y : Int) < g.length := by omega
                  have fd := HDO.out.freeAt y
                  have cd := HDO.out.cellAt (bl_get (fun x => decide (num x ∈ lst) || decide ((x : Int) ∈ pt.take j)) hy)
                  have HMT := hide (fun x : Int => mem_take hz x)
                  have hset := HDO.out.set y (.bool true)
                  rw [bl_set (g := fun x => decide (num x ∈ lst) || decide ((x : Int) ∈ pt.take (j + 1))) (by rw [HMT.out]; simp) (fun i hi => by
                    rw [HMT.out, decide_eq_false (show ¬ ((i : Int) = (y : Int)) by omega), Bool.or_false])] at hset
                  have HS := hide hset
                  clear hset hz
                  go_wp2_with fail
                  go_roundw
                  case rel => exact ⟨j + 1, by omega, by go_num, HS, hide (HFO.out.setCell (p := ⟨w2.heap.size, y, none⟩) _ (.inl (by simp)))⟩
                  case measure => simp [intOf]; omega
                · obtain rfl : j = pt.length := by omega
                  have hdo := HDO.out
                  rw [bl_congr (h := fun x => decide (num x ∈ lst ++ [num i])) (fun x hx => by
                    rw [List.take_length, ← HPI.out, Bool.eq_iff_iff]
                    simp only [Bool.or_eq_true, decide_eq_true_eq, mem_part, List.mem_append, List.mem_singleton]
                    exact ⟨fun h => h.imp id (fun h => h.2), fun h => h.imp id (fun h => ⟨hx, h⟩)⟩)] at hdo
                  have HDN := hide hdo
                  have hll : lst.length ≤ 50 := by
                    have h1 := nodup_len (n := cnt) HG.out.nodup fun x hx => by have := HG.out.lt x hx; rwa [cond_len] at this
                    have h2 := HPT.out.le
                    omega
                  have hRl : R.length = lst.length := by rw [HO.out.len, List.length_map]
                  have HOO := hide (((HO.out.frm (Frm.below HB7.out))).far HFO.out (fun b hb => by rw [List.mem_singleton.1 hb]; omega))
                  have hws : w3.heap.size ≤ wo.heap.size := by have h1 := HSZ.out; have h2 := HB7.out.size; have h3 := HFO.out.size; omega
                  have hw1 : IntKind.i64.wrap ((dq : Int) + pt.length) = ((dq + pt.length : Nat) : Int) := by rw [show ((dq : Int) + pt.length) = ((dq + pt.length : Nat) : Int) by omega]; exact IntWalk.i64_in _ (by omega)
                  clear hdo HDO
                  go_wp2_with (first | (refine wpList_append_v _ rfl _ _ 22 rfl w3.heap.size 29 (.slice none 0 0) 24 intsV _ R rfl (HOO.out.own.alloc _) _ [.slice Ap pt.length cp] rfl (rdv_one wo 29 _) ?b0 ?b1 ?b2 ?b3 ?_))
                  case b0 => first | rfl | (intro y hy; rw [List.mem_singleton.1 hy]; rfl)
                  case b1 => (try simp only [List.length_singleton]); omega
                  case b2 => unfold maxLen; (try simp only [List.length_singleton]); omega
                  case b3 => (try rw [World.size_alloc]); omega
                  intro v' w8 ho8 hf8 hb8
                  replace ho8 : OwnV w8 w3.heap.size 29 v' (R ++ [.slice Ap pt.length cp]) := by rw [hs3]; exact ho8
                  have hbw : Below w3.heap.size wo (wo.alloc (.cells #[.slice Ap pt.length cp] 29)) := (Below.refl _ _).alloc hws _
                  have hG8 := (HOO.out.frm ((Frm.refl wo []).alloc (.cells #[.slice Ap pt.length cp] 29))).add (v := .slice Ap pt.length cp) (l := pt) hf8 ho8 ((HPVO.out.low (b := w3.heap.size) (by have h1 := HSZ.out; have h2 := HBP.out.size; omega)).alloc _) (hb8.imp id (fun h x hx => by rw [h] at hx; injection hx with hx; first | exact Nat.le_of_eq hx | (rw [World.size_alloc]; omega)))
                    (fun g' hg' hc => by have h1 := (HO.out.own.size g' hc).2; have h2 := (HPB.out g' hg').2; omega)
                    (fun q u g' hq hu hc => by
                      obtain ⟨lq, hlq⟩ : ∃ l, (lst.map (part g.length num))[q]? = some l := ⟨_, List.getElem?_eq_getElem (by rw [← HO.out.len]; exact (List.getElem?_eq_some_iff.1 hq).1)⟩
                      have h1 := ((HO.out.row q u lq hq hlq).size g' hu).2
                      have h2 := (HPB.out g' hc).2
                      omega)
                  have hD8 := (HDN.out.alloc (.cells #[.slice Ap pt.length cp] 29)).frm hf8 (fun b hb hm => by
                    have e : w2.heap.size = b := by simpa [Value.ownBlock] using hb
                    have h1 := (HO.out.own.size b (by simpa using hm)).1
                    omega)
                  have hb28 : Below w2.heap.size w2 w8 := ((HBW7.out.trans (HFO.out.toBelow (by simp) HBW7.out.size)).trans (hbw.mono (by omega) |>.mono (Nat.le_refl _))).trans (hf8.toBelow (fun b hb => by have h1 := (HO.out.own.size b (by simpa using hb)).1; omega) (by rw [World.size_alloc]; omega))
                  have hs8 : w3.heap.size ≤ w8.heap.size := by have := hf8.size; rw [World.size_alloc] at this; omega
                  have HZ := hide (And.intro hG8 (And.intro hD8 (And.intro hb28 hs8)))
                  have HGN : Hid ((lst ++ [num i]).map (part g.length num) = lst.map (part g.length num) ++ [pt]) := hide (by rw [List.map_append, List.map_cons, List.map_nil, HPI.out])
                  obtain ⟨Ao8, co8, e8, -, -⟩ := hG8.form
                  subst e8
                  clear hG8 hD8 hb28 hs8 ho8 hf8 hb8 hbw
                  go_wp2_with fail
                  go_roundw
                  case rel => exact ⟨lst ++ [num i], R ++ [_], by rw [HDS.out]; rfl, HGR, hide (by rw [HGN.out]; exact HZ.out.1), hide HZ.out.2.1, hide HZ.out.2.2.1, hide HZ.out.2.2.2⟩
                  case measure => simp [intOf]; omega
            · have HRY := hide (ready_no hsl hr)
              rw [HPI.out] at HRY
              rw [HRY.out]
              have HN2 : Hid (∀ y, y < i + 1 → num y ∈ lst ∨ ¬ ReadyR s num lst y) := hide fun y hy => by
                by_cases e : y = i
                · subst e; exact .inr hr
                · exact HNO.out y (by omega)
              clear hr hb7 HKR
              go_wp2_with fail
              go_roundw
              case rel => exact ⟨i + 1, by omega, by go_num, rfl, rfl, HN2, HB7⟩
              case measure => simp [intOf]; omega
        · obtain ⟨y, hy, hn, hr⟩ := HEX.out
          exact absurd (HNO.out y (by omega)) (fun h => h.elim hn (fun h => h hr))
    · have hdd : done g.length num lst = g.length := by omega
      have HLS := hide (Lists.ofDone HPT.out HG.out (by rw [hsl]; omega))
      have HZ := hide (And.intro (HO.out.low (b := w.heap.size) (by have := HB2.out.size; omega)) (HB2.out.trans (HB.out.mono HB2.out.size)))
      rw [hdd]
      clear hdd hlt HD HO HB
      go_wp2_with fail
      go_ret
      exact ⟨⟨_, R, lst, rfl, HLS.out, HZ.out.1⟩, HZ.out.2⟩
end Go.Proofs.Ytakojoedifhcnaa

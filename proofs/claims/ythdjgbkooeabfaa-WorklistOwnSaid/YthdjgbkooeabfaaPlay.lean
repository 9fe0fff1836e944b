/-
  play of layer 5's laws (worklist): the same calls on a queue and on the reference.
-/
import Derived.Test.YthdjgbkooeabfaaShop
import Derived.Test.YthdjgbkooeabfaaOpenN
import Derived.Deep.CutRange
namespace Go.Proofs.Ythdjgbkooeabfaa
open Go.RowKit

/-- A queue and the reference beside it, with the same numbers. -/
structure Both (S : Shop) (w : World) (B L R : Nat) (q F : List Nat) : Prop where
  hq : S.Q w B q
  hr : RefAt w L R S.rk S.n q F
  far : B + S.W < L
section
variable {S : Shop} {w w' : World} {B L R : Nat} {q F : List Nat}
theorem Both.frm {T : List Nat} (h : Both S w B L R q F) (hf : Frm w w' T) (hs : ∀ g ∈ T, (g < B ∨ B + S.W < g) ∧ g ∉ F) : Both S w' B L R q F :=
  ⟨S.frm h.hq hf (fun g hg => (hs g hg).1), h.hr.frm hf (fun g hg ht => (hs g ht).2 hg), h.far⟩
theorem Both.below (h : Both S w B L R q F) (hb : Below w.heap.size w w') : Both S w' B L R q F := h.frm (T := []) (Frm.below hb) (by simp)
theorem Both.after (h : Both S w B L R q F) (hf : Frm w w' (blocks B S.W)) : RefAt w' L R S.rk S.n q F := h.hr.frm hf (fun g hg hb => by
  have := (h.hr.low g hg).1
  have := (mem_blocks.1 hb).2
  have := h.far
  omega)
end
theorem Both.draw {S : Shop} {w : World} {B L R : Nat} {q F : List Nat} (h : Both S w B L R q F) (m : Nat) : Both S (w.drewN m) B L R q F := h.frm (T := []) ((Frm.refl w []).drewN m) (by simp)

/-- An action as cells. -/
def act (a : Int × Int) : List Value := [.int .i64 a.1, .int .i64 a.2]

set_option maxHeartbeats 2000000 in
set_option maxRecDepth 100000 in
theorem play_any (S : Shop) (w0 w : World) (B L R : Nat) (F : List Nat) (h : Both S w B L R [] F) (v : Value) (acts : List (Int × Int)) (hv : RdN w0 2 v (acts.map act)) (hb : Below w0.heap.size w0 w) (h0 : w0.heap.size ≤ B) :
    Calls Try.prog 9 #[.pointer (some ⟨B + S.W, 0, none⟩), .pointer (some ⟨R, 0, none⟩), v] w fun en w' => en = .returned (.bool true) ∧ Below w0.heap.size w0 w' := by
  obtain ⟨_, A, c, rfl, hc, hm, hr⟩ := hv
  have hc9 : c ≤ 9223372036854775807 := by unfold maxLen at hm; omega
  rw [List.length_map] at hc hr ⊢
  have HR := hide hr
  have HS := hide (And.intro h hb)
  clear hr h hb hm
  go_enter Try.func9, Try.ntmps9
  go_wp2_with fail
  go_loopw [17] (fun z wr => ∃ (k : Nat) (q F : List Nat), k ≤ acts.length ∧ z = .int .i64 k ∧ Both S wr B L R q F ∧ Below w0.heap.size w0 wr) (fun z _ => acts.length - (intOf z).toNat)
  case atStart => exact ⟨0, [], F, Nat.zero_le _, rfl, HS.out⟩
  case round =>
    clear HS
    obtain ⟨wq, rfl⟩ : ∃ x, x = wr := ⟨_, rfl⟩
    obtain ⟨k, q, F, hk, rfl, hB, hb⟩ := hrel
    by_cases hlt : k < acts.length
    · obtain ⟨b, off, rfl, hbl, hcell⟩ := HR.out (by omega)
      obtain ⟨⟨a, x⟩, hx⟩ : ∃ x, acts[k]? = some x := ⟨_, List.getElem?_eq_getElem hlt⟩
      have c0 : wq.cell? ⟨b, off + k * 2, none⟩ = some (.int .i64 a) := (hb.cell (p := ⟨b, off + k * 2, none⟩) hbl).trans (hcell k 0 _ _ (by rw [List.getElem?_map, hx]; rfl) rfl)
      have c1 : wq.cell? ⟨b, off + k * 2 + 1, none⟩ = some (.int .i64 x) := (hb.cell (p := ⟨b, off + k * 2 + 1, none⟩) hbl).trans (hcell k 1 _ _ (by rw [List.getElem?_map, hx]; rfl) rfl)
      have hlt' : (k : Int) < acts.length := by omega
      have hsz : w0.heap.size ≤ wq.heap.size := hb.size
      have hBa : Hid (Both S (wq.alloc (.cells #[.int .i64 a, .int .i64 x] 46)) B L R q F ∧ Below w0.heap.size w0 (wq.alloc (.cells #[.int .i64 a, .int .i64 x] 46))) := hide ⟨hB.below ((Below.refl _ _).alloc (Nat.le_refl _) _), hb.alloc hb.size _⟩
      have hgq : B + S.W < wq.heap.size := S.lt hB.hq
      have hFs : Hid (∀ g ∈ F, L ≤ g ∧ g < wq.heap.size) := hide hB.hr.low
      have hfar := hB.far
      clear hB hb hcell hx
      by_cases ha : a = 0
      · subst ha
        by_cases hq : q = []
        · subst hq
          go_wp2_with (first | (go_at_call 15; refine (S.popNo hBa.out.1.hq).mono ?_; rintro en w' ⟨rfl, rfl⟩) | (go_at_call 18; refine (rpop_no _ _ _ _ _ _ hBa.out.1.hr).mono ?_; rintro en w' ⟨rfl, rfl⟩))
          have HT := hBa
          clear hBa
          go_wp2_with fail
          go_quiet (first | (go_at_call 16; exact Calls.quiet_of_same ((S.len (HT.out.1.draw _).hq).mono fun _ _ ⟨a, b⟩ => ⟨a, b.symm⟩)) | (go_at_call 20; exact Calls.quiet_of_same ((rlen_any _ _ _ _ _ _ _ (HT.out.1.draw _).hr).mono fun _ _ ⟨a, b⟩ => ⟨a, b.symm⟩)) | (go_at_call 17; exact Calls.quiet_of_same ((S.has _ (HT.out.1.draw _).hq).mono fun _ _ ⟨a, b⟩ => ⟨a, b.symm⟩)) | (go_at_call 21; exact Calls.quiet_of_same ((rhas_any _ _ _ _ _ _ _ (HT.out.1.draw _).hr _).mono fun _ _ ⟨a, b⟩ => ⟨a, b.symm⟩)))
          go_wp2_with fail
          go_roundw
          case rel => exact ⟨k + 1, _, _, by omega, by go_num, HT.out.1.draw _, Below.drewN' HT.out.2 _⟩
          case measure => simp [intOf]; omega
        · obtain ⟨kk, y, hkk, hpick, hpop⟩ := S.pop hBa.out.1.hq hq
          have HP := hide hpop
          have HK := hide (And.intro hkk hpick)
          have honce := hide (S.once hBa.out.1.hq)
          have hfits := hide (S.fits hBa.out.1.hq)
          clear hpop hkk hpick
          go_wp2_with fail
          refine HP.out.mono ?_
          rintro en w2 ⟨rfl, hq2, hf2⟩
          have hr2 := hBa.out.1.after hf2
          have hb2 : Below w0.heap.size w0 w2 := hBa.out.2.trans (hf2.toBelow (fun g hg => Nat.le_trans h0 (mem_blocks.1 hg).1) hBa.out.2.size)
          have HQ2 := hide (And.intro hq2 (And.intro hr2 hb2))
          have hx2 : w2.cell? ⟨wq.heap.size, 1, none⟩ = some (.int .i64 x) := (hf2.cell (p := ⟨wq.heap.size, 1, none⟩) (by rw [World.size_alloc]; exact Nat.lt_succ_self _) (fun hg => by have h1 := (mem_blocks.1 hg).2; simp only at h1; omega)).trans (by simp [go_sem])
          have hs2 : wq.heap.size < w2.heap.size := Nat.lt_of_lt_of_le (by rw [World.size_alloc]; exact Nat.lt_succ_self _) hf2.size
          have HX2 := hide hx2
          clear hq2 hr2 hb2 hf2 HP hx2
          go_wp2_with fail
          refine (rpop_at w2 L R S.rk S.n q F HQ2.out.2.1 (S.Pick q) (S.first HQ2.out.2.1 hq hfits.out) hq).mono ?_
          rintro en w3 ⟨k', y', F', rfl, hk', hp', hr3, hf3, hsub⟩
          have hkk' : k' = kk := S.one honce.out HK.out.1 hk' HK.out.2 hp'
          subst hkk'
          have hyy : y' = y := by have := HK.out.1; rw [hk'] at this; injection this
          subst hyy
          have hFlow : ∀ g ∈ F, L ≤ g := fun g hg => (hFs.out g hg).1
          have hT : Both S w3 B L R (q.eraseIdx k') F' := ⟨S.frm HQ2.out.1 hf3 (fun g hg => .inr (by have := hFlow g hg; omega)), hr3, hfar⟩
          have hb3 : Below w0.heap.size w0 w3 := HQ2.out.2.2.trans (hf3.toBelow (fun g hg => by have := hFlow g hg; omega) HQ2.out.2.2.size)
          have hx3 : w3.cell? ⟨wq.heap.size, 1, none⟩ = some (.int .i64 x) := (hf3.cell (p := ⟨wq.heap.size, 1, none⟩) hs2 (fun hg => by have h1 := (hFs.out _ hg).2; simp only at h1; omega)).trans HX2.out
          have HT := hide (And.intro hT hb3)
          clear hT hb3 hr3 hf3 hsub hk' hp' HQ2 hBa HK honce hfits HX2 hFlow
          go_wp2_with fail
          go_quiet (first | (go_at_call 16; exact Calls.quiet_of_same ((S.len (HT.out.1.draw _).hq).mono fun _ _ ⟨a, b⟩ => ⟨a, b.symm⟩)) | (go_at_call 20; exact Calls.quiet_of_same ((rlen_any _ _ _ _ _ _ _ (HT.out.1.draw _).hr).mono fun _ _ ⟨a, b⟩ => ⟨a, b.symm⟩)) | (go_at_call 17; exact Calls.quiet_of_same ((S.has _ (HT.out.1.draw _).hq).mono fun _ _ ⟨a, b⟩ => ⟨a, b.symm⟩)) | (go_at_call 21; exact Calls.quiet_of_same ((rhas_any _ _ _ _ _ _ _ (HT.out.1.draw _).hr _).mono fun _ _ ⟨a, b⟩ => ⟨a, b.symm⟩)))
          go_wp2_with fail
          go_roundw
          case rel => exact ⟨k + 1, _, _, by omega, by go_num, HT.out.1.draw _, Below.drewN' HT.out.2 _⟩
          case measure => simp [intOf]; omega
      · have t0 : (a == 0) = false := by simpa using ha
        have HA := hide ha
        clear ha
        have hWd : Hid (Both S (wq.alloc (.cells #[.int .i64 a, .int .i64 x] 46)).drew B L R q F) := hide (hBa.out.1.draw 1)
        have hx0 : Hid ((wq.alloc (.cells #[.int .i64 a, .int .i64 x] 46)).cell? ⟨wq.heap.size, 1, none⟩ = some (.int .i64 x)) := hide (by simp [go_sem])
        go_wp2_with fail
        go_cut [17, 50] from 17 to 67 (fun i z wx => i = .int .i64 k ∧ z = .bool false ∧ ∃ q' F', Both S wx B L R q' F' ∧ Below w0.heap.size w0 wx ∧ wx.cell? ⟨wq.heap.size, 1, none⟩ = some (.int .i64 x))
        case first =>
          by_cases hin : 0 ≤ x ∧ x < S.n ∧ x.toNat ∉ q
          · obtain ⟨y, rfl⟩ : ∃ y : Nat, x = y := ⟨x.toNat, by omega⟩
            have hyn : y < S.n := by omega
            have hyq : y ∉ q := by simpa using hin.2.2
            have hql : q.length < 65536 := by
              have h1 := S.short hWd.out.hq
              rcases Nat.lt_or_ge q.length S.n with h2 | h2
              · omega
              · exfalso
                have h3 := few S.n (q ++ [y]) (by
                  rw [List.nodup_append]
                  refine ⟨S.once hWd.out.hq, by simp, fun a ha b hb e => ?_⟩
                  obtain rfl : b = y := by simpa using hb
                  exact hyq (e ▸ ha)) (fun z hz => by
                  rcases List.mem_append.1 hz with h4 | h4
                  · exact S.fits hWd.out.hq z h4
                  · obtain rfl : z = y := by simpa using h4
                    exact hyn)
                simp at h3
                omega
            clear hin
            go_region_with (first | (go_at_call 14; refine (S.push y hWd.out.hq hyn hyq).mono ?_; rintro en w1 ⟨rfl, hq1, hf1⟩; have hx1 : w1.cell? ⟨wq.heap.size, 1, none⟩ = some (.int .i64 (y : Nat)) := (hf1.cell (p := ⟨wq.heap.size, 1, none⟩) (show wq.heap.size < (wq.alloc _).heap.size by rw [World.size_alloc]; exact Nat.lt_succ_self _) (fun hg => by have h1 := (mem_blocks.1 hg).2; simp only at h1; omega)).trans hx0.out) | (go_at_call 19; refine (rpush_any w1 L R S.rk S.n q F (hWd.out.after hf1) y hyn hyq hql).mono ?_; rintro en w3 ⟨rfl, F', hr3, hf3, hsub⟩))
            all_goals
              have hFlow : ∀ g ∈ F, L ≤ g := fun g hg => (hFs.out g hg).1
              have hT : Both S w3 B L R (q ++ [y]) F' := ⟨S.frm hq1 hf3 (fun g hg => .inr (by have := hFlow g hg; omega)), hr3, hfar⟩
              have hb1 : Below w0.heap.size w0 w1 := (Below.drewN' hBa.out.2 1).trans (hf1.toBelow (fun g hg => Nat.le_trans h0 (mem_blocks.1 hg).1) (Below.drewN' hBa.out.2 1).size)
              have hb3 : Below w0.heap.size w0 w3 := hb1.trans (hf3.toBelow (fun g hg => by have := hFlow g hg; omega) hb1.size)
              have hs1 : wq.heap.size < w1.heap.size := Nat.lt_of_lt_of_le (show wq.heap.size < (wq.alloc _).heap.size by rw [World.size_alloc]; exact Nat.lt_succ_self _) hf1.size
              have hx3 : w3.cell? ⟨wq.heap.size, 1, none⟩ = some (.int .i64 (y : Nat)) := (hf3.cell (p := ⟨wq.heap.size, 1, none⟩) hs1 (fun hg => by have h1 := (hFs.out _ hg).2; simp only at h1; omega)).trans hx1
              have HT := hide (And.intro hT hb3)
              clear hT hb1 hb3 hr3 hf3 hsub hf1 hq1 hx1 hs1 hWd hx0 hBa hFlow
              go_wp2_with fail
              go_meet
              exact ⟨rfl, rfl, _, _, HT.out.1, HT.out.2, hx3⟩
          · have hno : Hid (¬ (0 ≤ x ∧ x < S.n ∧ x.toNat ∉ q)) := hide hin
            clear hin
            go_region_with (first | (go_at_call 14; refine (S.pushNo x hWd.out.hq hno.out).mono ?_; rintro en w1 ⟨rfl, rfl⟩) | (go_at_call 19; refine (rpush_no _ L R S.rk S.n q F hWd.out.hr x hno.out).mono ?_; rintro en w3 ⟨rfl, rfl⟩))
            all_goals
              have HT : Hid (Both S (wq.alloc (.cells #[.int .i64 a, .int .i64 x] 46)).drew B L R q F ∧ Below w0.heap.size w0 (wq.alloc (.cells #[.int .i64 a, .int .i64 x] 46)).drew) := hide ⟨hWd.out, Below.drewN' hBa.out.2 1⟩
              obtain ⟨w3, hw3⟩ : ∃ w3, w3 = (wq.alloc (.cells #[.int .i64 a, .int .i64 x] 46)).drew := ⟨_, rfl⟩
              have hx3 : w3.cell? ⟨wq.heap.size, 1, none⟩ = some (.int .i64 x) := by rw [hw3]; exact hx0.out
              rw [← hw3] at HT ⊢
              clear hw3 hx0 hWd hBa hno
              go_wp2_with fail
              go_meet
              exact ⟨rfl, rfl, _, _, HT.out.1, HT.out.2, hx3⟩
        case rest =>
          obtain ⟨rfl, rfl, q', F', hB', hb', hx3⟩ := hcut
          have HT := hide (And.intro hB' hb')
          clear hB' hb' hBa hWd hx0
          go_wp2_with fail
          go_quiet (first | (go_at_call 16; exact Calls.quiet_of_same ((S.len (HT.out.1.draw _).hq).mono fun _ _ ⟨a, b⟩ => ⟨a, b.symm⟩)) | (go_at_call 20; exact Calls.quiet_of_same ((rlen_any _ _ _ _ _ _ _ (HT.out.1.draw _).hr).mono fun _ _ ⟨a, b⟩ => ⟨a, b.symm⟩)) | (go_at_call 17; exact Calls.quiet_of_same ((S.has _ (HT.out.1.draw _).hq).mono fun _ _ ⟨a, b⟩ => ⟨a, b.symm⟩)) | (go_at_call 21; exact Calls.quiet_of_same ((rhas_any _ _ _ _ _ _ _ (HT.out.1.draw _).hr _).mono fun _ _ ⟨a, b⟩ => ⟨a, b.symm⟩)))
          go_wp2_with fail
          go_roundw
          case rel => exact ⟨k + 1, _, _, by omega, by go_num, HT.out.1.draw _, Below.drewN' HT.out.2 _⟩
          case measure => simp [intOf]; omega
    · obtain rfl : k = acts.length := by omega
      have HB := hide hb
      clear hB hb
      go_wp2_with fail
      go_ret
      exact ⟨rfl, HB.out⟩
end Go.Proofs.Ythdjgbkooeabfaa

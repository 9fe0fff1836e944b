/-
  Layer 6 (digraph): Postorder, and what it hands to depthFirst.
-/
import Derived.Test.YtaehfohljblmoaaDfsPost
namespace Go.Proofs.Ytaehfohljblmoaa
open Go.RowKit

/-- Who has been left is listed behind the captured cell. -/
def ListJ (base cb : Nat) (F out : List Nat) (W : World) : Prop :=
  ∃ ov, F = cb :: ov.ownBlock.toList ∧ cb < base ∧ base ≤ W.heap.size ∧ Whole W cb 36 #[ov] ∧ Own W base 3 .i64 ov (ints out)
theorem list_leave (n base cb : Nat) : Leave n 33 (.pointer (some ⟨cb, 0, none⟩)) (ListJ base cb) := by
  refine ⟨fun F out W u hJ hu hlen => ?_, fun F out W W' S hJ hf hs => ?_, fun F out W hJ x hx => ?_⟩
  · obtain ⟨ov, rfl, hne, hbs, hc, ho⟩ := hJ
    have hap : cb ∉ ov.ownBlock.toList := fun h => by have := (ho.size cb (by simpa using h)).1; omega
    have hf1 : Frm W (W.alloc (.cells #[.int .i64 (u : Nat)] 3)) [] := (Frm.refl W []).alloc _
    have HZ := hide (And.intro hc (And.intro ho (And.intro hap hf1)))
    obtain ⟨A, cp, rfl, -, -, -⟩ := ho.rd
    have c0 : W.cell? ⟨cb, 0, none⟩ = some (.slice A (ints out).length cp) := hc.cell 0
    clear hc ho hap hf1
    go_enter Try.func33, Try.ntmps33
    go_wp2_with (first | (refine wpList_append_v _ rfl _ _ 36 rfl base 3 (.int .i64 0) 8 intV _ ((ints out).map (Value.int .i64)) rfl (HZ.out.2.1.alloc _).toV _ [.int .i64 (u : Nat)] rfl (rdv_one W 3 _) ?b0 ?b1 ?b2 ?b3 ?_))
    case b0 => intro y hy; rw [List.mem_singleton.1 hy]; rfl
    case b1 => rw [List.length_map, List.length_singleton, ints_len]; omega
    case b2 => rw [List.length_map, List.length_singleton, ints_len]; unfold maxLen; omega
    case b3 => rw [World.size_alloc]; omega
    intro v' w7 ho7 hf7 hb7
    have ho8 : Own w7 base 3 .i64 v' (ints (out ++ [u])) := OwnV.toI (by rw [show ints (out ++ [u]) = ints out ++ [(u : Int)] by simp [ints], List.map_append]; exact ho7)
    have hc7 : Whole w7 cb 36 #[.slice A (ints out).length cp] := (HZ.out.1.frm HZ.out.2.2.2 (by simp)).frm hf7 HZ.out.2.2.1
    obtain ⟨A7, c7, e7, -, -, -⟩ := ho8.rd
    subst e7
    have c7' : w7.cell? ⟨cb, 0, none⟩ = some (.slice A (ints out).length cp) := hc7.cell 0
    have f7 : w7.frozen? ⟨cb, 0, none⟩ = false := hc7.free 0
    have hcb := HZ.out.1.lt
    have HY := hide (And.intro ho8 (And.intro hc7 (And.intro hf7 hb7)))
    clear ho7 ho8 hc7 hf7 hb7
    go_wp2_with fail
    go_end0
    have hset : Frm w7 (w7.setCell ⟨cb, 0, none⟩ (.slice A7 (ints (out ++ [u])).length c7)) [cb] := (Frm.refl w7 [cb]).setCell _ _ (.inl (by simp))
    have e9 : (ints (out ++ [u])).length = (ints out).length + 1 := by simp [ints]
    refine ⟨rfl, cb :: (Value.slice A7 (ints (out ++ [u])).length c7).ownBlock.toList, ⟨.slice A7 (ints (out ++ [u])).length c7, rfl, hne, ?_, ?_, ?_⟩, ?_, fun x hx => ?_⟩
    · exact Nat.le_trans hbs (Nat.le_trans HZ.out.2.2.2.size (Nat.le_trans HY.out.2.2.1.size hset.size))
    · exact HY.out.2.1.set 0 _
    · exact HY.out.1.frmS hset (fun x hx => by
        have := (HY.out.1.size x hx).1
        simp; omega)
    · exact ((HZ.out.2.2.2.mono (by simp)).trans (HY.out.2.2.1.mono (fun x hx => .inl (List.mem_cons_of_mem _ hx)))).trans (hset.mono (fun x hx => .inl (by rw [List.mem_singleton.1 hx]; exact List.mem_cons_self ..)))
    · rcases List.mem_cons.1 hx with rfl | hx
      · exact .inl (List.mem_cons_self ..)
      · rcases HY.out.2.2.2 with e | e
        · rw [e] at hx
          exact .inl (List.mem_cons_of_mem _ hx)
        · rw [e] at hx
          have : x = (W.alloc (.cells #[.int .i64 (u : Nat)] 3)).heap.size := by simpa using hx
          rw [World.size_alloc] at this
          exact .inr (by omega)
  · obtain ⟨ov, rfl, hne, hbs, hc, ho⟩ := hJ
    exact ⟨ov, rfl, hne, Nat.le_trans hbs hf.size, hc.frm hf (hs cb (by simp)), ho.frmS hf (fun x hx => hs x (by simp [hx]))⟩
  · obtain ⟨ov, rfl, hne, hbs, hc, ho⟩ := hJ
    rcases List.mem_cons.1 hx with rfl | hx
    · exact hc.lt
    · exact (ho.size x (by simpa using hx)).2

set_option maxRecDepth 100000 in
set_option maxHeartbeats 2000000 in
theorem posto_bad (A : Option Addr) (c : Nat) (g : List (List Int)) (v : Int) (w : World) (hg : RdL w A c g) (hbad : codeG g ≠ 0 ∨ ¬ (0 ≤ v ∧ v < g.length)) :
    Calls Try.prog 20 #[.agg #[.slice A g.length c], .int .i64 v] w fun en w' => en = .returned (.slice none 0 0) ∧ Below w.heap.size w w' := by
  have HA : Hid (Below w.heap.size w (w.alloc (.cells #[.slice A g.length c] 24))) := hide ((Below.refl _ _).alloc (Nat.le_refl _) _)
  have HG : Hid (RdL (w.alloc (.cells #[.slice A g.length c] 24)) A c g) := hide (hg.below' HA.out)
  have hx : (w.alloc (.cells #[.slice A g.length c] 24)).cell? ⟨w.heap.size, 0, none⟩ = some (.slice A g.length c) := by simp [go_sem]
  clear hg
  by_cases hc : codeG g = 0
  · have hv : decide (0 ≤ v ∧ v < (g.length : Int)) = false := decide_eq_false (hbad.resolve_left (fun h => h hc))
    have HC := check_any A c g _ HG.out
    rw [hc] at HC
    have HCh := hide HC
    clear HC hbad hc
    go_enter Try.func20, Try.ntmps20
    go_wp2_with fail
    refine HCh.out.mono ?_
    rintro en w2 ⟨rfl, hb⟩
    have hx2 : w2.cell? ⟨w.heap.size, 0, none⟩ = some (.slice A g.length c) := (hb.cell (p := ⟨w.heap.size, 0, none⟩) (lt_of_cell hx)).trans hx
    have HB : Hid (Below w.heap.size w w2) := hide (HA.out.trans (hb.mono HA.out.size))
    clear hb HCh hx
    go_wp2_with fail
    refine (isNode_any _ _ _ _ _).mono ?_
    rintro en w3 ⟨rfl, hb⟩
    have HB3 : Hid (Below w.heap.size w w3) := hide (HB.out.trans (hb.mono HB.out.size))
    rw [hv]
    clear hb hx2 HB hv
    go_wp2_with fail
    go_ret
    exact ⟨rfl, HB3.out⟩
  · have hc' : (codeG g == 0) = false := by simpa using hc
    clear hbad
    go_enter Try.func20, Try.ntmps20
    go_wp2_with fail
    refine (check_any _ _ _ _ HG.out).mono ?_
    rintro en w2 ⟨rfl, hb⟩
    have HB : Hid (Below w.heap.size w w2) := hide (HA.out.trans (hb.mono HA.out.size))
    clear hb hx
    go_wp2_with fail
    go_ret
    exact ⟨rfl, HB.out⟩

set_option maxRecDepth 100000 in
set_option maxHeartbeats 2000000 in
theorem posto_any (A : Option Addr) (c : Nat) (g : List (List Int)) (v : Nat) (w : World) (hg : RdL w A c g) (hok : codeG g = 0) (hv : v < g.length) :
    Calls Try.prog 20 #[.agg #[.slice A g.length c], .int .i64 (v : Nat)] w fun en w' => (∃ ov, en = .returned ov ∧ Own w' w.heap.size 3 .i64 ov (ints (post g v))) ∧ Below w.heap.size w w' := by
  have HA : Hid (Below w.heap.size w (w.alloc (.cells #[.slice A g.length c] 24))) := hide ((Below.refl _ _).alloc (Nat.le_refl _) _)
  have HG : Hid (RdL (w.alloc (.cells #[.slice A g.length c] 24)) A c g) := hide (hg.below' HA.out)
  have hx : (w.alloc (.cells #[.slice A g.length c] 24)).cell? ⟨w.heap.size, 0, none⟩ = some (.slice A g.length c) := by simp [go_sem]
  have hN := (code_ok hok).2
  have HK := hide (code_ok hok).1
  have hv' : decide (0 ≤ (v : Int) ∧ (v : Int) < (g.length : Int)) = true := decide_eq_true (by omega)
  have HC := check_any A c g _ HG.out
  rw [hok] at HC
  have HCh := hide HC
  clear hg HC hok
  go_enter Try.func20, Try.ntmps20
  go_wp2_with fail
  refine HCh.out.mono ?_
  rintro en w2 ⟨rfl, hb⟩
  have hx2 : w2.cell? ⟨w.heap.size, 0, none⟩ = some (.slice A g.length c) := (hb.cell (p := ⟨w.heap.size, 0, none⟩) (lt_of_cell hx)).trans hx
  have HB : Hid (Below w.heap.size w w2) := hide (HA.out.trans (hb.mono HA.out.size))
  have HG2 := hide (HG.out.below' hb)
  clear hb HCh hx HG HA
  go_wp2_with fail
  refine (isNode_any _ _ _ _ _).mono ?_
  rintro en w3 ⟨rfl, hb⟩
  have HB3 : Hid (Below w.heap.size w w3) := hide (HB.out.trans (hb.mono HB.out.size))
  have HG3 := hide (HG2.out.below' hb)
  have hx3 : w3.cell? ⟨w.heap.size, 0, none⟩ = some (.slice A g.length c) := (hb.cell (p := ⟨w.heap.size, 0, none⟩) (lt_of_cell hx2)).trans hx2
  rw [hv']
  clear hb hx2 HB hv' HG2
  obtain ⟨w5, hw5⟩ : ∃ x, w3.alloc (.cells #[.slice none 0 0] 36) = x := ⟨_, rfl⟩
  have hs5 : w5.heap.size = w3.heap.size + 1 := by rw [← hw5, World.size_alloc]
  have hf5 : Frm w3 w5 [] := by rw [← hw5]; exact (Frm.refl w3 []).alloc _
  have HJ : Hid (ListJ (w3.heap.size + 1) w3.heap.size [w3.heap.size] [] w5) := hide (by
    refine ⟨.slice none 0 0, rfl, Nat.lt_succ_self _, by omega, ?_, Own.nil⟩
    have := Whole.new w3 36 #[.slice none 0 0]
    rw [hw5] at this
    exact this)
  have HG5 : Hid (∀ W, Frm w5 W [w3.heap.size] → RdL W A c g) := hide fun W hW => HG3.out.below' (((hf5.mono (by simp)).trans hW |>.mono (T := []) (fun x hx => .inr (by simp at hx; omega))).toBelow (by simp) (Nat.le_refl _))
  have hx5 : w5.cell? ⟨w.heap.size, 0, none⟩ = some (.slice A g.length c) := (hf5.cell (p := ⟨w.heap.size, 0, none⟩) (lt_of_cell hx3) (by simp)).trans hx3
  have HF5 := hide hf5
  have HS5 := hide hs5
  clear hf5 hs5 HG3
  go_wp2_with fail
  refine (dfs_post A c g w5 v _ _ (list_leave g.length (w3.heap.size + 1) w3.heap.size) HG5.out HK.out hN hv HJ.out).mono ?_
  rintro en w6 ⟨rfl, F', hJ, hf6, -⟩
  obtain ⟨ov, rfl, -, -, hc, ho⟩ := hJ
  have c0 : w6.cell? ⟨w3.heap.size, 0, none⟩ = some ov := hc.cell 0
  have HZ : Hid (Own w6 w.heap.size 3 .i64 ov (ints (post g v)) ∧ Below w.heap.size w w6) := hide ⟨ho.low (by have := HB3.out.size; omega), HB3.out.trans (((HF5.out.mono (by simp)).trans hf6).toBelow (fun x hx => by have := HB3.out.size; simp at hx; omega) HB3.out.size)⟩
  clear hc ho hf6 HJ hx3 hx5 hw5
  go_wp2_with fail
  go_ret
  exact ⟨⟨ov, rfl, HZ.out.1⟩, HZ.out.2⟩
end Go.Proofs.Ytaehfohljblmoaa

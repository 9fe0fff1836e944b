/-
  The law's own list of the elements, layer 3 (bitset).
-/
import Derived.Test.YtbnikoomgeaboaaDoorCount
import Derived.Maps.AppendAt
namespace Go.Proofs.YtbnikoomgeaboaaDoor
open Go.RowKit Go.Shelf

attribute [local go_sem] Oper.semAt_some

theorem infoInt : (Tryd.prog.info? 3).map (fun i => (i.zero, i.size, i.bytes)) = some (some (.int .i64 0), 1, 8) := by kernel_rfl
/-- The elements as numbers. -/
def nums (l : List Nat) : List Value := l.map fun (x : Nat) => Value.int .i64 (x : Int)

theorem nums_snoc (l : List Nat) (x : Nat) : nums (l ++ [x]) = nums l ++ [.int .i64 (x : Int)] := by simp [nums]
theorem nums_len (l : List Nat) : (nums l).length = l.length := by simp [nums]
theorem box_own {W W' : World} {row : Option Nat} {B : Nat} {t : TypeId} {v : Value} (h : Boxed W B t v) (hg : W.grownBy W' row) (hr : ∀ r, row = some r → ∃ o : Obj, W.heap[r]? = some o ∧ o.isCells = false) : Boxed W' B t v :=
  h.kept hg (fun e => by
    obtain ⟨o, ho, hc⟩ := hr _ e.symm
    rw [show W.heap[B]? = _ from h] at ho
    cases ho; cases hc)
theorem row_low {w : World} {base base' size n : Nat} {e : TypeId} {v : Value} {xs : List Value} (h : w.ownsRow base e size v n xs) (hb : base' ≤ base) : w.ownsRow base' e size v n xs :=
  ⟨h.1, h.2.elim Or.inl (fun ⟨g, cap, cur, hv, hg, r⟩ => Or.inr ⟨g, cap, cur, hv, Nat.le_trans hb hg, r⟩)⟩
theorem Kq.appended {n₀ : Nat} {S : List Nat} {W w1 : World} {tmp : Obj} {v u : Value} {p : Addr} (h0 : n₀ ≤ W.heap.size) (hrow : ∀ g, v.ownBlock = some g → n₀ ≤ g) (hg : (W.alloc tmp).grownBy w1 v.ownBlock) (hp : p.block ∈ S) : Kq n₀ S W (w1.setCell p u) := by
  have h1 : Kq n₀ S W w1 := ⟨Nat.le_trans (by rw [World.size_alloc]; exact Nat.le_succ _) hg.size, fun i hi _ => (hg.block i (by rw [World.size_alloc]; omega) (fun e => by have := hrow i e.symm; omega)).trans (Below.heap_alloc W tmp i (by omega))⟩
  exact h1.t (Kq.set _ _ _ (.inl hp))

theorem funcNil (w : World) (f : Fn) (a b : Array Value) : (binOp .eql 43 (.func f a b) .nilFunc).run Tryd.prog w = .ok (.bool false) w := by
  have h : ∀ d : Nat, (Op.equalIn (d + 1) 43 (.func f a b) .nilFunc).run Tryd.prog w = .ok false w := fun d => by
    simp [Op.equalIn, run_underlying Tryd.underlying43]
  simp only [binOp]
  simp [Op.equal, Op.maxDepth, h 9999]

set_option maxRecDepth 100000 in
set_option maxHeartbeats 2000000 in
theorem elems_in (n : Nat) (hn : 3 ≤ n) (w : World) (B cap : Nat) (ws : List Nat) (hS : SetAt w B cap ws) (hT : Tab w) :
    CallsIn Fence.wide n Tryd.prog 31 #[.pointer (some ⟨B + 1, 0, none⟩)] w fun e W' => ∃ v, e = .returned (.tuple #[v, .bool true]) ∧ OwnV W' w.heap.size 3 v (nums (els ws cap 0)) ∧ Below w.heap.size w W' := by
  have h1 : 1 ≤ n := by omega
  obtain ⟨i0, hi, hz0, hz1, hz2⟩ := info_parts infoInt
  have HS := hide (And.intro hS hT)
  have hlt := hS.lt
  clear hS hT
  have hfn := fun W => funcNil W (.func 46) #[] #[.pointer (some ⟨w.heap.size + 1 + 1, 0, none⟩)]
  refine callsIn_of_wp_marks Tryd.func31 rfl trivial ?_ rfl
  simp only [Tryd.ntmps31, List.size_toArray, List.length_cons, List.length_nil, Nat.reduceAdd, Nat.reduceSub, Array.replicate_succ, Array.replicate_zero, List.push_toArray, List.append_toArray, List.nil_append, List.cons_append]
  gi_wp2_with (refine ⟨trivial, ?_⟩; gi_at_call 30; refine (callsIn_wide.2 (all_call _ _)).mono ?_; rintro e w' ⟨rfl, rfl⟩)
  have hB0 : Below w.heap.size w ((((w.alloc (.cells #[.slice none 0 0] 28)).alloc (.cells #[.bool false] 4)).alloc (.cells #[.pointer (some ⟨B + 1, 0, none⟩)] 23)).alloc (.cells #[.slice none 0 0] 28)) :=
    ((((Below.refl _ w).alloc (Nat.le_refl _) _).alloc (by simp) _).alloc (by simp; omega) _).alloc (by simp; omega) _
  have b0 := (((Boxed.new w 28 (.slice none 0 0)).alloc (.cells #[.bool false] 4)).alloc (.cells #[.pointer (some ⟨B + 1, 0, none⟩)] 23)).alloc (.cells #[.slice none 0 0] 28)
  have b1 := ((Boxed.new (w.alloc (.cells #[.slice none 0 0] 28)) 4 (.bool false)).alloc (.cells #[.pointer (some ⟨B + 1, 0, none⟩)] 23)).alloc (.cells #[.slice none 0 0] 28)
  have b2 := (Boxed.new ((w.alloc (.cells #[.slice none 0 0] 28)).alloc (.cells #[.bool false] 4)) 23 (.pointer (some ⟨B + 1, 0, none⟩))).alloc (.cells #[.slice none 0 0] 28)
  have b3 := Boxed.new (((w.alloc (.cells #[.slice none 0 0] 28)).alloc (.cells #[.bool false] 4)).alloc (.cells #[.pointer (some ⟨B + 1, 0, none⟩)] 23)) 28 (.slice none 0 0)
  simp only [World.size_alloc] at b1 b2 b3
  obtain ⟨W0, hW0⟩ : ∃ W0, W0 = (((w.alloc (.cells #[.slice none 0 0] 28)).alloc (.cells #[.bool false] 4)).alloc (.cells #[.pointer (some ⟨B + 1, 0, none⟩)] 23)).alloc (.cells #[.slice none 0 0] 28) := ⟨_, rfl⟩
  have hsz : W0.heap.size = w.heap.size + 4 := by rw [hW0]; simp
  rw [← hW0] at hB0 b0 b1 b2 b3 ⊢
  clear hW0
  refine wpIn_rangeFunc_ownG rfl h1 (gf := 46) (lb := #[.pointer (some ⟨w.heap.size + 1 + 1, 0, none⟩)]) rfl trivial (enters_of Tryd.func46 (by kernel_rfl) rfl)
    (all_stops (n - 1) (w.heap.size + 1 + 1) (w.heap.size + 4) B cap [w.heap.size + 1 + 1 + 1] ws (by omega) W0 (fun i hi => ⟨by omega, by simp; omega⟩) b2.cell (by omega) (HS.out.1.below hB0) (HS.out.2.below hB0)) Kq.t (Kq.b (by omega)) (Below.refl _ _) (fun _ => rfl)
    (fun pre W => (∃ v, Boxed W (w.heap.size + 1 + 1 + 1) 28 v ∧ W.ownsRow (w.heap.size + 4) 3 1 v (nums pre).length (nums pre) ∧ True) ∧ (Boxed W w.heap.size 28 (.slice none 0 0) ∧ Boxed W (w.heap.size + 1) 4 (.bool false)) ∧ Below w.heap.size w W)
    (fun _ _ _ => False)
    (OwnFrom.and (Own.from (holdsRow_own (w.heap.size + 4) (w.heap.size + 1 + 1 + 1) 28 3 1 (fun pre => (nums pre).length) nums (fun _ _ => True)) _) (OwnFrom.and (Own.from (fun s A B row hs hg hr => ⟨box_own hs.1 hg hr, box_own hs.2 hg hr⟩) _) (ownFrom_below (Nat.le_refl _) (by omega))))
    (fun _ _ _ _ _ hs _ _ => hs)
    ⟨⟨_, b3, World.ownsRow_nil _ _ _ _, trivial⟩, ⟨b0, b1⟩, hB0⟩
    (fun x => { tmps := #[.pointer (some ⟨B + 1, 0, none⟩), undef, .pointer (some ⟨w.heap.size, 0, none⟩), .pointer (some ⟨w.heap.size + 1, 0, none⟩), .func (.func 46) #[] #[.pointer (some ⟨w.heap.size + 1 + 1, 0, none⟩)], .pointer (some ⟨w.heap.size + 1 + 1 + 1, 0, none⟩), .int .i64 (x : Nat), .pointer (some ⟨B + 1, 0, none⟩), .func (.func 46) #[] #[.pointer (some ⟨w.heap.size + 1 + 1, 0, none⟩)], .func (.func 46) #[] #[.pointer (some ⟨w.heap.size + 1 + 1, 0, none⟩)], .bool false, .func (.func 46) #[] #[.pointer (some ⟨w.heap.size + 1 + 1, 0, none⟩)], .int .i64 (x : Nat), undef, undef, undef, undef, undef, undef, undef, undef], defers := [] }) ?assign ?body ?done ?stop
  case assign =>
    intro l x W K hK
    gi_wp2
    simpa using hK
  case body =>
    rintro l pre x W ⟨⟨v, hv, hrow, _⟩, ⟨c0, c1⟩, hB⟩ hpl
    have hln : (els ws cap 0).length ≤ 65536 := HS.out.1.els_len
    have hnl := nums_len pre
    have hc := hv.cell
    have hvl := hv.lt
    obtain ⟨Av, cv, rfl, hcv, hmv, _⟩ := (show OwnV W (w.heap.size + 4) 3 v (nums pre) from hrow).rd
    have hcv9 : cv ≤ 9223372036854775807 := by unfold maxLen at hmv; omega
    rw [hnl] at hcv hc hv hrow
    have t1 : ¬ ((70000 : Int) < pre.length) := by omega
    gi_wp2_with (gi_at_builtin; refine wpListIn_append_own _ rfl _ _ 28 rfl (w.heap.size + 4) 3 i0 (.int .i64 0) 1 8 Tryd.underlying28 hi hz0 hz1 hz2 rfl (by decide) _ _ _ rfl (hrow.alloc _) ⟨W.heap.size, 0, none⟩ 1 1 [.int .i64 x] rfl rfl (cell_one_new _ _ _) (by simp [Value.oneCell']) (by unfold maxLen; omega) (by omega) (by simp; omega) ?_; intro v' w1 hown' hgrow _; have hv1 := (hv.alloc (.cells #[.int .i64 (x : Nat)] 3)).kept hgrow (hv.not_row (by decide) hrow); obtain ⟨g', cap', rfl⟩ := ownsRow_succ hown'; have hc1 := hv1.cell; have hf1 := hv1.frozen)
    obtain ⟨-, -, -, hk2, hb2⟩ := hv.appended (n₀ := w.heap.size) (by decide) (row_low hrow (by omega)) hB.size (by omega) (row_low hown' (by omega)) hgrow
    have hown2 := hown'.kept (grownBy_setCell' w1 (w.heap.size + 1 + 1 + 1) (.slice (some ⟨g', 0, none⟩) (pre.length + 1) cap')) (.inr (hv1.not_row (by decide) hown').symm)
    have e1 : (nums (pre ++ [x])).length = pre.length + 1 := by rw [nums_len, List.length_append]; rfl
    refine ⟨hk2.from _, Kq.appended (by omega) (fun g hg => (World.ownsRow.lt hrow g hg).1) hgrow (by simp), ⟨_, hv1.set _, (?_ : World.ownsRow _ _ _ _ _ _ _)⟩, ⟨?_, ?_⟩, hB.trans hb2⟩
    · rw [e1, nums_snoc]; exact hown2
    · exact ((c0.alloc _).kept hgrow (c0.not_row (by decide) hrow)).other (by omega) _
    · exact ((c1.alloc _).kept hgrow (c1.not_row (by decide) hrow)).other (by omega) _
  case done =>
    rintro D ys W hD rfl ⟨⟨v, hv, hrow, _⟩, ⟨c0, c1⟩, hB⟩ hK
    obtain ⟨Av, cv, rfl, _, _, _⟩ := (show OwnV W (w.heap.size + 4) 3 v (nums (els ws cap 0)) from hrow).rd
    have hc := hv.cell
    have d0 := c0.cell
    have d1 := c1.cell
    have g0 := c0.frozen
    have g1 := c1.frozen
    have c0' : Boxed ((W.setCell ⟨w.heap.size, 0, none⟩ (.slice Av (nums (els ws cap 0)).length cv)).setCell ⟨w.heap.size + 1, 0, none⟩ (.bool true)) w.heap.size 28 (.slice Av (nums (els ws cap 0)).length cv) := (c0.set _).other (by omega) _
    have c1' : Boxed ((W.setCell ⟨w.heap.size, 0, none⟩ (.slice Av (nums (els ws cap 0)).length cv)).setCell ⟨w.heap.size + 1, 0, none⟩ (.bool true)) (w.heap.size + 1) 4 (.bool true) := (c1.other (by omega) _).set _
    have hK' := ((KeepsOthers.setCell W ⟨w.heap.size, 0, none⟩ (.slice Av (nums (els ws cap 0)).length cv)).trans (KeepsOthers.setCell _ ⟨w.heap.size + 1, 0, none⟩ (.bool true))).same D _ hK rfl
    have hrow1 := hrow.kept (grownBy_setCell' W w.heap.size (.slice Av (nums (els ws cap 0)).length cv)) (.inr (c0.not_row (by decide) hrow).symm)
    have hrow2 := hrow1.kept (grownBy_setCell' _ (w.heap.size + 1) (.bool true)) (.inr ((c1.other (by omega) _).not_row (by decide) hrow1).symm)
    have hB2 := (hB.setCell (p := ⟨w.heap.size, 0, none⟩) (Nat.le_refl _) (.slice Av (nums (els ws cap 0)).length cv)).setCell (p := ⟨w.heap.size + 1, 0, none⟩) (by show w.heap.size ≤ w.heap.size + 1; omega) (.bool true)
    have hD' : w.heap.size ≤ D := by omega
    clear hrow hrow1 c0 c1 hB
    gi_wp2
    refine ⟨by simp, .inl ⟨_, _, rfl, run_takeDeferred hK', ?_⟩⟩
    have r0 := cell_kept c0'.cell (grownBy_putObj' _ D (.deferred none)) (fun r e => by cases e; exact ⟨_, hK', rfl⟩)
    have r1 := cell_kept c1'.cell (grownBy_putObj' _ D (.deferred none)) (fun r e => by cases e; exact ⟨_, hK', rfl⟩)
    refine ⟨.tuple #[.slice Av (nums (els ws cap 0)).length cv, .bool true], ?_, _, rfl, (show OwnV _ _ _ _ _ from row_low (ownsRow_putObj hrow2 _ hK' rfl) (by omega)), hB2.trans (belowK_b (w := w) (Nat.le_refl _) _ D _ _ hD' hK' rfl rfl)⟩
    simp [results, Tryd.f31, go_sem, r0, r1]
  case stop =>
    rintro D c pre W _ _ h _
    exact h.elim
end Go.Proofs.YtbnikoomgeaboaaDoor

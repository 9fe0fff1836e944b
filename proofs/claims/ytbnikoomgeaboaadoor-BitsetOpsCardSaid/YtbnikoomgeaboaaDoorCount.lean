/-
  All, and Count, layer 3 (bitset).
-/
import Derived.Test.YtbnikoomgeaboaaDoorIter
namespace Go.Proofs.YtbnikoomgeaboaaDoor
open Go.RowKit Go.Shelf

attribute [local go_sem] Oper.semAt_some

/-- What a round keeps: whatever lay below n₀, but for the blocks of S. -/
def Kq (n₀ : Nat) (S : List Nat) (W W' : World) : Prop := W.heap.size ≤ W'.heap.size ∧ ∀ i, i < n₀ → i ∉ S → W'.heap[i]? = W.heap[i]?
theorem Kq.t {n₀ : Nat} {S : List Nat} {A B C : World} (h : Kq n₀ S A B) (k : Kq n₀ S B C) : Kq n₀ S A C := ⟨Nat.le_trans h.1 k.1, fun i h1 h2 => (k.2 i h1 h2).trans (h.2 i h1 h2)⟩
theorem Kq.b {n₀ : Nat} {S : List Nat} {w : World} (hn : n₀ ≤ w.heap.size) (W : World) (l : Nat) (o o' : Obj) (hl : w.heap.size ≤ l) (_ : W.heap[l]? = some o) (_ : o.isCells = false) (_ : o.isWalk = false) : Kq n₀ S W (W.putObj l o') :=
  ⟨by simp [World.putObj], fun i h1 _ => World.putObj_heap_other (by omega)⟩
theorem Kq.set {n₀ : Nat} {S : List Nat} (W : World) (p : Addr) (u : Value) (hp : p.block ∈ S ∨ n₀ ≤ p.block) : Kq n₀ S W (W.setCell p u) :=
  ⟨by simp [World.setCell], fun i h1 h2 => Below.heap_setCell W p u i (fun e => by
    rcases hp with h | h
    · exact h2 (e ▸ h)
    · omega)⟩

theorem all_stops (n Bn n₀ B cap : Nat) (S ws : List Nat) (hn : 1 ≤ n) (w : World) (hB : ∀ i, i = 0 ∨ i = B ∨ i = B + 1 ∨ i = Bn → i < n₀ ∧ i ∉ S) (hc : w.cell? ⟨Bn, 0, none⟩ = some (.pointer (some ⟨B + 1, 0, none⟩))) (hBn : Bn < w.heap.size) (hS : SetAt w B cap ws) (hT : Tab w) :
    SeqStopsK Fence.wide n Tryd.prog 46 #[.pointer (some ⟨Bn, 0, none⟩)] (fun x : Nat => #[Value.int .i64 (x : Int)]) (Kq n₀ S) (fun ys => ys = els ws cap 0) (fun pre => pre <+: els ws cap 0) (els ws cap 0).length w := fun l J Jx W hW _ _ hY h0 =>
  all1_in n l Bn B cap ws (Kq n₀ S) (fun _ _ hk => ⟨hk.1, fun i hi => hk.2 i (hB i hi).1 (hB i hi).2⟩) J Jx hn hY W ((hW.cell (p := ⟨Bn, 0, none⟩) hBn).trans hc) (hS.below hW) (hT.below hW) h0

theorem all_call (w : World) (p : Option Addr) :
    Calls Tryd.prog 30 #[.pointer p] w fun en w' => en = .returned (.func (.func 46) #[] #[.pointer (some ⟨w.heap.size, 0, none⟩)]) ∧ w.alloc (.cells #[.pointer p] 23) = w' := by
  go_enter Tryd.func30, Tryd.ntmps30
  go_wp2_with fail
  go_ret
  exact ⟨rfl, rfl⟩

theorem SetAt.els_len {w : World} {B cap : Nat} {ws : List Nat} (h : SetAt w B cap ws) : (els ws cap 0).length ≤ 65536 := by
  have h1 := List.length_filter_le (bit ws) (List.range' 0 (cap - 0))
  rw [List.length_range'] at h1
  have := h.2.2.2
  unfold els
  omega
theorem box_cell {W : World} {B : Nat} {v : Value} {t : TypeId} (h : W.heap[B]? = some (.cells #[v] t (0, 0))) : W.cell? ⟨B, 0, none⟩ = some v ∧ W.frozen? ⟨B, 0, none⟩ = false := by
  constructor <;> simp [World.cell?, World.frozen?, h]
theorem box_new (W : World) (v : Value) (t : TypeId) : (W.alloc (.cells #[v] t)).cell? ⟨W.heap.size, 0, none⟩ = some v ∧ (W.alloc (.cells #[v] t)).frozen? ⟨W.heap.size, 0, none⟩ = false :=
  box_cell (World.alloc_heap_new W _)
theorem box_alloc {W : World} {a : Addr} {v : Value} (o : Obj) (h : W.cell? a = some v) : (W.alloc o).cell? a = some v := cell_kept h (World.grownBy_alloc W o none) (fun r e => by cases e)
theorem box_free {W : World} {a : Addr} {v : Value} (o : Obj) (h : W.cell? a = some v) (hf : W.frozen? a = false) : (W.alloc o).frozen? a = false := (frozen_kept h (World.grownBy_alloc W o none) (fun r e => by cases e)).trans hf

set_option maxRecDepth 100000 in
set_option maxHeartbeats 2000000 in
theorem count_in (n : Nat) (hn : 3 ≤ n) (w : World) (B cap : Nat) (ws : List Nat) (hS : SetAt w B cap ws) (hT : Tab w) :
    CallsIn Fence.wide n Tryd.prog 29 #[.pointer (some ⟨B + 1, 0, none⟩)] w fun e W' => e = .returned (.int .i64 (els ws cap 0).length) ∧ Below w.heap.size w W' := by
  have h1 : 1 ≤ n := by omega
  have HS := hide (And.intro hS hT)
  have hlt := hS.lt
  clear hS hT
  refine callsIn_of_wp_marks Tryd.func29 rfl trivial ?_ rfl
  simp only [Tryd.ntmps29, List.size_toArray, List.length_cons, List.length_nil, Nat.reduceAdd, Nat.reduceSub, Array.replicate_succ, Array.replicate_zero, List.push_toArray, List.append_toArray, List.nil_append, List.cons_append]
  gi_wp2_with (refine ⟨trivial, ?_⟩; gi_at_call 30; refine (callsIn_wide.2 (all_call _ _)).mono ?_; rintro e w' ⟨rfl, rfl⟩)
  have hs := box_new w (.int .i64 0) 3
  have hb := box_new (w.alloc (.cells #[.int .i64 0] 3)) (.pointer (some ⟨B + 1, 0, none⟩)) 23
  rw [World.size_alloc] at hb
  have hB0 : Below w.heap.size w ((w.alloc (.cells #[.int .i64 0] 3)).alloc (.cells #[.pointer (some ⟨B + 1, 0, none⟩)] 23)) := ((Below.refl _ w).alloc (Nat.le_refl _) _).alloc (by simp) _
  refine wpIn_rangeFunc_ownF rfl h1 (gf := 46) (lb := #[.pointer (some ⟨w.heap.size + 1, 0, none⟩)]) rfl trivial (enters_of Tryd.func46 (by kernel_rfl) rfl)
    (all_stops (n - 1) (w.heap.size + 1) (w.heap.size + 2) B cap [w.heap.size] ws (by omega) _ (fun i hi => ⟨by omega, by simp; omega⟩) hb.1 (by simp) (HS.out.1.below hB0) (HS.out.2.below hB0)) Kq.t (Kq.b (by simp)) (Below.refl _ _) (fun _ => rfl)
    (fun pre W => (W.cell? ⟨w.heap.size, 0, none⟩ = some (.int .i64 (pre.length : Nat)) ∧ W.frozen? ⟨w.heap.size, 0, none⟩ = false) ∧ Below w.heap.size w W)
    (fun _ _ _ => False)
    (OwnFrom.and (Own.from (fun s A B row hs hg hr => ⟨cell_kept hs.1 hg hr, (frozen_kept hs.1 hg hr).trans hs.2⟩) _) (ownFrom_below (Nat.le_refl _) (by simp; omega)))
    (fun _ _ _ _ _ hs _ _ => hs)
    ⟨⟨box_alloc _ hs.1, box_free _ hs.1 hs.2⟩, hB0⟩
    (fun x => { tmps := #[.pointer (some ⟨B + 1, 0, none⟩), undef, .int .i64 0, .pointer (some ⟨w.heap.size, 0, none⟩), .pointer (some ⟨B + 1, 0, none⟩), .func (.func 46) #[] #[.pointer (some ⟨w.heap.size + 1, 0, none⟩)], .int .i64 (x : Nat), undef, undef, undef], defers := [] }) ?assign ?body ?done ?stop
  case assign =>
    intro l x W K hK
    gi_wp2
    simpa using hK
  case body =>
    rintro l pre x W ⟨⟨hc, hf⟩, hB⟩ hpl
    have hln : (els ws cap 0).length ≤ 65536 := HS.out.1.els_len
    have hpl' : (pre.length : Int) ≤ 65536 := by omega
    gi_wp2
    exact ⟨KeepsOthers.setCell _ _ _, Kq.set _ _ _ (.inl (by simp)), ⟨by rw [List.length_append]; exact World.cell?_setCell_same' _ _ _ (by rw [hc]; rfl), by rw [World.frozen?_setCell]; exact hf⟩, hB.setCell (p := ⟨w.heap.size, 0, none⟩) (Nat.le_refl _) _⟩
  case done =>
    rintro D ys W hD rfl ⟨⟨hc, _⟩, hB⟩ hK
    gi_wp2
    refine ⟨by simp, .inl ⟨_, _, rfl, run_takeDeferred hK, ?_⟩⟩
    exact ⟨_, results_tmp rfl _ _ _, rfl, hB.trans (belowK_b (w := w) (Nat.le_refl _) W D _ _ (by simp at hD; omega) hK rfl rfl)⟩
  case stop =>
    rintro D c pre W _ _ h _
    exact h.elim
end Go.Proofs.YtbnikoomgeaboaaDoor

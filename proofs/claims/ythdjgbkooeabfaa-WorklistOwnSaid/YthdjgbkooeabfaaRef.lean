/-
  The reference's queue of layer 5 (worklist) behind its pointer: New, Len, Has, Push.
-/
import Derived.Test.YthdjgbkooeabfaaNew
namespace Go.Proofs.Ythdjgbkooeabfaa
open Go.RowKit

/-- Numbers as integers. -/
def ints (q : List Nat) : List Int := q.map fun (x : Nat) => (x : Int)
theorem ints_len (q : List Nat) : (ints q).length = q.length := by simp [ints]
theorem ints_get (q : List Nat) (k : Nat) : (ints q)[k]? = (q[k]?).map fun (x : Nat) => (x : Int) := by simp [ints]
theorem ints_mem (q : List Nat) (i : Int) : i ∈ ints q ↔ 0 ≤ i ∧ i.toNat ∈ q := by
  simp only [ints, List.mem_map]
  constructor
  · rintro ⟨a, h, rfl⟩; exact ⟨by omega, by simpa using h⟩
  · rintro ⟨h1, h2⟩; exact ⟨_, h2, by omega⟩

/-- THE REFERENCE's QUEUE in block R; its list is a row of its own behind it, its ranks a row before it. -/
def RefAt (w : World) (L R : Nat) (rk : Option (List Int)) (n : Nat) (q F : List Nat) : Prop :=
  ∃ rv iv, Whole w R 53 #[.bool true, .bool rk.isSome, .int .i64 (n : Nat), rv, iv] ∧ Own w (R + 1) 3 .i64 iv (ints q) ∧ Own w L 3 .i64 rv (rk.getD []) ∧
    (∀ g, rv.ownBlock = some g → g < R) ∧ F = R :: (iv.ownBlock.toList ++ rv.ownBlock.toList) ∧ L ≤ R ∧ q.length ≤ 65536 ∧ n ≤ 65536
theorem Own.frmS {w w' : World} {base : Nat} {e : TypeId} {k : IntKind} {v : Value} {l : List Int} {S : List Nat} (h : Own w base e k v l) (hf : Frm w w' S) (hv : ∀ g, v.ownBlock = some g → g ∉ S) : Own w' base e k v l := (h.toV.frm hf hv).toI
theorem RefAt.frm {w w' : World} {L R : Nat} {rk : Option (List Int)} {n : Nat} {q F S : List Nat} (h : RefAt w L R rk n q F) (hf : Frm w w' S) (hs : ∀ g ∈ F, g ∉ S) : RefAt w' L R rk n q F := by
  obtain ⟨rv, iv, h1, h2, h3, h4, rfl, h5⟩ := h
  exact ⟨rv, iv, h1.frm hf (hs _ (by simp)), h2.frmS hf (fun g hg => hs g (by simp [hg])), h3.frmS hf (fun g hg => hs g (by simp [hg])), h4, rfl, h5⟩
theorem RefAt.low {w : World} {L R : Nat} {rk : Option (List Int)} {n : Nat} {q F : List Nat} (h : RefAt w L R rk n q F) : ∀ g ∈ F, L ≤ g ∧ g < w.heap.size := by
  obtain ⟨rv, iv, h1, h2, h3, h4, rfl, h5, h6⟩ := h
  have := h1.lt
  intro g hg
  simp only [List.mem_cons, List.mem_append, Option.mem_toList] at hg
  rcases hg with rfl | hg | hg
  · omega
  · have := h2.size g hg; omega
  · have := h3.size g hg; omega

theorem capacity_any (n : Int) (w : World) : Calls Try.prog 23 #[.int .i64 n] w fun en w' => en = .returned (.int .i64 (room n : Nat)) ∧ w = w' := by
  by_cases h1 : n < 0
  · have e : ((room n : Nat) : Int) = 0 := by unfold room; rw [if_pos h1]; rfl
    rw [e]
    go_enter Try.func23, Try.ntmps23
    go_wp2_with fail
    go_ret
    exact ⟨rfl, rfl⟩
  · by_cases h2 : n > 65536
    · have e : ((room n : Nat) : Int) = 65536 := by unfold room; rw [if_neg h1, if_pos h2]; rfl
      have h2' : 65536 < n := h2
      rw [e]
      go_enter Try.func23, Try.ntmps23
      go_wp2_with fail
      go_ret
      exact ⟨rfl, rfl⟩
    · have e : ((room n : Nat) : Int) = n := by unfold room; rw [if_neg h1, if_neg h2]; omega
      rw [e]
      go_enter Try.func23, Try.ntmps23
      go_wp2_with fail
      go_ret
      exact ⟨rfl, rfl⟩

theorem rnew_any (n : Int) (w : World) : Calls Try.prog 11 #[.int .i64 n] w fun en w' => en = .returned (.pointer (some ⟨w.heap.size, 0, none⟩)) ∧ (∃ F, RefAt w' w.heap.size w.heap.size none (room n) [] F) ∧ Frm w w' [] := by
  have HC := hide (capacity_any n w)
  have hle := room_le n
  generalize room n = m at HC hle
  go_enter Try.func11, Try.ntmps11
  go_wp2_with (go_at_call 23; refine HC.out.mono ?_; rintro en w' ⟨rfl, rfl⟩)
  go_ret
  exact ⟨rfl, ⟨_, _, _, Whole.new w _ _, Own.nil, Own.nil, fun g hg => (by cases hg), rfl, Nat.le_refl _, Nat.zero_le _, hle⟩, (Frm.refl w []).alloc _⟩

theorem rlen_any (w : World) (L R : Nat) (rk : Option (List Int)) (n : Nat) (q F : List Nat) (h : RefAt w L R rk n q F) :
    Calls Try.prog 20 #[.pointer (some ⟨R, 0, none⟩)] w fun en w' => en = .returned (.int .i64 (q.length : Nat)) ∧ w = w' := by
  obtain ⟨rv, iv, h1, h2, -⟩ := h
  obtain ⟨A, c, rfl, hc, hm, -⟩ := h2.rd
  rw [ints_len] at h1
  have c0 := h1.cell 0
  have c4 := h1.cell 4
  clear h1 h2 hm
  go_enter Try.func20, Try.ntmps20
  go_wp2_with fail
  go_ret
  exact ⟨rfl, rfl⟩

theorem rhas_any (w : World) (L R : Nat) (rk : Option (List Int)) (n : Nat) (q F : List Nat) (h : RefAt w L R rk n q F) (i : Int) :
    Calls Try.prog 21 #[.pointer (some ⟨R, 0, none⟩), .int .i64 i] w fun en w' => en = .returned (.bool (decide (0 ≤ i ∧ i.toNat ∈ q))) ∧ w = w' := by
  have e : decide (0 ≤ i ∧ i.toNat ∈ q) = decide (i ∈ ints q) := decide_eq_decide.2 (ints_mem q i).symm
  rw [e]
  obtain ⟨rv, iv, h1, h2, -, -, -, -, h65, -⟩ := h
  rw [← ints_len] at h65
  obtain ⟨A, c, rfl, hc, hm, hr⟩ := h2.rd
  generalize ints q = l at *
  have c0 := h1.cell 0
  have c4 := h1.cell 4
  have HR := hide hr
  clear h1 h2 hm e hr
  go_enter Try.func21, Try.ntmps21
  go_wp2_with fail
  go_loop [21] (fun z => ∃ k : Nat, k ≤ l.length ∧ z = .int .i64 k ∧ i ∉ l.take k) (fun z => l.length - (intOf z).toNat)
  case atStart => exact ⟨0, Nat.zero_le _, rfl, by simp⟩
  case round =>
    obtain ⟨k, hk, rfl, hno⟩ := hrel
    have HN := hide hno
    clear hno
    by_cases hlt : k < l.length
    · obtain ⟨b, off, rfl, hbl, hcell⟩ := HR.out (by omega)
      obtain ⟨x, hx⟩ : ∃ x, l[k]? = some x := ⟨_, List.getElem?_eq_getElem hlt⟩
      have cx := hcell k x hx
      have hlt' : (k : Int) < l.length := by omega
      have HX := hide hx
      clear hcell hx
      by_cases hxi : x = i
      · have t : (x == i) = true := by simpa using hxi
        have HXI := hide hxi
        clear hxi
        go_wp2_with fail
        go_ret
        exact ⟨by rw [decide_eq_true (HXI.out ▸ List.mem_of_getElem? HX.out)]; rfl, rfl⟩
      · have t : (x == i) = false := by simpa using hxi
        have HXI := hide hxi
        clear hxi
        go_wp2_with fail
        go_round
        case rel =>
          refine ⟨k + 1, by omega, by go_num, fun h => ?_⟩
          rw [List.take_add_one, HX.out] at h
          rcases List.mem_append.1 h with h | h
          · exact HN.out h
          · have e : i = x := by simpa using h
            exact HXI.out e.symm
        case measure => simp [intOf]; omega
    · obtain rfl : k = l.length := by omega
      rw [List.take_length] at HN
      clear HR
      go_wp2_with fail
      go_ret
      exact ⟨by rw [decide_eq_false HN.out]; rfl, rfl⟩

theorem ints_snoc (q : List Nat) (x : Nat) : ints q ++ [(x : Int)] = ints (q ++ [x]) := by simp [ints]

/-- Push of a number that is out of range or held. -/
theorem rpush_no (w : World) (L R : Nat) (rk : Option (List Int)) (n : Nat) (q F : List Nat) (h : RefAt w L R rk n q F) (x : Int) (hx : ¬ (0 ≤ x ∧ x < n ∧ x.toNat ∉ q)) :
    Calls Try.prog 19 #[.pointer (some ⟨R, 0, none⟩), .int .i64 x] w fun en w' => en = .returned (.bool false) ∧ w = w' := by
  have HH := hide (rhas_any w L R rk n q F h x)
  obtain ⟨rv, iv, h1, -⟩ := h
  have c0 := h1.cell 0
  have c2 := h1.cell 2
  clear h1
  by_cases h0 : x < 0
  · clear hx
    go_enter Try.func19, Try.ntmps19
    go_wp2_with fail
    go_ret
    exact ⟨rfl, rfl⟩
  · by_cases h2 : x ≥ n
    · have h2' : (n : Int) ≤ x := h2
      clear hx
      go_enter Try.func19, Try.ntmps19
      go_wp2_with fail
      go_ret
      exact ⟨rfl, rfl⟩
    · have hq : 0 ≤ x ∧ x.toNat ∈ q := by
        refine Decidable.byContradiction fun hq => hx ⟨by omega, by omega, fun h => hq ⟨by omega, h⟩⟩
      rw [decide_eq_true hq] at HH
      clear hx hq
      go_enter Try.func19, Try.ntmps19
      go_wp2_with (first | (go_at_call 21; refine HH.out.mono ?_; rintro en w' ⟨rfl, rfl⟩))
      go_ret
      exact ⟨rfl, rfl⟩
/-- Push. -/
theorem rpush_any (w : World) (L R : Nat) (rk : Option (List Int)) (n : Nat) (q F : List Nat) (h : RefAt w L R rk n q F) (x : Nat) (hx : x < n) (hq : x ∉ q) (hl : q.length < 65536) :
    Calls Try.prog 19 #[.pointer (some ⟨R, 0, none⟩), .int .i64 x] w fun en w' => en = .returned (.bool true) ∧ ∃ F', RefAt w' L R rk n (q ++ [x]) F' ∧ Frm w w' F ∧ ∀ g ∈ F', g ∈ F ∨ w.heap.size ≤ g := by
  have HH := hide (rhas_any w L R rk n q F h x)
  rw [decide_eq_false (by simpa using hq : ¬ (0 ≤ (x : Int) ∧ (x : Int).toNat ∈ q))] at HH
  obtain ⟨rv, iv, h1, h2, h3, h4, rfl, hLR, h65, hn⟩ := h
  have hRs := h1.lt
  have c0 := h1.cell 0
  have c2 := h1.cell 2
  have c4 := h1.cell 4
  have h0 : ¬ ((x : Int) < 0) := by omega
  have h2' : ¬ ((x : Int) ≥ n) := by omega
  have hil : (ints q).length = q.length := ints_len q
  have H := hide (And.intro h1 (And.intro h2 (And.intro h3 h4)))
  clear h1 h2 h3 h4 hq
  go_enter Try.func19, Try.ntmps19
  go_wp2_with (first | (go_at_call 21; refine HH.out.mono ?_; rintro en w' ⟨rfl, rfl⟩) | (refine wpList_append_rd _ rfl _ _ 30 rfl (R + 1) 3 .i64 8 intE _ _ rfl (H.out.2.1.alloc _) _ [(x : Int)] rfl (rd_one w 3 (x : Int)) ?b1 ?b2 ?b3 ?_))
  case b1 => simp only [List.length_singleton, hil]; omega
  case b2 => unfold maxLen; simp only [List.length_singleton, hil]; omega
  case b3 => rw [World.size_alloc]; omega
  intro v' w2 ho hg hb hblk
  rw [ints_snoc] at ho
  have hW : Whole w2 R _ _ := (H.out.1.alloc _).grown hg (fun e => by have := (H.out.2.1.size R e.symm).1; omega)
  have hfr : Frm w w2 iv.ownBlock.toList := ((Frm.refl w _).alloc _).trans (Frm.grown hg)
  have h3' := H.out.2.2.1.frmS hfr (fun g hg' hm => by
    have h1 := H.out.2.2.2 g hg'
    have h2 := (H.out.2.1.size g (by simpa using hm)).1
    omega)
  have hset : ∀ u, Frm w2 (w2.setCell ⟨R, 4, none⟩ u) [R] := fun u => (Frm.refl w2 [R]).setCell _ _ (.inl (by simp))
  obtain ⟨A, c, rfl, -, -, -⟩ := ho.rd
  have d4 := hW.cell 4
  have f4 := hW.free 4
  have HZ := hide (And.intro hW (And.intro hfr (And.intro ho (And.intro hblk (And.intro h3' (And.intro H.out.2.2.2 H.out.2.1))))))
  clear hW hfr ho hblk h3' hg hb H HH c0 c2 c4
  go_wp2_with fail
  go_ret
  obtain ⟨hW, hfr, ho, hblk, h3, h4, h2⟩ := HZ.out
  refine ⟨rfl, _, ⟨rv, _, hW.set 4 _, ho.frmS (hset _) (fun g hg hm => ?_), h3.frmS (hset _) (fun g hg hm => ?_), h4, rfl, hLR, by simp; omega, hn⟩, ?_, fun g hg => ?_⟩
  · have := (ho.size g hg).1
    obtain rfl : g = R := by simpa using hm
    omega
  · have := h4 g hg
    obtain rfl : g = R := by simpa using hm
    omega
  · exact (hfr.mono (fun g hg => .inl (by simp at hg; simp [hg]))).trans ((hset _).mono (fun g hg => .inl (by simp at hg; simp [hg])))
  · simp only [List.mem_cons, List.mem_append, Option.mem_toList] at hg ⊢
    rcases hg with rfl | hg | hg
    · exact .inl (.inl rfl)
    · rcases hblk with e | e
      · rw [e] at hg; exact .inl (.inr (.inl hg))
      · rw [e] at hg
        obtain rfl : w.heap.size + 1 = g := by simpa using hg
        exact .inr (by omega)
    · exact .inl (.inr (.inr hg))
end Go.Proofs.Ythdjgbkooeabfaa

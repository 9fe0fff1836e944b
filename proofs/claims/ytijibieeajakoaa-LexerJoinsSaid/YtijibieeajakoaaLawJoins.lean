/-
  LexerJoins, layer 13 (lexer).
-/
import Derived.Test.YtijibieeajakoaaRJoin
namespace Go.Proofs.Ytijibieeajakoaa
open Go.RowKit Go.ChangeShapes Go.WideShapes

/-- A token with any offset. -/
structure TokO where
  t : Tok
  o : Int
def TokO.cells (x : TokO) : List Value := [.int .i64 x.t.kind, .int .i64 x.o, .int .i64 x.t.n, .string (Bs x.t.text)]
def RdO (w : World) (v : Value) (xs : List TokO) : Prop :=
  ∃ A c, v = .slice A xs.length c ∧ (0 < xs.length → ∃ b off, A = some ⟨b, off, none⟩ ∧ b < w.heap.size ∧
    ∀ i x, xs[i]? = some x → w.cell? ⟨b, off + i * 4, none⟩ = some (.int .i64 x.t.kind) ∧ w.cell? ⟨b, off + i * 4 + 1, none⟩ = some (.int .i64 x.o) ∧ w.cell? ⟨b, off + i * 4 + 2, none⟩ = some (.int .i64 x.t.n) ∧ w.cell? ⟨b, off + i * 4 + 3, none⟩ = some (.string (Bs x.t.text)))
theorem RdO.toJ {w : World} {v : Value} {xs : List TokO} (h : RdO w v xs) : RdJ w v (xs.map TokO.t) := by
  obtain ⟨A, c, e, hr⟩ := h
  refine ⟨A, c, by rw [List.length_map]; exact e, fun hn => ?_⟩
  obtain ⟨b, off, e2, hlt, hc⟩ := hr (by simpa using hn)
  refine ⟨b, off, e2, hlt, fun i t ht => ?_⟩
  rw [List.getElem?_map] at ht
  obtain ⟨x, hx, rfl⟩ := Option.map_eq_some_iff.1 ht
  exact ⟨x.o, hc i x hx⟩
theorem RdO.below {w w' : World} {v : Value} {xs : List TokO} (h : RdO w v xs) (hb : Below w.heap.size w w') : RdO w' v xs := by
  obtain ⟨A, c, e, hr⟩ := h
  refine ⟨A, c, e, fun hn => ?_⟩
  obtain ⟨b, off, e2, hlt, hc⟩ := hr hn
  refine ⟨b, off, e2, Nat.lt_of_lt_of_le hlt hb.size, fun i t ht => ?_⟩
  obtain ⟨a0, a1, a2, a3⟩ := hc i t ht
  exact ⟨(hb.cell (p := ⟨b, _, none⟩) hlt).trans a0, (hb.cell (p := ⟨b, _, none⟩) hlt).trans a1, (hb.cell (p := ⟨b, _, none⟩) hlt).trans a2, (hb.cell (p := ⟨b, _, none⟩) hlt).trans a3⟩
/-- What came in: rows of four cells. -/
theorem rdO_of {W : World} {v : Value} {xs : List TokO} (h : RdN W 4 v (xs.map TokO.cells)) : RdO W v xs := by
  obtain ⟨_, A, c, e, _, _, hr⟩ := h
  rw [List.length_map] at e hr
  refine ⟨A, c, e, fun hn => ?_⟩
  obtain ⟨b, off, e2, hlt, hc⟩ := hr hn
  refine ⟨b, off, e2, hlt, fun i x hx => ?_⟩
  have key : ∀ j u, x.cells[j]? = some u → W.cell? ⟨b, off + i * 4 + j, none⟩ = some u := fun j u hu => by
    have := hc i j x.cells u (by rw [List.getElem?_map, hx]; rfl) hu
    rw [Nat.add_assoc]; exact this
  exact ⟨key 0 _ rfl, key 1 _ rfl, key 2 _ rfl, key 3 _ rfl⟩
def OwnO (w : World) (base : Nat) (e : TypeId) (v : Value) (xs : List TokO) : Prop := w.ownsRow base e 4 v xs.length (xs.flatMap TokO.cells)
theorem flatO_at : ∀ (ts : List TokO) (i : Nat) (t : TokO), ts[i]? = some t → ∀ j u, t.cells[j]? = some u → (ts.flatMap TokO.cells)[i * 4 + j]? = some u
  | [], i, t, h, _, _, _ => by simp at h
  | s :: r, 0, t, h, j, u, hu => by
    simp at h; subst h
    have hj : j < 4 := by
      rcases Nat.lt_or_ge j 4 with h | h
      · exact h
      · rw [List.getElem?_eq_none (by simpa [TokO.cells] using h)] at hu; cases hu
    rw [List.flatMap_cons, List.getElem?_append_left (by simp [TokO.cells]; omega), Nat.zero_mul, Nat.zero_add]
    exact hu
  | s :: r, i + 1, t, h, j, u, hu => by
    have := flatO_at r i t (by simpa using h) j u hu
    rw [List.flatMap_cons, List.getElem?_append_right (by simp [TokO.cells]; omega)]
    rw [← this]; congr 1; simp [TokO.cells]; omega
theorem OwnO.rd {w : World} {base : Nat} {e : TypeId} {v : Value} {ts : List TokO} (h : OwnO w base e v ts) : RdO w v ts := by
  have h' := h
  rcases h.2 with ⟨rfl, h0⟩ | ⟨g, cap, cur, rfl, hg⟩
  · exact ⟨none, 0, by rw [h0], fun hn => by omega⟩
  · refine ⟨_, cap, rfl, fun _ => ⟨g, 0, rfl, (World.ownsRow.lt h' g rfl).2, fun i t ht => ?_⟩⟩
    have key : ∀ j u, t.cells[j]? = some u → w.cell? ⟨g, 0 + i * 4 + j, none⟩ = some u := fun j u hu => by
      have := World.ownsRow.cells h' (g := g) rfl (i * 4 + j) u (flatO_at ts i t ht j u hu)
      rw [add_plain] at this
      rw [Nat.add_assoc]; exact this
    exact ⟨key 0 _ rfl, key 1 _ rfl, key 2 _ rfl, key 3 _ rfl⟩
theorem OwnO.snoc {w' : World} {base : Nat} {e : TypeId} {v : Value} {ts : List TokO} {t : TokO} {n : Nat} (h : w'.ownsRow base e 4 v n (ts.flatMap TokO.cells ++ t.cells)) (hn : n = ts.length + 1) : OwnO w' base e v (ts ++ [t]) := by
  unfold OwnO
  rw [List.length_append, List.flatMap_append]
  subst hn
  simpa using h
theorem lenA (n c : Nat) (A : Option Addr) (W : World) (ty : TypeId) : (Builtin.len_ #[23] ty #[.slice A n c]).run Try.prog W = .ok (.int .i64 (n : Int)) W := by
  simp [Builtin.len_, run_underlying Try.underlying23]
  rfl
theorem lenS2 (l : List UInt8) (W : World) (ty : TypeId) : (Builtin.len_ #[9] ty #[.string (Bs l)]).run Try.prog W = .ok (.int .i64 (l.length : Int)) W := by
  rw [run_len_string W 9 ty (Bs l) Try.underlying9, Bs_size]
  rfl
theorem rtokInfo2 : (Try.prog.info? 36).map (fun i => (i.zero, i.size, i.bytes)) = some (some (.agg #[.int .i64 0, .int .i64 0, .int .i64 0, .string { data := #[] }]), 4, 40) := by kernel_rfl

set_option maxRecDepth 100000 in
set_option maxHeartbeats 500000 in
theorem law_joins (xs : List TokO) (hb0 : ∀ x ∈ xs, -9223372036854775808 ≤ x.t.n ∧ x.t.n ≤ 9223372036854775807) (v : Value) (w : World) (hv : RdO w v xs) : Calls Try.prog 5 #[v] w (LawDone w) := by
  have hv0 := hv
  obtain ⟨A, ca, rfl, hca⟩ := hv
  have hla := lenA xs.length ca A
  obtain ⟨n, hnn⟩ : ∃ n, xs.length = n := ⟨_, rfl⟩
  have HA := hide hca
  have HV := hide hv0
  have HN := hide hnn
  have HB0 := hide hb0
  clear hca hv0 hb0
  by_cases h300 : (300 : Int) < (n : Int)
  · rw [hnn] at hla ⊢
    clear hnn
    go_enter Try.func5, Try.ntmps5
    go_wp2_with fail
    refine (awake_any _).mono ?_
    rintro en w1 ⟨rfl, hb1⟩
    go_wp2_with fail
    go_ret
    exact ⟨rfl, hb1⟩
  rw [hnn] at hla HV ⊢
  have hn3 : n ≤ 300 := by omega
  obtain ⟨i0, hi0, hz0, hz1, hz2⟩ := info_parts rtokInfo2
  obtain ⟨q, hq⟩ : ∃ q, w.heap.size = q := ⟨_, rfl⟩
  have HQ := hide hq
  clear hnn hq
  go_enter Try.func5, Try.ntmps5
  go_wp2_with fail
  go_loopw [3, 12] (fun v3 vk wr => ∃ k : Nat, vk = .int .i64 (k : Int) ∧ k ≤ n ∧ OwnO wr q 36 v3 (xs.take k) ∧ (∀ x ∈ xs.take k, x.t.text.length ≤ 300) ∧ Below q w wr ∧ q ≤ wr.heap.size) (fun _ vk _ => n - (intOf vk).toNat)
  case atStart => exact ⟨0, rfl, Nat.zero_le _, World.ownsRow_nil _ _ _ _, (fun x hx => by simp at hx), Below.refl _ _, by rw [HQ.out]; exact Nat.le_refl _⟩
  case round =>
    obtain ⟨k, rfl, hk, hO, htx, hB, hS⟩ := hrel
    have HO := hide hO
    have HX := hide htx
    have HB := hide hB
    have HS := hide hS
    clear hO hB hS htx
    rcases Nat.lt_or_ge k n with hlt | hge
    · obtain ⟨x, hx⟩ : ∃ t, xs[k]? = some t := ⟨_, List.getElem?_eq_getElem (by rw [HN.out]; exact hlt)⟩
      have hsn : xs.take (k + 1) = xs.take k ++ [x] := by rw [List.take_add_one, hx]; rfl
      have hkl : (xs.take k).length = k := by rw [List.length_take, HN.out]; omega
      obtain ⟨b, off, rfl, hbl, hc⟩ := HA.out (by rw [HN.out]; omega)
      obtain ⟨a0, a1, a2, a3⟩ := hc k x hx
      have hbl' : b < q := HQ.out ▸ hbl
      have c0 := (HB.out.cell (p := ⟨b, off + k * 4, none⟩) hbl').trans a0
      have c1 := (HB.out.cell (p := ⟨b, off + k * 4 + 1, none⟩) hbl').trans a1
      have c2 := (HB.out.cell (p := ⟨b, off + k * 4 + 2, none⟩) hbl').trans a2
      have c3 := (HB.out.cell (p := ⟨b, off + k * 4 + 3, none⟩) hbl').trans a3
      obtain ⟨⟨kd, oo, nn, tx⟩, o⟩ := x
      dsimp only at c0 c1 c2 c3
      have HSN := hide hsn
      have HKL := hide hkl
      have hls := lenS2 tx
      clear hx hsn hkl hbl hbl' hc a0 a1 a2 a3
      by_cases ht3 : (300 : Int) < (tx.length : Int)
      · clear HA HO
        go_wp2_with fail
        refine (awake_any _).mono ?_
        rintro en w1 ⟨rfl, hb1⟩
        go_wp2_with fail
        go_ret
        have hS := HS.out
        exact ⟨rfl, by rw [HQ.out]; exact (HB.out.alloc hS _).trans (hb1.mono (by simp only [World.size_alloc]; omega))⟩
      · go_wp2_with (at_builtin; refine wpList_append_own _ rfl (.tmp 21) (.tmp 31) 27 rfl q 36 i0 _ 4 40 Try.underlying27 hi0 hz0 hz1 hz2 rfl (by decide) _ (xs.take k).length _ rfl ((World.ownsRow.alloc HO.out _).alloc _) ⟨wr.heap.size + 1, 0, none⟩ 1 1 [.int .i64 kd, .int .i64 o, .int .i64 nn, .string (Bs tx)] rfl rfl (new4 _ _ (World.size_alloc _ _) _ _ _ _ _) (one4 _ _ _ _) (by rw [HKL.out]; unfold maxLen; omega) (by rw [HKL.out]; omega) (by simp only [World.size_alloc]; have := HS.out; omega) ?_; intro v' w3 hown' hgrow _)
        have hO3 : Hid (OwnO w3 q 36 v' (xs.take (k + 1)) ∧ ∀ y ∈ xs.take (k + 1), y.t.text.length ≤ 300) := by
          show _ ∧ _
          rw [HSN.out]
          refine ⟨OwnO.snoc (t := ⟨⟨kd, oo, nn, tx⟩, o⟩) hown' rfl, fun y hy => ?_⟩
          rcases List.mem_append.1 hy with h | h
          · exact HX.out y h
          · simp only [List.mem_singleton] at h; subst h; show tx.length ≤ 300; omega
        have hB3 : Hid (Below q w w3 ∧ q ≤ w3.heap.size) := by
          have h1 := HS.out
          have h3 := hgrow.size
          simp only [World.size_alloc] at h3
          refine ⟨?_, by omega⟩
          have h4 := (HB.out.alloc (o := .cells #[.int .i64 kd, .int .i64 o, .int .i64 nn, .string (Bs tx)] 34) h1).alloc (o := .cells #[.int .i64 kd, .int .i64 o, .int .i64 nn, .string (Bs tx)] 36) (by simp only [World.size_alloc]; omega)
          exact h4.grown hgrow (by simp only [World.size_alloc]; omega) (fun k hk => (World.ownsRow.lt HO.out k hk).1)
        clear hown' hgrow HO HB HS HX
        go_wp2_with fail
        go_roundw
        case rel => exact ⟨k + 1, by go_num, hlt, hO3.out.1, hO3.out.2, hB3.out.1, hB3.out.2⟩
        case measure => (simp [intOf]; try omega)
    · obtain rfl : k = n := by omega
      have hall : xs.take k = xs := List.take_of_length_le (by rw [HN.out]; exact Nat.le_refl _)
      rw [hall] at HO HX
      have hkk : ∀ t ∈ xs.map TokO.t, KindOk t := by
        intro t ht
        obtain ⟨x, hx, rfl⟩ := List.mem_map.1 ht
        have h1 := HB0.out x hx
        have h2 := HX.out x hx
        exact ⟨h1.1, h1.2, by omega⟩
      have hml : (xs.map TokO.t).length ≤ 20000 := by rw [List.length_map, HN.out]; omega
      have J1 := join_fold (xs.map TokO.t) hml hkk
      have J2 := rjoin_fold (xs.map TokO.t) hml hkk
      obtain ⟨F, hF⟩ : ∃ F, (foldJ (xs.map TokO.t)).1 = F := ⟨_, rfl⟩
      rw [hF] at J1 J2
      have hT := Bs_toList
      have HBw : Hid (Below w.heap.size w wr) := by show Below _ _ _; rw [HQ.out]; exact HB.out
      clear hall hkk hml hF HA HB HN HB0 HX
      go_wp2_with fail
      refine (awake_any _).mono ?_
      rintro en w5 ⟨rfl, hb5⟩
      have R1 := ((HV.out.below HBw.out).below hb5).toJ
      have R2 := (OwnO.rd HO.out).below hb5
      go_wp2_with fail
      refine (J1 _ _ R1).mono ?_
      rintro en w6 ⟨rfl, hb6⟩
      have R3 := (R2.below hb6).toJ
      go_wp2_with fail
      refine (J2 _ _ R3).mono ?_
      rintro en w7 ⟨rfl, hb7⟩
      have HE := hide (Below.all (Below.all (Below.all HBw.out hb5) hb6) hb7)
      clear R1 R2 R3 J1 J2 HO HV hb5 hb6 hb7
      go_wp2_with fail
      go_ret
      exact ⟨by simp, HE.out⟩
end Go.Proofs.Ytijibieeajakoaa

/-
  Layer 6 (digraph): the distances are the least ones; what is asked of a shortest path.
-/
import Derived.Test.YtaehfohljblmoaaReachMath
namespace Go.Proofs.Ytaehfohljblmoaa
open Go.RowKit

/-- The queue ascends, and no one reached lies further than one edge behind its head; the edges of those who have left it are done. -/
structure Lev (h : List (List Int)) (out : Nat → Prop) (d : List Int) (q : List Nat) (e : Int) : Prop where
  top : ∀ x, x < h.length → d.getD x 0 ≤ e + 1
  bot : ∀ y ∈ q, e ≤ d.getD y 0
  asc : q.Pairwise (fun a b => d.getD a 0 ≤ d.getD b 0)
  shut : ∀ y, y < h.length → 0 ≤ d.getD y 0 → y ∉ q → ¬ out y → ∀ x ∈ succs h y, 0 ≤ d.getD x 0 ∧ d.getD x 0 ≤ d.getD y 0 + 1
theorem Lev.reach {k u x : Nat} {h : List (List Int)} {e : Int} {out : Nat → Prop} {d : List Int} {q : List Nat} (hl : Lev h out d q e) (hi : Inn h.length k u e d q) (hx : x < h.length) (hd : d.getD x 0 = -1) : Lev h out (d.set x (e + 1)) (q ++ [x]) e := by
  have hxl : x < d.length := by rw [hi.len]; exact hx
  have e0 := hi.e0
  have ne : ∀ y, 0 ≤ d.getD y 0 → x ≠ y := fun y hy c => by rw [← c, hd] at hy; omega
  have old : ∀ y, 0 ≤ d.getD y 0 → (d.set x (e + 1)).getD y 0 = d.getD y 0 := fun y hy => by rw [getD_set hxl, if_neg (ne y hy)]
  have new : (d.set x (e + 1)).getD x 0 = e + 1 := by rw [getD_set hxl, if_pos rfl]
  refine ⟨fun y hy => ?_, fun y hy => ?_, ?_, fun y hy h0 hq ho z hz => ?_⟩
  · rw [getD_set hxl]
    split
    · exact Int.le_refl _
    · exact hl.top y hy
  · rcases List.mem_append.1 hy with hy | hy
    · rw [old y (hi.inq y hy).2]; exact hl.bot y hy
    · rw [List.mem_singleton.1 hy, new]; omega
  · rw [List.pairwise_append]
    refine ⟨?_, by simp, fun a ha b hb => ?_⟩
    · refine hl.asc.imp_of_mem fun {a b} ha hb hab => ?_
      rw [old a (hi.inq a ha).2, old b (hi.inq b hb).2]
      exact hab
    · rw [List.mem_singleton.1 hb, new, old a (hi.inq a ha).2]
      exact hl.top a (hi.inq a ha).1
  · have hyx : x ≠ y := fun c => hq (by simp [c])
    rw [getD_set hxl, if_neg hyx] at h0
    have h1 := hl.shut y hy h0 (fun c => hq (by simp [c])) ho z hz
    rw [old y h0, old z h1.1]
    exact h1
theorem relax_lev {k u : Nat} {h : List (List Int)} {e : Int} {out : Nat → Prop} (hok : ∀ x ∈ succs h u, x < h.length) : ∀ (r : List Nat) (d : List Int) (q : List Nat), (∀ x ∈ r, x ∈ succs h u) → Lev h out d q e → Inn h.length k u e d q →
    Lev h out (relax u r d q).1 (relax u r d q).2 e ∧ (∀ y, 0 ≤ d.getD y 0 → (relax u r d q).1.getD y 0 = d.getD y 0) ∧ ∀ x ∈ r, 0 ≤ (relax u r d q).1.getD x 0
  | [], d, q, _, hl, hi => ⟨hl, fun _ _ => rfl, fun _ hx => (by cases hx)⟩
  | x :: r, d, q, hr, hl, hi => by
    have hx := hok x (hr x (List.mem_cons_self ..))
    have hxl : x < d.length := by rw [hi.len]; exact hx
    have e0 := hi.e0
    by_cases hd : d.getD x 0 = -1
    · rw [relax_new hd, hi.du]
      obtain ⟨h1, h2, h3⟩ := relax_lev hok r _ _ (fun y hy => hr y (List.mem_cons_of_mem _ hy)) (hl.reach hi hx hd) (hi.reach hx hd)
      have hn : (d.set x (e + 1)).getD x 0 = e + 1 := by rw [getD_set hxl, if_pos rfl]
      refine ⟨h1, fun y hy => ?_, fun y hy => ?_⟩
      · have ho : (d.set x (e + 1)).getD y 0 = d.getD y 0 := by rw [getD_set hxl, if_neg (fun c => by rw [← c, hd] at hy; omega)]
        rw [h2 y (by rw [ho]; exact hy), ho]
      · rcases List.mem_cons.1 hy with rfl | hy
        · rw [h2 y (by rw [hn]; omega), hn]; omega
        · exact h3 y hy
    · rw [relax_old hd]
      obtain ⟨h1, h2, h3⟩ := relax_lev hok r _ _ (fun y hy => hr y (List.mem_cons_of_mem _ hy)) hl hi
      refine ⟨h1, h2, fun y hy => ?_⟩
      rcases List.mem_cons.1 hy with rfl | hy
      · have hm := hi.big (d.getD y 0) (List.mem_of_getElem? (getD_get hxl))
        have h0 : 0 ≤ d.getD y 0 := by omega
        rw [h2 y h0]; exact h0
      · exact h3 y hy
theorem relax_inn {n k u : Nat} {h : List (List Int)} {e : Int} (hok : ∀ x ∈ succs h u, x < n) : ∀ (r : List Nat) (d : List Int) (q : List Nat), (∀ x ∈ r, x ∈ succs h u) → Inn n k u e d q → Inn n k u e (relax u r d q).1 (relax u r d q).2
  | [], d, q, _, hi => hi
  | x :: r, d, q, hr, hi => by
    by_cases hd : d.getD x 0 = -1
    · rw [relax_new hd, hi.du]
      exact relax_inn hok r _ _ (fun y hy => hr y (List.mem_cons_of_mem _ hy)) (hi.reach (hok x (hr x (List.mem_cons_self ..))) hd)
    · rw [relax_old hd]
      exact relax_inn hok r _ _ (fun y hy => hr y (List.mem_cons_of_mem _ hy)) hi
def Shut (h : List (List Int)) (d : List Int) : Prop := ∀ y, y < h.length → 0 ≤ d.getD y 0 → ∀ x ∈ succs h y, 0 ≤ d.getD x 0 ∧ d.getD x 0 ≤ d.getD y 0 + 1
theorem bfs_shut {h : List (List Int)} (hok : okG h = true) : ∀ (k : Nat) (d : List Int) (q : List Nat) (e : Int), Fair h.length k d q → Lev h (fun _ => False) d q e → (∀ u, q.head? = some u → d.getD u 0 = e) → Shut h (bfs h k d q)
  | 0, d, q, e, hf, hl, _ => by
    have h1 := hf.left
    have hq : q = [] := List.eq_nil_of_length_eq_zero (by omega)
    subst hq
    exact fun y hy h0 x hx => hl.shut y hy h0 (by simp) (fun c => c) x hx
  | k + 1, d, [], e, _, hl, _ => fun y hy h0 x hx => hl.shut y hy h0 (by simp) (fun c => c) x hx
  | k + 1, d, u :: q, e, hf, hl, he => by
    obtain rfl := he u rfl
    have hi := hf.inn
    have hasc := List.pairwise_cons.1 hl.asc
    have hl1 : Lev h (fun y => y = u) d q (d.getD u 0) := ⟨hl.top, fun y hy => hl.bot y (List.mem_cons_of_mem _ hy), hasc.2, fun y hy h0 hq ho x hx => hl.shut y hy h0 (fun c => (List.mem_cons.1 c).elim ho hq) (fun c => c) x hx⟩
    obtain ⟨h1, h2, h3⟩ := relax_lev (k := k) (fun x hx => succs_lt hok hx) (succs h u) d q (fun _ h => h) hl1 hi
    have hu0 : 0 ≤ d.getD u 0 := hi.e0
    have hfair := (relax_inn (fun x hx => succs_lt hok hx) (succs h u) d q (fun _ h => h) hi).fair
    have hdone : ∀ x ∈ succs h u, 0 ≤ (relax u (succs h u) d q).1.getD x 0 ∧ (relax u (succs h u) d q).1.getD x 0 ≤ (relax u (succs h u) d q).1.getD u 0 + 1 := fun x hx => ⟨h3 x hx, by
      rw [h2 u hu0]; exact h1.top x (succs_lt hok hx)⟩
    show Shut h (bfs h k (relax u (succs h u) d q).1 (relax u (succs h u) d q).2)
    generalize hd' : (relax u (succs h u) d q).1 = d' at *
    generalize hq' : (relax u (succs h u) d q).2 = q' at *
    cases q' with
    | nil =>
      refine bfs_shut hok k d' [] (d.getD u 0) hfair ⟨h1.top, h1.bot, h1.asc, fun y hy h0 hq _ x hx => ?_⟩ (fun u h => by cases h)
      by_cases c : y = u
      · subst c; exact hdone x hx
      · exact h1.shut y hy h0 hq c x hx
    | cons u2 q2 =>
      have hb := h1.bot u2 (List.mem_cons_self ..)
      have ha := List.pairwise_cons.1 h1.asc
      refine bfs_shut hok k d' (u2 :: q2) (d'.getD u2 0) hfair ⟨fun x hx => by have := h1.top x hx; omega, fun y hy => ?_, h1.asc, fun y hy h0 hq _ x hx => ?_⟩ (fun v h => by cases h; rfl)
      · rcases List.mem_cons.1 hy with rfl | hy
        · exact Int.le_refl _
        · exact ha.1 y hy
      · by_cases c : y = u
        · subst c; exact hdone x hx
        · exact h1.shut y hy h0 hq c x hx
theorem dist_shut {h : List (List Int)} (hok : okG h = true) {v : Nat} (hv : v < h.length) : Shut h (dist h v) := by
  have hl : v < (List.replicate h.length (-1 : Int)).length := by rw [List.length_replicate]; exact hv
  have key : ∀ y, (dist0 h.length v).getD y 0 = if v = y then 0 else (List.replicate h.length (-1 : Int)).getD y 0 := fun y => getD_set hl
  have rep : ∀ y, y < h.length → (List.replicate h.length (-1 : Int)).getD y 0 = -1 := fun y hy => by rw [List.getD_eq_getElem?_getD, List.getElem?_replicate, if_pos hy]; rfl
  refine bfs_shut hok _ _ _ 0 (Fair.init hv) ⟨fun x hx => ?_, fun y hy => ?_, by simp, fun y hy h0 hq _ => ?_⟩ (fun u hu => ?_)
  · rw [key]
    split
    · omega
    · rw [rep x hx]; omega
  · rw [List.mem_singleton.1 hy, key, if_pos rfl]; exact Int.le_refl _
  · rw [key, if_neg (fun c => hq (by simp [c])), rep y hy] at h0
    omega
  · obtain rfl : v = u := by simpa using hu
    rw [key, if_pos rfl]
/-- Whoever has a distance can be reached, and the other way round. -/
theorem dist_way {h : List (List Int)} (hok : okG h = true) {v : Nat} (hv : v < h.length) {x : Nat} (hx : x < h.length) : (dist h v).getD x 0 ≠ -1 ↔ Way h v x := by
  have hg := dist_good hok hv
  have hs := dist_shut hok hv
  constructor
  · have key : ∀ (k : Nat) (x : Nat), x < h.length → (dist h v).getD x 0 = k → Way h v x := by
      intro k
      induction k with
      | zero => intro x hx hd; rw [hg.zero x hx hd]; exact .here
      | succ k ih =>
        intro x hx hd
        obtain ⟨y, hy, hm, he⟩ := hg.down x hx (by omega)
        exact .step (ih y hy (by omega)) hm
    intro hd
    have hr := hg.rng x hx
    exact key ((dist h v).getD x 0).toNat x hx (by omega)
  · intro hw
    have : 0 ≤ (dist h v).getD x 0 := by
      induction hw with
      | here => rw [hg.dv]; exact Int.le_refl _
      | @step u x hw hm ih =>
        have hu := hw.lt hok hv
        exact (hs u hu (ih hu) x hm).1
    omega

theorem short_mem {g : List (List Int)} (hok : okG g = true) {s t : Nat} (hs : s < g.length) (ht : t < g.length) : decide (t ∈ post g s) = decide (short g s t ≠ []) := by
  have hrev : t < (rev g).length := by rw [rev_len]; exact ht
  have hd := dist_way (rev_ok g) hrev (x := s) (by rw [rev_len]; exact hs)
  refine decide_eq_decide.2 ?_
  rw [post_way hok hs]
  have e : short g s t ≠ [] ↔ (dist (rev g) t).getD s 0 ≠ -1 := by
    unfold short
    split <;> simp_all
  rw [e, hd]
  exact ⟨way_rev hok hs, way_back hok ht⟩
/-- What a path is asked: its nodes by their distances. -/
theorem spath_spec {g : List (List Int)} (hok : okG g = true) {t : Nat} (ht : t < g.length) : ∀ (k u : Nat), u < g.length → (dist (rev g) t).getD u 0 = k →
    (spath g (dist (rev g) t) k u).length = k ∧ (∀ x ∈ spath g (dist (rev g) t) k u, x < g.length) ∧
    (∀ (i a b : Nat), (u :: spath g (dist (rev g) t) k u)[i]? = some a → (u :: spath g (dist (rev g) t) k u)[i + 1]? = some b → b ∈ succs g a) ∧
    (u :: spath g (dist (rev g) t) k u).getLast? = some t := by
  have hrev : t < (rev g).length := by rw [rev_len]; exact ht
  have hg := dist_good (rev_ok g) hrev
  rw [rev_len] at hg
  intro k
  induction k with
  | zero =>
    intro u hu hd
    have := hg.zero u hu hd
    refine ⟨rfl, fun x hx => (by cases hx), fun i a b ha hb => ?_, by simp [spath, this]⟩
    simp [spath] at hb
  | succ k ih =>
    intro u hu hd
    obtain ⟨x, hx, hxl, hxs, hxd, -⟩ := next_spec hok hg hu (k := k) (by omega)
    have e : spath g (dist (rev g) t) (k + 1) u = x :: spath g (dist (rev g) t) k x := by
      rw [spath, hx, Int.toNat_natCast]
    rw [e]
    obtain ⟨h1, h2, h3, h4⟩ := ih x hxl hxd
    refine ⟨by rw [List.length_cons, h1], fun y hy => ?_, fun i a b ha hb => ?_, ?_⟩
    · rcases List.mem_cons.1 hy with rfl | hy
      · exact hxl
      · exact h2 y hy
    · cases i with
      | zero =>
        obtain rfl : u = a := by simpa using ha
        obtain rfl : x = b := by simpa using hb
        exact hxs
      | succ i => exact h3 i a b (by simpa using ha) (by simpa using hb)
    · rw [List.getLast?_cons_cons]; exact h4
/-- What holds of a path that is there. -/
theorem short_is {g : List (List Int)} (_hok : okG g = true) {s t : Nat} (hs : s < g.length) (ht : t < g.length) (h : short g s t ≠ []) :
    ∃ k : Nat, (dist (rev g) t).getD s 0 = k ∧ short g s t = s :: spath g (dist (rev g) t) k s := by
  have hrev : t < (rev g).length := by rw [rev_len]; exact ht
  have hg := dist_good (rev_ok g) hrev
  have hr := hg.rng s (by rw [rev_len]; exact hs)
  unfold short at h ⊢
  by_cases c : (dist (rev g) t).getD s 0 = -1
  · rw [if_pos c] at h; exact absurd rfl h
  · rw [if_neg c]
    exact ⟨((dist (rev g) t).getD s 0).toNat, by omega, rfl⟩
/-- Against the path through a successor of the start. -/
theorem short_least {g : List (List Int)} (hok : okG g = true) {s t m : Nat} (hs : s < g.length) (ht : t < g.length) (_hst : s ≠ t) (h : short g s t ≠ []) (hm : m ∈ succs g s) (hq : short g m t ≠ []) :
    (short g s t).length ≤ (short g m t).length + 1 ∧ ((short g m t).length + 1 = (short g s t).length → ∃ x, (short g s t)[1]? = some x ∧ x ≤ m ∧ (x = m → short g m t = (short g s t).drop 1)) := by
  have hml := succs_lt hok hm
  have hrev : t < (rev g).length := by rw [rev_len]; exact ht
  have hg := dist_good (rev_ok g) hrev
  rw [rev_len] at hg
  have hsh := dist_shut (rev_ok g) hrev
  obtain ⟨k, hk, e⟩ := short_is hok hs ht h
  obtain ⟨j, hj, f⟩ := short_is hok hml ht hq
  have l1 := (spath_spec hok ht k s hs hk).1
  have l2 := (spath_spec hok ht j m hml hj).1
  have h1 := (hsh m (by rw [rev_len]; exact hml) (by omega) s ((succs_rev hok hml).2 ⟨hs, hm⟩)).2
  rw [e, f, List.length_cons, List.length_cons, l1, l2]
  refine ⟨by omega, fun hl => ?_⟩
  obtain rfl : k = j + 1 := by omega
  obtain ⟨x, hx, hxl, hxs, hxd, hmin⟩ := next_spec hok hg hs (k := j) (by omega)
  have e2 : spath g (dist (rev g) t) (j + 1) s = x :: spath g (dist (rev g) t) j x := by rw [spath, hx, Int.toNat_natCast]
  rw [e2]
  refine ⟨x, rfl, hmin m hm (by omega), ?_⟩
  rintro rfl
  rfl
theorem short_self {g : List (List Int)} {t : Nat} (ht : t < g.length) : short g t t = [t] := by
  have hrev : t < (rev g).length := by rw [rev_len]; exact ht
  have hg := dist_good (rev_ok g) hrev
  unfold short
  rw [hg.dv, if_neg (by omega)]
  rfl
theorem short_len {g : List (List Int)} (hok : okG g = true) {s t : Nat} (hs : s < g.length) (ht : t < g.length) : (short g s t).length ≤ g.length + 1 := by
  by_cases h : short g s t = []
  · rw [h]; simp
  · obtain ⟨k, hk, e⟩ := short_is hok hs ht h
    obtain ⟨l1, -⟩ := spath_spec hok ht k s hs hk
    have hrev : t < (rev g).length := by rw [rev_len]; exact ht
    have hr := (dist_good (rev_ok g) hrev).rng s (by rw [rev_len]; exact hs)
    rw [rev_len] at hr
    rw [e, List.length_cons, l1]
    omega
/-- All that is asked of a path between two nodes. -/
theorem short_path {g : List (List Int)} (hok : okG g = true) {s t : Nat} (hs : s < g.length) (ht : t < g.length) (hst : s ≠ t) (h : short g s t ≠ []) :
    ∃ S, short g s t = S ∧ 2 ≤ S.length ∧ S.length ≤ g.length + 1 ∧ S[0]? = some s ∧ S[S.length - 1]? = some t ∧ (∀ x ∈ S, x < g.length) ∧
      (∀ i x y, S[i]? = some x → S[i + 1]? = some y → y ∈ succs g x) ∧
      ∀ m ∈ succs g s, short g m t ≠ [] → S.length ≤ (short g m t).length + 1 ∧ ((short g m t).length + 1 = S.length → ∃ x, S[1]? = some x ∧ x ≤ m ∧ (x = m → short g m t = S.drop 1)) := by
  obtain ⟨k, hk, e⟩ := short_is hok hs ht h
  obtain ⟨l1, l2, l3, l4⟩ := spath_spec hok ht k s hs hk
  have hrev : t < (rev g).length := by rw [rev_len]; exact ht
  have hr := (dist_good (rev_ok g) hrev).rng s (by rw [rev_len]; exact hs)
  rw [rev_len] at hr
  refine ⟨short g s t, rfl, ?_, ?_, by rw [e]; rfl, ?_, ?_, fun i x y hx hy => ?_, fun m hm hq => short_least hok hs ht hst h hm hq⟩
  · rw [e, List.length_cons, l1]
    have : k ≠ 0 := fun c => by
      subst c
      have l4' : [s].getLast? = some t := l4
      exact hst (by simpa using l4')
    omega
  · rw [e, List.length_cons, l1]; omega
  · rw [e, ← List.getLast?_eq_getElem?]; exact l4
  · rw [e]
    intro x hx
    rcases List.mem_cons.1 hx with rfl | hx
    · exact hs
    · exact l2 x hx
  · rw [e] at hx hy
    exact l3 i x y hx hy
end Go.Proofs.Ytaehfohljblmoaa

/-
  Layer 7 (scc): Tarjan's search, reckoned: what holds of it at every time.
-/
import Derived.Test.YtakojoedifhcnaaWay
namespace Go.Proofs.Ytakojoedifhcnaa
open Go.RowKit

/-- The search: the turn of each node (0: none yet), the least turn known to be reached, the first of each component; how many have entered; the open nodes by turn; the path, its end first; how many successors of each have been tried. -/
structure Tj where
  turn : Nat → Nat
  low : Nat → Nat
  first : Nat → Nat
  cn : Nat
  opn : List Nat
  path : List Nat
  tr : Nat → Nat
def SC (g : List (List Int)) (x y : Nat) : Prop := Way g x y ∧ Way g y x
theorem Way.trans {g : List (List Int)} {x y z : Nat} (h : Way g x y) (k : Way g y z) : Way g x z := by
  induction k with
  | here => exact h
  | step _ hx ih => exact .step ih hx
theorem SC.symm {g : List (List Int)} {x y : Nat} (h : SC g x y) : SC g y x := ⟨h.2, h.1⟩
theorem SC.trans {g : List (List Int)} {x y z : Nat} (h : SC g x y) (k : SC g y z) : SC g x z := ⟨h.1.trans k.1, k.2.trans h.2⟩
def ChainT (g : List (List Int)) (tr : Nat → Nat) : List Nat → Prop
  | [] => True
  | [_] => True
  | u :: p :: r => (succs g p)[tr p]? = some u ∧ ChainT g tr (p :: r)
theorem ChainT.tail {g : List (List Int)} {tr : Nat → Nat} {u : Nat} : ∀ {p : List Nat}, ChainT g tr (u :: p) → ChainT g tr p
  | [], _ => trivial
  | _ :: _, h => h.2
theorem ChainT.congr {g : List (List Int)} {tr tr' : Nat → Nat} : ∀ {p : List Nat}, ChainT g tr p → (∀ x ∈ p.tail, tr' x = tr x) → ChainT g tr' p
  | [], _, _ => trivial
  | [_], _, _ => trivial
  | u :: p :: r, h, e => ⟨by rw [e p (by simp)]; exact h.1, ChainT.congr h.2 (fun x hx => e x (by simp at hx ⊢; exact .inr hx))⟩
def set1 (f : Nat → Nat) (x v : Nat) : Nat → Nat := fun i => if i = x then v else f i
theorem set1_at (f : Nat → Nat) (x v : Nat) : set1 f x v x = v := by simp [set1]
theorem set1_ne (f : Nat → Nat) {x y : Nat} (v : Nat) (h : y ≠ x) : set1 f x v y = f y := by simp [set1, h]

/-- What is owed below the end of the path: a child that has been left and whose least turn has not been handed on. -/
def Owed (g : List (List Int)) (s : Tj) (p x : Nat) : Prop := s.path.head? = some p ∧ ∃ c, (succs g p)[s.tr p]? = some c ∧ c ∈ s.opn ∧ s.turn p < s.turn c ∧ s.turn c ≤ s.turn x ∧ s.low c ≤ s.low x
structure Inv (g : List (List Int)) (s : Tj) : Prop where
  bnd : ∀ x, s.turn x ≠ 0 → x < g.length
  cnT : ∀ x, s.turn x ≤ s.cn
  cnN : s.cn + cnt (fun x => s.turn x != 0) g.length = g.length
  inj : ∀ x y, s.turn x ≠ 0 → s.turn x = s.turn y → x = y
  ent : ∀ x ∈ s.opn, s.turn x ≠ 0
  asc : s.opn.Pairwise (fun a b => s.turn a < s.turn b)
  pin : ∀ x ∈ s.path, x ∈ s.opn
  dsc : s.path.Pairwise (fun a b => s.turn b < s.turn a)
  chn : ChainT g s.tr s.path
  shut : ∀ x, s.turn x ≠ 0 → x ∉ s.opn → ∀ y ∈ succs g x, s.turn y ≠ 0 ∧ y ∉ s.opn
  lowO : ∀ x ∈ s.opn, s.low x ≤ s.turn x ∧ ∃ z ∈ s.opn, s.turn z = s.low x ∧ Way g x z
  lowC : ∀ x, s.turn x ≠ 0 → x ∉ s.opn → s.low x = g.length + 1
  off : ∀ x ∈ s.opn, x ∉ s.path → s.low x < s.turn x ∧ ∀ y ∈ succs g x, s.turn y ≠ 0 ∧ (y ∈ s.opn → s.low x ≤ s.turn y)
  onp : ∀ x ∈ s.path, ∀ i y, i < s.tr x → (succs g x)[i]? = some y → s.turn y ≠ 0 ∧ (y ∈ s.opn → s.low x ≤ s.turn y)
  under : ∀ x ∈ s.opn, x ∉ s.path → ∃ p ∈ s.path, s.turn p < s.turn x ∧ Way g p x ∧ (∀ q ∈ s.path, s.turn q < s.turn x → s.turn q ≤ s.turn p) ∧ (s.low p ≤ s.low x ∨ Owed g s p x)
  frs : ∀ x y, s.turn x ≠ 0 → x ∉ s.opn → s.turn y ≠ 0 → y ∉ s.opn → (s.first x = s.first y ↔ SC g x y)
  frc : ∀ x, s.turn x ≠ 0 → x ∉ s.opn → s.turn (s.first x) ≠ 0 ∧ s.first x ∉ s.opn

def Tj.zero : Tj := ⟨fun _ => 0, fun _ => 0, fun _ => 0, 0, [], [], fun _ => 0⟩
theorem cnt_all : ∀ n, cnt (fun _ => false) n = n
  | 0 => rfl
  | n + 1 => by unfold cnt; rw [cnt_all n]; rfl
theorem Inv.zero (g : List (List Int)) : Inv g Tj.zero :=
  ⟨fun x h => absurd rfl h, fun _ => Nat.le_refl _, by show 0 + cnt (fun _ => (0 : Nat) != 0) g.length = _; rw [show (fun _ : Nat => (0 : Nat) != 0) = fun _ => false from rfl, cnt_all, Nat.zero_add], fun x y h => absurd rfl h, fun x h => (by cases h), List.Pairwise.nil, fun x h => (by cases h), List.Pairwise.nil, trivial, fun x h => absurd rfl h, fun x h => (by cases h), fun x h => absurd rfl h, fun x h => (by cases h), fun x h => (by cases h), fun x h => (by cases h), fun x y h => absurd rfl h, fun x h => absurd rfl h⟩

/-- A new node enters, a successor of the path's end that is to be tried next, or where there is no path. -/
def Tj.enter (s : Tj) (x : Nat) : Tj := { s with turn := set1 s.turn x (s.cn + 1), low := set1 s.low x (s.cn + 1), cn := s.cn + 1, opn := s.opn ++ [x], path := x :: s.path }
/-- An edge from the path's end is compared. -/
def Tj.comp (s : Tj) (u c : Nat) : Tj := { s with low := set1 s.low u (min (s.low u) (s.low c)), tr := set1 s.tr u (s.tr u + 1) }
/-- The path's end is left: it stays open, or its component is complete: a: those who entered before it. -/
def Tj.keep (s : Tj) (p : List Nat) : Tj := { s with path := p }
def Tj.shutAt (s : Tj) (N u : Nat) (a p : List Nat) : Tj := { s with low := fun i => if i ∈ s.opn ∧ i ∉ a then N + 1 else s.low i, first := fun i => if i ∈ s.opn ∧ i ∉ a then u else s.first i, opn := a, path := p }

section
variable {g : List (List Int)} {s : Tj}
theorem Inv.top (h : Inv g s) {u : Nat} {p : List Nat} (hp : s.path = u :: p) : ∀ q ∈ s.path, s.turn q ≤ s.turn u := by
  intro q hq
  have hd := h.dsc
  rw [hp] at hd hq
  rcases List.mem_cons.1 hq with rfl | hq
  · exact Nat.le_refl _
  · exact Nat.le_of_lt ((List.pairwise_cons.1 hd).1 q hq)
theorem Inv.enter (h : Inv g s) {x : Nat} (hx : x < g.length) (h0 : s.turn x = 0) (hp : s.path = [] ∨ ∃ u p, s.path = u :: p ∧ (succs g u)[s.tr u]? = some x) (htr : s.tr x = 0) : Inv g (s.enter x) := by
  have hxo : x ∉ s.opn := fun c => h.ent x c h0
  have hxp : x ∉ s.path := fun c => hxo (h.pin x c)
  have tn : ∀ y, y ≠ x → (s.enter x).turn y = s.turn y := fun y hy => set1_ne _ _ hy
  have tx : (s.enter x).turn x = s.cn + 1 := set1_at _ _ _
  have ln : ∀ y, y ≠ x → (s.enter x).low y = s.low y := fun y hy => set1_ne _ _ hy
  have lx : (s.enter x).low x = s.cn + 1 := set1_at _ _ _
  have ne : ∀ y, s.turn y ≠ 0 → y ≠ x := fun y hy c => hy (by rw [c]; exact h0)
  have neo : ∀ y ∈ s.opn, y ≠ x := fun y hy => ne y (h.ent y hy)
  have t0 : ∀ y, s.turn y ≠ 0 → (s.enter x).turn y ≠ 0 := fun y hy => by rw [tn y (ne y hy)]; exact hy
  have old : ∀ y, (s.enter x).turn y ≠ 0 → y ∉ (s.enter x).opn → s.turn y ≠ 0 ∧ y ∉ s.opn := fun y hy ho => by
    have hyx : y ≠ x := fun c => ho (by rw [c]; show x ∈ s.opn ++ [x]; simp)
    rw [tn y hyx] at hy
    exact ⟨hy, fun c => ho (by show y ∈ s.opn ++ [x]; simp [c])⟩
  have ino : ∀ y, y ∈ (s.enter x).opn ↔ y ∈ s.opn ∨ y = x := fun y => by show y ∈ s.opn ++ [x] ↔ _; simp
  refine ⟨fun y hy => ?_, fun y => ?_, ?_, fun y z hy hyz => ?_, fun y hy => ?_, ?_, fun y hy => ?_, ?_, ?_, fun y hy ho z hz => ?_, fun y hy => ?_, fun y hy ho => ?_, fun y hy hyp => ?_, fun y hy i z hi hz => ?_, fun y hy hyp => ?_, fun y z hy hyo hz hzo => ?_, fun y hy hyo => ?_⟩
  · by_cases c : y = x
    · rw [c]; exact hx
    · rw [tn y c] at hy; exact h.bnd y hy
  · show _ ≤ s.cn + 1
    by_cases c : y = x
    · rw [c, tx]; exact Nat.le_refl _
    · rw [tn y c]; exact Nat.le_succ_of_le (h.cnT y)
  · show s.cn + 1 + cnt (fun y => (s.enter x).turn y != 0) g.length = g.length
    have e : cnt (fun y => (s.enter x).turn y != 0) g.length = cnt (fun i => s.turn i != 0 || i == x) g.length := cnt_congr _ fun i _ => by
      by_cases c : i = x
      · subst c; rw [tx]; simp
      · rw [tn i c]; simp [c]
    have h1 : cnt (fun i => s.turn i != 0 || i == x) g.length + 1 = cnt (fun y => s.turn y != 0) g.length := cnt_set (f := fun y => s.turn y != 0) (by simpa using h0) g.length hx
    have h2 := h.cnN
    rw [e]
    omega
  · by_cases c : y = x
    · by_cases d : z = x
      · rw [c, d]
      · rw [c, tx, tn z d] at hyz
        have := h.cnT z
        omega
    · by_cases d : z = x
      · rw [d, tx, tn y c] at hyz
        have := h.cnT y
        omega
      · rw [tn y c] at hy hyz
        rw [tn z d] at hyz
        exact h.inj y z hy hyz
  · rcases (ino y).1 hy with hy | rfl
    · exact t0 y (h.ent y hy)
    · rw [tx]; omega
  · show (s.opn ++ [x]).Pairwise _
    rw [List.pairwise_append]
    refine ⟨h.asc.imp_of_mem fun {a b} ha hb hab => ?_, by simp, fun a ha b hb => ?_⟩
    · rw [tn a (neo a ha), tn b (neo b hb)]; exact hab
    · rw [List.mem_singleton.1 hb, tx, tn a (neo a ha)]
      exact Nat.lt_succ_of_le (h.cnT a)
  · rw [ino]
    rcases List.mem_cons.1 hy with rfl | hy
    · exact .inr rfl
    · exact .inl (h.pin y hy)
  · show (x :: s.path).Pairwise _
    refine List.pairwise_cons.2 ⟨fun a ha => ?_, h.dsc.imp_of_mem fun {a b} ha hb hab => ?_⟩
    · rw [tx, tn a (neo a (h.pin a ha))]; exact Nat.lt_succ_of_le (h.cnT a)
    · rw [tn a (neo a (h.pin a ha)), tn b (neo b (h.pin b hb))]; exact hab
  · show ChainT g s.tr (x :: s.path)
    have hc := h.chn
    rcases hp with hp | ⟨u, p, hp, hu⟩
    · rw [hp]; trivial
    · rw [hp] at hc ⊢
      exact ⟨hu, hc⟩
  · obtain ⟨h1, h2⟩ := old y hy ho
    obtain ⟨h3, h4⟩ := h.shut y h1 h2 z hz
    exact ⟨t0 z h3, fun c => ((ino z).1 c).elim h4 (ne z h3)⟩
  · rcases (ino y).1 hy with hy | rfl
    · obtain ⟨h1, z, hz, h2, h3⟩ := h.lowO y hy
      rw [ln y (neo y hy), tn y (neo y hy)]
      exact ⟨h1, z, (ino z).2 (.inl hz), by rw [tn z (neo z hz)]; exact h2, h3⟩
    · rw [lx, tx]
      exact ⟨Nat.le_refl _, y, (ino y).2 (.inr rfl), tx, .here⟩
  · obtain ⟨h1, h2⟩ := old y hy ho
    rw [ln y (ne y h1)]; exact h.lowC y h1 h2
  · have hyx : y ≠ x := fun c => hyp (by rw [c]; exact List.mem_cons_self ..)
    have hy2 := ((ino y).1 hy).resolve_right hyx
    obtain ⟨h1, h2⟩ := h.off y hy2 (fun c => hyp (List.mem_cons_of_mem _ c))
    rw [ln y hyx, tn y hyx]
    refine ⟨h1, fun z hz => ?_⟩
    obtain ⟨h3, h4⟩ := h2 z hz
    refine ⟨t0 z h3, fun hzo => ?_⟩
    rw [tn z (ne z h3)]
    exact h4 (((ino z).1 hzo).resolve_right (ne z h3))
  · have hy3 : y ∈ x :: s.path := hy
    rcases List.mem_cons.1 hy3 with rfl | hy2
    · have hi2 : i < s.tr y := hi
      omega
    · obtain ⟨h3, h4⟩ := h.onp y hy2 i z hi hz
      have hyx := neo y (h.pin y hy2)
      refine ⟨t0 z h3, fun hzo => ?_⟩
      rw [ln y hyx, tn z (ne z h3)]
      exact h4 (((ino z).1 hzo).resolve_right (ne z h3))
  · have hyx : y ≠ x := fun c => hyp (by rw [c]; exact List.mem_cons_self ..)
    have hy2 := ((ino y).1 hy).resolve_right hyx
    obtain ⟨p, hpp, h1, h2, h3, h4⟩ := h.under y hy2 (fun c => hyp (List.mem_cons_of_mem _ c))
    have hpx := neo p (h.pin p hpp)
    refine ⟨p, List.mem_cons_of_mem _ hpp, by rw [tn p hpx, tn y hyx]; exact h1, h2, fun q hq hqy => ?_, .inl ?_⟩
    · rcases List.mem_cons.1 hq with rfl | hq
      · rw [tx, tn y hyx] at hqy
        have := h.cnT y
        omega
      · have hqx := neo q (h.pin q hq)
        rw [tn q hqx, tn y hyx] at hqy
        rw [tn q hqx, tn p hpx]
        exact h3 q hq hqy
    · rw [ln p hpx, ln y hyx]
      refine h4.resolve_right fun ⟨hh, c, hc, hco, _⟩ => ?_
      rcases hp with hp | ⟨u, p', hp, hu⟩
      · rw [hp] at hh; cases hh
      · rw [hp] at hh
        injection hh with e
        subst e
        rw [hu] at hc
        injection hc with e
        subst e
        exact hxo hco
  · obtain ⟨h1, h2⟩ := old y hy hyo
    obtain ⟨h3, h4⟩ := old z hz hzo
    exact h.frs y z h1 h2 h3 h4
  · obtain ⟨h1, h2⟩ := old y hy hyo
    obtain ⟨h3, h4⟩ := h.frc y h1 h2
    exact ⟨t0 _ h3, fun c => ((ino _).1 c).elim h4 (ne _ h3)⟩
theorem Inv.le (h : Inv g s) (x : Nat) : s.turn x ≤ g.length := by
  have h1 := h.cnT x
  have h2 := h.cnN
  omega
theorem Inv.comp (h : Inv g s) {u c : Nat} {p : List Nat} (hp : s.path = u :: p) (hc : (succs g u)[s.tr u]? = some c) (hce : s.turn c ≠ 0) : Inv g (s.comp u c) := by
  have huo : u ∈ s.opn := h.pin u (by rw [hp]; exact List.mem_cons_self ..)
  have hup : u ∈ s.path := by rw [hp]; exact List.mem_cons_self ..
  have ln : ∀ y, y ≠ u → (s.comp u c).low y = s.low y := fun y hy => set1_ne _ _ hy
  have lu : (s.comp u c).low u = min (s.low u) (s.low c) := set1_at _ _ _
  have hle : (s.comp u c).low u ≤ s.low u := by rw [lu]; exact Nat.min_le_left _ _
  have hlc : (s.comp u c).low u ≤ s.low c := by rw [lu]; exact Nat.min_le_right _ _
  have hcm : c ∈ succs g u := List.mem_of_getElem? hc
  have hnd : u ∉ p := fun m => by
    have hd := h.dsc
    rw [hp] at hd
    exact Nat.lt_irrefl _ ((List.pairwise_cons.1 hd).1 u m)
  refine ⟨h.bnd, h.cnT, h.cnN, h.inj, h.ent, h.asc, h.pin, h.dsc, ?_, h.shut, fun y hy => ?_, fun y hy ho => ?_, fun y hy hyp => ?_, fun y hy i z hi hz => ?_, fun y hy hyp => ?_, h.frs, h.frc⟩
  · refine h.chn.congr fun x hx => ?_
    show set1 s.tr u (s.tr u + 1) x = s.tr x
    refine set1_ne _ _ fun e => ?_
    rw [hp, e] at hx
    exact hnd (by simpa using hx)
  · by_cases e : y = u
    · subst e
      obtain ⟨h1, z, hz, h2, h3⟩ := h.lowO y hy
      refine ⟨Nat.le_trans hle h1, ?_⟩
      by_cases hco : c ∈ s.opn
      · obtain ⟨h4, z2, hz2, h5, h6⟩ := h.lowO c hco
        rw [lu]
        rcases Nat.le_total (s.low y) (s.low c) with m | m
        · rw [Nat.min_eq_left m]; exact ⟨z, hz, h2, h3⟩
        · rw [Nat.min_eq_right m]; exact ⟨z2, hz2, h5, (Way.step .here hcm).trans h6⟩
      · have h4 := h.lowC c hce hco
        have h5 := h.le y
        rw [lu, Nat.min_eq_left (by omega)]
        exact ⟨z, hz, h2, h3⟩
    · rw [ln y e]; exact h.lowO y hy
  · have e : y ≠ u := fun e => ho (e ▸ huo)
    rw [ln y e]; exact h.lowC y hy ho
  · have e : y ≠ u := fun e => hyp (e ▸ hup)
    rw [ln y e]; exact h.off y hy hyp
  · by_cases e : y = u
    · subst e
      have hi2 : i < set1 s.tr y (s.tr y + 1) y := hi
      rw [set1_at] at hi2
      rcases Nat.lt_succ_iff_lt_or_eq.1 hi2 with hi3 | rfl
      · obtain ⟨h1, h2⟩ := h.onp y hy i z hi3 hz
        exact ⟨h1, fun hzo => Nat.le_trans hle (h2 hzo)⟩
      · rw [hc] at hz
        injection hz with hz
        subst hz
        exact ⟨hce, fun hzo => Nat.le_trans hlc (h.lowO c hzo).1⟩
    · have hi2 : i < set1 s.tr u (s.tr u + 1) y := hi
      rw [set1_ne _ _ e] at hi2
      rw [ln y e]
      exact h.onp y hy i z hi2 hz
  · have e : y ≠ u := fun e => hyp (e ▸ hup)
    obtain ⟨q, hq, h1, h2, h3, h4⟩ := h.under y hy hyp
    refine ⟨q, hq, h1, h2, h3, .inl ?_⟩
    rw [ln y e]
    by_cases eq : q = u
    · subst eq
      rcases h4 with h4 | ⟨_, c', hc', _, _, _, h5⟩
      · exact Nat.le_trans hle h4
      · rw [hc] at hc'
        injection hc' with hc'
        subst hc'
        exact Nat.le_trans hlc h5
    · rw [ln q eq]
      refine h4.resolve_right fun ⟨hh, _⟩ => ?_
      rw [hp] at hh
      injection hh with hh
      exact eq hh.symm
/-- At the end of u's successors: all who came after u and are open have what u has. -/
theorem Inv.above (h : Inv g s) {u : Nat} {p : List Nat} (hp : s.path = u :: p) (hd : (succs g u).length ≤ s.tr u) {x : Nat} (hx : x ∈ s.opn) (hux : s.turn u < s.turn x) : x ∉ s.path ∧ Way g u x ∧ s.low u ≤ s.low x := by
  have hup : u ∈ s.path := by rw [hp]; exact List.mem_cons_self ..
  have hxp : x ∉ s.path := fun c => by have := h.top hp x c; omega
  obtain ⟨q, hq, h1, h2, h3, h4⟩ := h.under x hx hxp
  have h5 := h3 u hup hux
  have h6 := h.top hp q hq
  have e : q = u := h.inj q u (h.ent q (h.pin q hq)) (by omega)
  subst e
  refine ⟨hxp, h2, h4.resolve_right fun ⟨_, c, hc, _⟩ => ?_⟩
  have := (List.getElem?_eq_some_iff.1 hc).1
  omega
theorem Inv.keep (h : Inv g s) {u : Nat} {p : List Nat} (hp : s.path = u :: p) (hd : (succs g u).length ≤ s.tr u) (hlow : s.low u ≠ s.turn u) : Inv g (s.keep p) := by
  have huo : u ∈ s.opn := h.pin u (by rw [hp]; exact List.mem_cons_self ..)
  have hup : u ∈ s.path := by rw [hp]; exact List.mem_cons_self ..
  have hds := h.dsc
  rw [hp] at hds
  have hds2 := List.pairwise_cons.1 hds
  have sub : ∀ x, x ∈ p → x ∈ s.path := fun x hx => by rw [hp]; exact List.mem_cons_of_mem _ hx
  have hlt : s.low u < s.turn u := Nat.lt_of_le_of_ne (h.lowO u huo).1 hlow
  -- u is not the foot of the path
  obtain ⟨z, hz, hzl, hzw⟩ := (h.lowO u huo).2
  have hex : ∃ q r, p = q :: r := by
    cases p with
    | cons q r => exact ⟨q, r, rfl⟩
    | nil =>
      exfalso
      have hzp : z ∉ s.path := fun c => by
        rw [hp] at c
        have e : z = u := by simpa using c
        rw [e] at hzl; omega
      obtain ⟨q, hq, h1, -⟩ := h.under z hz hzp
      rw [hp] at hq
      have e : q = u := by simpa using hq
      rw [e] at h1; omega
  obtain ⟨q, r, rfl⟩ := hex
  have hqu : s.turn q < s.turn u := hds2.1 q (List.mem_cons_self ..)
  have hch := h.chn
  rw [hp] at hch
  have hqs : (succs g q)[s.tr q]? = some u := hch.1
  have hqm : ∀ y ∈ q :: r, s.turn y ≤ s.turn q := fun y hy => by
    rcases List.mem_cons.1 hy with rfl | hy
    · exact Nat.le_refl _
    · exact Nat.le_of_lt ((List.pairwise_cons.1 hds2.2).1 y hy)
  have wq : Way g q u := .step .here (List.mem_of_getElem? hqs)
  refine ⟨h.bnd, h.cnT, h.cnN, h.inj, h.ent, h.asc, fun x hx => h.pin x (sub x hx), hds2.2, hch.2, h.shut, h.lowO, h.lowC, fun y hy hyp => ?_, fun y hy => h.onp y (sub y hy), fun y hy hyp => ?_, h.frs, h.frc⟩
  · by_cases e : y = u
    · subst e
      refine ⟨hlt, fun x hx => ?_⟩
      obtain ⟨i, hi⟩ := List.getElem?_of_mem hx
      exact h.onp y hup i x (by have := (List.getElem?_eq_some_iff.1 hi).1; omega) hi
    · exact h.off y hy (fun c => by
        rw [hp] at c
        rcases List.mem_cons.1 c with c | c
        · exact e c
        · exact hyp c)
  · by_cases e : y = u
    · subst e
      exact ⟨q, List.mem_cons_self .., hqu, wq, fun x hx hxy => hqm x hx, .inr ⟨rfl, y, hqs, huo, hqu, Nat.le_refl _, Nat.le_refl _⟩⟩
    · have hyp2 : y ∉ s.path := fun c => by
        rw [hp] at c
        rcases List.mem_cons.1 c with c | c
        · exact e c
        · exact hyp c
      obtain ⟨q2, hq2, h1, h2, h3, h4⟩ := h.under y hy hyp2
      by_cases e2 : q2 = u
      · subst e2
        have h5 := (h.above hp hd hy h1).2.2
        exact ⟨q, List.mem_cons_self .., Nat.lt_trans hqu h1, wq.trans h2, fun x hx hxy => hqm x hx, .inr ⟨rfl, q2, hqs, huo, hqu, Nat.le_of_lt h1, h5⟩⟩
      · have hq3 : q2 ∈ q :: r := by
          rw [hp] at hq2
          exact (List.mem_cons.1 hq2).resolve_left e2
        refine ⟨q2, hq3, h1, h2, fun x hx hxy => h3 x (sub x hx) hxy, .inl (h4.resolve_right fun ⟨hh, _⟩ => ?_)⟩
        rw [hp] at hh
        injection hh with hh
        exact e2 hh.symm
theorem Inv.shutAt (h : Inv g s) {u : Nat} {p a b : List Nat} (hp : s.path = u :: p) (hd : (succs g u).length ≤ s.tr u) (hlow : s.low u = s.turn u) (ho : s.opn = a ++ u :: b) : Inv g (s.shutAt g.length u a p) := by
  have huo : u ∈ s.opn := by rw [ho]; simp
  have hup : u ∈ s.path := by rw [hp]; exact List.mem_cons_self ..
  have hds := h.dsc
  rw [hp] at hds
  have hds2 := List.pairwise_cons.1 hds
  have sub : ∀ x, x ∈ p → x ∈ s.path := fun x hx => by rw [hp]; exact List.mem_cons_of_mem _ hx
  have hasc := h.asc
  rw [ho] at hasc
  have hpa := List.pairwise_append.1 hasc
  have alt : ∀ x ∈ a, s.turn x < s.turn u := fun x hx => hpa.2.2 x hx u (List.mem_cons_self ..)
  have blt : ∀ x ∈ b, s.turn u < s.turn x := fun x hx => (List.pairwise_cons.1 hpa.2.1).1 x hx
  have ain : ∀ x ∈ a, x ∈ s.opn := fun x hx => by rw [ho]; simp [hx]
  have hcut : ∀ x, x ∈ s.opn → x ∉ a → x = u ∨ x ∈ b := fun x hx hxa => by
    rw [ho] at hx
    rcases List.mem_append.1 hx with hx | hx
    · exact absurd hx hxa
    · exact List.mem_cons.1 hx
  have ina : ∀ x, x ∈ s.opn → s.turn x < s.turn u → x ∈ a := fun x hx hlt => by
    refine Classical.byContradiction fun hxa => ?_
    rcases hcut x hx hxa with rfl | hb
    · omega
    · have := blt x hb; omega
  have una : u ∉ a := fun c => Nat.lt_irrefl _ (alt u c)
  -- the members of the component
  have mem : ∀ x, x ∈ s.opn → x ∉ a → s.turn u ≤ s.low x ∧ Way g u x ∧ (x = u ∨ x ∉ s.path) := fun x hx hxa => by
    rcases hcut x hx hxa with rfl | hb
    · exact ⟨by omega, .here, .inl rfl⟩
    · obtain ⟨h1, h2, h3⟩ := h.above hp hd hx (blt x hb)
      exact ⟨by omega, h2, .inr h1⟩
  have back : ∀ (n x : Nat), s.turn x ≤ n → x ∈ s.opn → x ∉ a → Way g x u := by
    intro n
    induction n with
    | zero => intro x hn hx _; exact absurd (Nat.le_zero.1 hn) (h.ent x hx)
    | succ n ih =>
      intro x hn hx hxa
      rcases hcut x hx hxa with rfl | hb
      · exact .here
      · obtain ⟨h1, _, h3⟩ := mem x hx hxa
        have hxu : x ≠ u := fun e => by have := blt x hb; rw [e] at this; omega
        have h4 := (h.off x hx (h3.resolve_left hxu)).1
        obtain ⟨_, z, hz, h5, h6⟩ := h.lowO x hx
        have hza : z ∉ a := fun c => by have := alt z c; omega
        exact h6.trans (ih z (by omega) hz hza)
  have scu : ∀ x, x ∈ s.opn → x ∉ a → SC g x u := fun x hx hxa => ⟨back _ x (Nat.le_refl _) hx hxa, (mem x hx hxa).2.1⟩
  have succD : ∀ x, x ∈ s.opn → x ∉ a → ∀ y ∈ succs g x, s.turn y ≠ 0 ∧ y ∉ a := fun x hx hxa y hy => by
    obtain ⟨h1, _, h3⟩ := mem x hx hxa
    have key : s.turn y ≠ 0 ∧ (y ∈ s.opn → s.low x ≤ s.turn y) := by
      by_cases e : x = u
      · subst e
        obtain ⟨i, hi⟩ := List.getElem?_of_mem hy
        exact h.onp x hup i y (by have := (List.getElem?_eq_some_iff.1 hi).1; omega) hi
      · exact (h.off x hx (h3.resolve_left e)).2 y hy
    exact ⟨key.1, fun c => by have := alt y c; have := key.2 (ain y c); omega⟩
  have lo : ∀ x ∈ a, (s.shutAt g.length u a p).low x = s.low x := fun x hx => if_neg (fun c => c.2 hx)
  have pa : ∀ x ∈ p, x ∈ a := fun x hx => ina x (h.pin x (sub x hx)) (hds2.1 x hx)
  have closedNot : ∀ x, s.turn x ≠ 0 → x ∉ s.opn → ∀ y, Way g x y → s.turn y ≠ 0 ∧ y ∉ s.opn := fun x hx hxo y hw => by
    induction hw with
    | here => exact ⟨hx, hxo⟩
    | step _ hy ih => exact h.shut _ ih.1 ih.2 _ hy
  have frD : ∀ x, x ∈ s.opn → x ∉ a → (s.shutAt g.length u a p).first x = u := fun x hx hxa => if_pos ⟨hx, hxa⟩
  have frO : ∀ x, x ∉ s.opn → (s.shutAt g.length u a p).first x = s.first x := fun x hx => if_neg (fun c => hx c.1)
  refine ⟨h.bnd, h.cnT, h.cnN, h.inj, fun x hx => h.ent x (ain x hx), hpa.1, pa, hds2.2, ?_, fun x hx hxa y hy => ?_, fun x hx => ?_, fun x hx hxa => ?_, fun x hx hxp => ?_, fun x hx => ?_, fun x hx hxp => ?_, fun x y hx hxa hy hya => ?_, fun x hx hxa => ?_⟩
  · have hch := h.chn
    rw [hp] at hch
    exact hch.tail
  · by_cases hxo : x ∈ s.opn
    · exact succD x hxo hxa y hy
    · obtain ⟨h1, h2⟩ := h.shut x hx hxo y hy
      exact ⟨h1, fun c => h2 (ain y c)⟩
  · obtain ⟨h1, z, hz, h2, h3⟩ := h.lowO x (ain x hx)
    have hxu := alt x hx
    rw [lo x hx]
    exact ⟨h1, z, ina z hz (by omega), h2, h3⟩
  · by_cases hxo : x ∈ s.opn
    · exact if_pos ⟨hxo, hxa⟩
    · exact (if_neg (fun c => hxo c.1)).trans (h.lowC x hx hxo)
  · have hxp2 : x ∉ s.path := fun c => by
      rw [hp] at c
      rcases List.mem_cons.1 c with rfl | c
      · exact una hx
      · exact hxp c
    obtain ⟨h1, h2⟩ := h.off x (ain x hx) hxp2
    rw [lo x hx]
    exact ⟨h1, fun y hy => ⟨(h2 y hy).1, fun hya => (h2 y hy).2 (ain y hya)⟩⟩
  · intro i y hi hy
    obtain ⟨h1, h2⟩ := h.onp x (sub x hx) i y hi hy
    rw [lo x (pa x hx)]
    exact ⟨h1, fun hya => h2 (ain y hya)⟩
  · have hxp2 : x ∉ s.path := fun c => by
      rw [hp] at c
      rcases List.mem_cons.1 c with rfl | c
      · exact una hx
      · exact hxp c
    obtain ⟨q, hq, h1, h2, h3, h4⟩ := h.under x (ain x hx) hxp2
    have hqp : q ∈ p := by
      rw [hp] at hq
      refine (List.mem_cons.1 hq).resolve_left fun e => ?_
      have := alt x hx
      rw [e] at h1; omega
    refine ⟨q, hqp, h1, h2, fun y hy hyx => h3 y (sub y hy) hyx, .inl ?_⟩
    rw [lo x hx, lo q (pa q hqp)]
    refine h4.resolve_right fun ⟨hh, _⟩ => ?_
    rw [hp] at hh
    injection hh with hh
    have := hds2.1 q hqp
    rw [hh] at this; omega
  · have hx2 : s.turn x ≠ 0 := hx
    have hy2 : s.turn y ≠ 0 := hy
    have hxa2 : x ∉ a := hxa
    have hya2 : y ∉ a := hya
    by_cases hxo : x ∈ s.opn
    · by_cases hyo : y ∈ s.opn
      · rw [frD x hxo hxa2, frD y hyo hya2]
        exact ⟨fun _ => (scu x hxo hxa2).trans (scu y hyo hya2).symm, fun _ => rfl⟩
      · rw [frD x hxo hxa2, frO y hyo]
        refine ⟨fun e => absurd huo (e ▸ (h.frc y hy2 hyo).2), fun e => absurd hxo (closedNot y hy2 hyo x e.2).2⟩
    · by_cases hyo : y ∈ s.opn
      · rw [frO x hxo, frD y hyo hya2]
        refine ⟨fun e => absurd huo (e.symm ▸ (h.frc x hx2 hxo).2), fun e => absurd hyo (closedNot x hx2 hxo y e.1).2⟩
      · rw [frO x hxo, frO y hyo]
        exact h.frs x y hx2 hxo hy2 hyo
  · have hx2 : s.turn x ≠ 0 := hx
    by_cases hxo : x ∈ s.opn
    · rw [frD x hxo hxa]
      exact ⟨h.ent u huo, una⟩
    · rw [frO x hxo]
      obtain ⟨h1, h2⟩ := h.frc x hx2 hxo
      exact ⟨h1, fun c => h2 (ain _ c)⟩
end
end Go.Proofs.Ytakojoedifhcnaa

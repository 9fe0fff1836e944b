/-
  Layer 7 (scc): the order of the components: time and again the least whose successors are all listed.
-/
import Derived.Test.YtakojoedifhcnaaTCond
import Derived.Test.YtakojoedifhcnaaTHeap
namespace Go.Proofs.Ytakojoedifhcnaa
open Go.RowKit

/-- k is not listed, and all its successors are. -/
def Rdy (C : List (List Int)) (lst : List Nat) (k : Nat) : Prop := k < C.length ∧ k ∉ lst ∧ ∀ m ∈ C.getD k [], m.toNat ∈ lst
/-- A list to which the least that is ready was added, time and again. -/
inductive Grd (C : List (List Int)) : List Nat → Prop
  | nil : Grd C []
  | snoc {lst : List Nat} {k : Nat} : Grd C lst → Rdy C lst k → (∀ j, Rdy C lst j → k ≤ j) → Grd C (lst ++ [k])
section
variable {C : List (List Int)} {lst : List Nat}
theorem Grd.lt (h : Grd C lst) : ∀ k ∈ lst, k < C.length := by
  induction h with
  | nil => intro k hk; cases hk
  | snoc _ hr _ ih =>
    intro k hk
    rcases List.mem_append.1 hk with hk | hk
    · exact ih k hk
    · rw [List.mem_singleton.1 hk]; exact hr.1
theorem Grd.nodup (h : Grd C lst) : lst.Nodup := by
  induction h with
  | nil => exact List.nodup_nil
  | snoc _ hr _ ih =>
    refine List.nodup_append.2 ⟨ih, by simp, fun a ha b hb => ?_⟩
    rw [List.mem_singleton.1 hb]
    exact fun e => hr.2.1 (e ▸ ha)
theorem Grd.clos (h : Grd C lst) : ∀ k ∈ lst, ∀ m ∈ C.getD k [], m.toNat ∈ lst := by
  induction h with
  | nil => intro k hk; cases hk
  | snoc _ hr _ ih =>
    intro k hk m hm
    rcases List.mem_append.1 hk with hk | hk
    · exact List.mem_append_left _ (ih k hk m hm)
    · rw [List.mem_singleton.1 hk] at hm; exact List.mem_append_left _ (hr.2.2 m hm)
theorem Grd.unique (h : Grd C lst) : ∀ l2, Grd C l2 → l2.length = lst.length → l2 = lst := by
  induction h with
  | nil => intro l2 _ e; exact List.length_eq_zero_iff.1 e
  | @snoc lst k h1 hr hm ih =>
    intro l2 h2 e
    cases h2 with
    | nil => simp at e
    | @snoc l3 j h3 hr3 hm3 =>
      have e3 : l3 = lst := ih l3 h3 (by simpa using e)
      subst e3
      rw [Nat.le_antisymm (hm3 k hr) (hm j hr3)]

/-- How many edges from k lead to those that are not listed. -/
def miss (C : List (List Int)) (lst : List Nat) (k : Nat) : Nat := ((C.getD k []).filter fun m => decide (m.toNat ∉ lst)).length
theorem miss_zero {k : Nat} : miss C lst k = 0 ↔ ∀ m ∈ C.getD k [], m.toNat ∈ lst := by
  unfold miss
  rw [List.length_eq_zero_iff, List.filter_eq_nil_iff]
  constructor
  · intro h m hm
    have := h m hm
    simpa using this
  · intro h m hm
    simpa using h m hm
theorem miss_nil (k : Nat) : miss C [] k = (C.getD k []).length := by unfold miss; rw [List.filter_eq_self.2 (fun _ _ => by simp)]
theorem rdy_iff {k : Nat} : Rdy C lst k ↔ k < C.length ∧ k ∉ lst ∧ miss C lst k = 0 := by unfold Rdy; rw [miss_zero]
/-- Once x is listed, as many fewer edges are missing as lead to x. -/
theorem miss_snoc {k x : Nat} (hx : x ∉ lst) (ok : ∀ m ∈ C.getD k [], 0 ≤ m) : miss C (lst ++ [x]) k + (C.getD k []).count (x : Int) = miss C lst k := by
  unfold miss
  generalize C.getD k [] = l at ok
  induction l with
  | nil => rfl
  | cons m l ih =>
    have h1 := ih (fun m hm => ok m (List.mem_cons_of_mem _ hm))
    have h0 := ok m List.mem_cons_self
    rw [List.filter_cons, List.filter_cons, List.count_cons]
    by_cases e : m = (x : Int)
    · subst e
      have a1 : (decide ((x : Int).toNat ∉ lst ++ [x])) = false := by simp
      have a2 : (decide ((x : Int).toNat ∉ lst)) = true := by simpa using hx
      rw [a1, a2]
      simp only [if_true, List.length_cons, beq_self_eq_true, Bool.false_eq_true, if_false]
      omega
    · have ne : m.toNat ≠ x := by omega
      have a1 : (decide (m.toNat ∉ lst ++ [x])) = decide (m.toNat ∉ lst) := by simp [ne]
      have a2 : (m == (x : Int)) = false := by simpa using e
      rw [a1, a2]
      by_cases c : m.toNat ∉ lst
      · simp only [decide_eq_true c, if_true, List.length_cons, Bool.false_eq_true, if_false]; omega
      · simp only [decide_eq_false c, Bool.false_eq_true, if_false]; omega
end

theorem filter_lt {α : Type} {p q : α → Bool} : ∀ (l : List α), (∀ z ∈ l, p z = true → q z = true) → (∃ z ∈ l, q z = true ∧ p z = false) → (l.filter p).length < (l.filter q).length := by
  have le : ∀ (l : List α), (∀ z ∈ l, p z = true → q z = true) → (l.filter p).length ≤ (l.filter q).length := by
    intro l
    induction l with
    | nil => intro _; simp
    | cons a l ih =>
      intro h
      have h1 := ih fun z hz => h z (List.mem_cons_of_mem _ hz)
      have h2 := h a List.mem_cons_self
      rw [List.filter_cons, List.filter_cons]
      cases hp : p a
      · cases hqa : q a <;> simp only [Bool.false_eq_true, if_false, if_true, List.length_cons] <;> omega
      · rw [h2 hp]; simpa using h1
  intro l
  induction l with
  | nil => intro _ h; obtain ⟨z, hz, -⟩ := h; cases hz
  | cons a l ih =>
    intro h he
    have hl : ∀ z ∈ l, p z = true → q z = true := fun z hz => h z (List.mem_cons_of_mem _ hz)
    have h2 := h a List.mem_cons_self
    obtain ⟨z, hz, hq, hp⟩ := he
    rw [List.filter_cons, List.filter_cons]
    rcases List.mem_cons.1 hz with e | hz
    · subst e
      rw [hq, hp]
      have := le l hl
      simp only [Bool.false_eq_true, if_false, if_true, List.length_cons]; omega
    · have h1 := ih hl ⟨z, hz, hq, hp⟩
      cases hpa : p a
      · cases hqa : q a <;> simp only [Bool.false_eq_true, if_false, if_true, List.length_cons] <;> omega
      · rw [h2 hpa]; simpa using h1
open Classical in
noncomputable def rk (g : List (List Int)) (x : Nat) : Nat := ((List.range g.length).filter fun z => decide (Way g x z)).length
theorem mem_cond {g : List (List Int)} {num : Nat → Nat} {cnt k : Nat} (hok : okG g = true) (hk : k < cnt) {m : Int} (hm : m ∈ (cond g num cnt).getD k []) : ∃ x y : Nat, x < g.length ∧ y < g.length ∧ num x = k ∧ m = (num y : Int) ∧ num y ≠ num x ∧ (y : Int) ∈ g.getD x [] := by
  have e : (cond g num cnt).getD k [] = condTo g num g.length k := by unfold cond; simp [hk]
  rw [e] at hm
  unfold condTo at hm
  obtain ⟨x, hx, hm⟩ := List.mem_flatMap.1 hm
  have hx := List.mem_range.1 hx
  split at hm
  · rename_i hxk
    unfold hop at hm
    obtain ⟨z, hz, rfl⟩ := List.mem_map.1 hm
    obtain ⟨hz, hne⟩ := List.mem_filter.1 hz
    obtain ⟨l, hl⟩ : ∃ l, g[x]? = some l := ⟨_, List.getElem?_eq_getElem hx⟩
    have hz' := hz
    rw [getD_of hl] at hz'
    obtain ⟨j, hj⟩ := List.getElem?_of_mem hz'
    obtain ⟨y, rfl, hy⟩ := ok_node hok hl hj
    exact ⟨x, y, hx, hy, hxk, by simp, by simpa using hne, hz⟩
  · cases hm

/-- While one is not listed, one is ready: the components' graph has no cycle. -/
theorem ready_some {g : List (List Int)} {num : Nat → Nat} {cnt : Nat} {lst : List Nat} (hok : okG g = true) (hp : Parts g cnt num) : ∀ (r x : Nat), x < g.length → rk g x ≤ r → num x ∉ lst → ∃ k, Rdy (cond g num cnt) lst k := by
  intro r
  induction r with
  | zero =>
    intro x hx hr
    exfalso
    have : 0 < rk g x := by
      unfold rk
      rw [List.length_pos_iff_exists_mem]
      exact ⟨x, List.mem_filter.2 ⟨List.mem_range.2 hx, by simpa using Way.here⟩⟩
    omega
  | succ r ih =>
    intro x hx hr hn
    by_cases hall : ∀ m ∈ (cond g num cnt).getD (num x) [], m.toNat ∈ lst
    · exact ⟨num x, by rw [cond_len]; exact hp.lt x hx, hn, hall⟩
    · simp only [Classical.not_forall] at hall
      obtain ⟨m, hm, hml⟩ := hall
      obtain ⟨u, y, hu, hy, hux, rfl, hne, hedge⟩ := mem_cond hok (hp.lt x hx) hm
      have hsc := (hp.cls u x hu hx).1 hux
      have hs : y ∈ succs g u := by
        unfold succs
        exact List.mem_map.2 ⟨_, hedge, by simp⟩
      have hxy : Way g x y := hsc.2.trans (.step .here hs)
      have hyx : ¬ Way g y x := fun c => hne ((hp.cls y u hy hu).2 ⟨c.trans hsc.2, .step .here hs⟩)
      refine ih y hy ?_ (by simpa using hml)
      have : rk g y < rk g x := by
        unfold rk
        refine filter_lt _ (fun z _ hz => ?_) ⟨x, List.mem_range.2 hx, ?_, ?_⟩
        · have h1 : Way g y z := by simpa using hz
          simpa using hxy.trans h1
        · simpa using Way.here
        · simpa using hyx
      omega
theorem least_of {P : Nat → Prop} : ∀ k, P k → ∃ m, P m ∧ ∀ j, P j → m ≤ j := by
  intro k
  induction k using Nat.strongRecOn with
  | _ k ih =>
    intro hk
    by_cases h : ∃ j, j < k ∧ P j
    · obtain ⟨j, hj, hpj⟩ := h
      exact ih j hj hpj
    · exact ⟨k, hk, fun j hj => Nat.le_of_not_lt fun c => h ⟨j, c, hj⟩⟩
/-- A list of all the components, in their order. -/
theorem grd_full {g : List (List Int)} {num : Nat → Nat} {cnt : Nat} (hok : okG g = true) (hp : Parts g cnt num) {lst : List Nat} (_ : Grd (cond g num cnt) lst) (hend : ∀ k, ¬ Rdy (cond g num cnt) lst k) : ∀ k, k < cnt → k ∈ lst := fun k hk => by
  obtain ⟨x, hx, rfl⟩ := hp.all k hk
  by_cases c : num x ∈ lst
  · exact c
  · obtain ⟨j, hj⟩ := ready_some hok hp (rk g x) x hx (Nat.le_refl _) c
    exact absurd hj (hend j)
end Go.Proofs.Ytakojoedifhcnaa

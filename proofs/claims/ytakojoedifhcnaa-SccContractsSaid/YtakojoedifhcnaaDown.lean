/-
  Layer 7 (scc): the graph of the components has no cycle.
-/
import Derived.Test.YtakojoedifhcnaaLists
namespace Go.Proofs.Ytakojoedifhcnaa
open Go.RowKit

theorem stray_self {g : List (List Int)} (hok : okG g = true) : stray g = g := by
  unfold stray
  apply List.ext_getElem
  · simp
  · intro i h1 h2
    rw [List.getElem_map, List.getElem_range, List.getD_eq_getElem?_getD, List.getElem?_eq_getElem h2, Option.getD_some]
    unfold keepRow
    rw [List.filter_eq_self]
    intro m hm
    obtain ⟨j, hj⟩ := List.getElem?_of_mem hm
    obtain ⟨b, rfl, hb⟩ := ok_node hok (List.getElem?_eq_getElem h2) hj
    simp; omega
/-- Every edge leads to a lesser node. -/
def DownG (h : List (List Int)) : Prop := ∀ x y, y ∈ succs h x → y < x
section
variable {h : List (List Int)}
theorem DownG.way (d : DownG h) {x y : Nat} (w : Way h x y) : y ≤ x := by
  induction w with
  | here => exact Nat.le_refl _
  | step _ hz ih => have := d _ _ hz; omega
theorem DownG.none (d : DownG h) (hok : okG h = true) (x : Nat) : path1B h x x = false := by
  cases e : path1B h x x with
  | false => rfl
  | true =>
    obtain ⟨u, hu, hw⟩ := (path1B_iff hok x x).1 e
    have h1 := d _ _ hu
    have h2 := d.way hw
    omega
theorem DownG.count (d : DownG h) {cnt : Nat} {num : Nat → Nat} (hp : Parts h cnt num) : cnt = h.length := by
  refine Nat.le_antisymm hp.le ?_
  have hn : ((List.range h.length).map num).Nodup := by
    rw [List.nodup_iff_pairwise_ne, List.pairwise_map]
    refine List.Pairwise.imp_of_mem ?_ List.nodup_range
    intro i j hi hj hne e
    have hsc := (hp.cls i j (List.mem_range.1 hi) (List.mem_range.1 hj)).1 e
    have h1 := d.way hsc.1
    have h2 := d.way hsc.2
    omega
  have := nodup_len (n := cnt) hn (fun x hx => by
    obtain ⟨i, hi, rfl⟩ := List.mem_map.1 hx
    exact hp.lt i (List.mem_range.1 hi))
  simpa using this
end
theorem cond_downG {g : List (List Int)} {num : Nat → Nat} {cnt : Nat} {lst : List Nat} (hok : okG g = true) (hl : Lists g cnt num lst) : DownG (cond g (idx lst num) cnt) := by
  intro k m hm
  have hok2 := cond_ok (num := idx lst num) (cnt := cnt) hok (fun x hx => hl.lt hx)
  rw [succs_iff hok2] at hm
  have hk : k < cnt := Nat.lt_of_not_le fun c => by
    rw [List.getD_eq_getElem?_getD, List.getElem?_eq_none (by rw [cond_len]; exact c)] at hm
    cases hm
  obtain ⟨x, y, hx, hy, rfl, e, hne, hed⟩ := mem_cond hok hk hm
  have := hl.edge hok hx ((succs_iff hok x y).2 hed)
  omega

/-- The rows of that graph while the law builds it. -/
def cRow (s : List (List Int)) (f : Nat → Nat) (n a : Nat) (lt : List Int) (k : Nat) : List Int := condTo s f a k ++ (if f a = k then hop f a (keepRow n lt) else [])
def cAt (s : List (List Int)) (f : Nat → Nat) (n cnt a : Nat) (lt : List Int) : List (List Int) := (List.range cnt).map (cRow s f n a lt)
section
variable (s : List (List Int)) (f : Nat → Nat) (n cnt a : Nat)
theorem cAt_len (lt : List Int) : (cAt s f n cnt a lt).length = cnt := by simp [cAt]
theorem cAt_get (lt : List Int) {k : Nat} (hk : k < cnt) : (cAt s f n cnt a lt)[k]? = some (cRow s f n a lt k) := by simp [cAt, hk]
theorem cAt_zero : cAt s f n cnt 0 [] = List.replicate cnt [] := by
  apply List.ext_getElem
  · simp [cAt]
  · intro i _ _; simp [cAt, cRow, condTo, hop, keepRow]
theorem cAt_row {lt : List Int} (e : s.getD a [] = keepRow n lt) : cAt s f n cnt a lt = cAt s f n cnt (a + 1) [] := by
  unfold cAt
  refine List.map_congr_left fun k _ => ?_
  unfold cRow
  rw [condTo_succ, e]
  simp [keepRow, hop]
theorem cAt_end : cAt s f n cnt s.length [] = cond s f cnt := by
  unfold cAt cond
  refine List.map_congr_left fun k _ => ?_
  unfold cRow
  simp [keepRow, hop]
theorem keep_snoc {l : List Int} {j : Nat} {m : Int} (hm : l[j]? = some m) : hop f a (keepRow n (l.take (j + 1))) = hop f a (keepRow n (l.take j)) ++ (if (0 ≤ m ∧ m < n) ∧ f m.toNat ≠ f a then [(f m.toNat : Int)] else []) := by
  rw [keepRow_take n l j m hm]
  unfold hop
  rw [List.filter_append, List.map_append]
  congr 1
  by_cases h1 : 0 ≤ m ∧ m < n
  · rw [if_pos h1]
    by_cases h2 : f m.toNat = f a <;> simp [h1, h2]
  · rw [if_neg h1, if_neg (fun h => h1 h.1)]; rfl
theorem cAt_skip {l : List Int} {j : Nat} {m : Int} (hm : l[j]? = some m) (h : ¬ ((0 ≤ m ∧ m < n) ∧ f m.toNat ≠ f a)) : cAt s f n cnt a (l.take j) = cAt s f n cnt a (l.take (j + 1)) := by
  unfold cAt
  refine List.map_congr_left fun k _ => ?_
  unfold cRow
  rw [keep_snoc f n a hm, if_neg h, List.append_nil]
theorem cAt_add {l : List Int} {j y : Nat} (hm : l[j]? = some (y : Int)) (hy : y < n) (hne : f y ≠ f a) : (cAt s f n cnt a (l.take j)).set (f a) (cRow s f n a (l.take j) (f a) ++ [(f y : Int)]) = cAt s f n cnt a (l.take (j + 1)) := by
  have hk := keep_snoc f n a hm
  rw [Int.toNat_natCast, if_pos ⟨⟨by omega, by omega⟩, hne⟩] at hk
  apply List.ext_getElem?
  intro i
  by_cases hi : i < cnt
  · rw [cAt_get s f n cnt a _ hi]
    by_cases e : i = f a
    · subst e
      rw [List.getElem?_set_self (by rw [cAt_len]; exact hi)]
      unfold cRow
      rw [if_pos rfl, if_pos rfl, hk, List.append_assoc]
    · rw [List.getElem?_set_ne (fun x => e x.symm), cAt_get s f n cnt a _ hi]
      unfold cRow
      rw [if_neg (fun x => e x.symm), if_neg (fun x => e x.symm)]
  · rw [List.getElem?_eq_none (by rw [List.length_set, cAt_len]; omega), List.getElem?_eq_none (by rw [cAt_len]; omega)]
theorem cRow_le {s : List (List Int)} (ha : a < s.length) {l : List Int} (e : s.getD a [] = keepRow n l) (j k : Nat) : (cRow s f n a (l.take j) k).length ≤ edges s := by
  have h1 := condTo_edges s f k a (by omega)
  have h2 := hop_len f a (keepRow n (l.take j))
  have h2' : (keepRow n (l.take j)).length ≤ (keepRow n l).length := ((List.take_sublist j l).filter _).length_le
  have h3 := sum_take (s.map List.length) (a + 1)
  rw [List.take_add_one, List.sum_append, List.getElem?_map, List.getElem?_eq_getElem ha] at h3
  rw [← e, List.getD_eq_getElem?_getD, List.getElem?_eq_getElem ha] at h2'
  have h5 : (if f a = k then hop f a (keepRow n (l.take j)) else []).length ≤ (hop f a (keepRow n (l.take j))).length := by split <;> simp
  unfold cRow
  rw [List.length_append]
  simp only [Option.getD_some, Option.map_some, Option.toList_some, List.sum_cons, List.sum_nil] at h2' h3
  unfold edges
  omega
end
end Go.Proofs.Ytakojoedifhcnaa

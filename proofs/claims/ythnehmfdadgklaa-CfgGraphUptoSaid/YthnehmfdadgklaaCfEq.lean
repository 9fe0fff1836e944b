/-
  slices.Equal, for integers and for positions.
-/
import Derived.Test.YthnehmfdadgklaaCfS
import Derived.Deep.QuietTactic
import Derived.BigQuiet
namespace Go.Proofs.Ythnehmfdadgklaa
open Go.RowKit

set_option maxRecDepth 100000 in
/-- slices.Equal at integers: are the two lists the same? -/
theorem equal_int (u v : Value) (l m : List Int) (w : World) (hu : Rd w .i64 u l) (hv : Rd w .i64 v m) :
    Calls Try.prog 19 #[u, v] w fun e w' => e = .returned (.bool (decide (l = m))) ∧ Below w.heap.size w w' := by
  have hl1 := hu.len
  have hm1 := hv.len
  unfold maxLen at hl1 hm1
  obtain ⟨A, c, rfl, hc, _, hr⟩ := hu
  obtain ⟨B, d, rfl, hd, _, hs⟩ := hv
  by_cases hlen : l.length = m.length
  · have hn : ((l.length : Int) != (m.length : Int)) = false := by rw [bne_eq_false_iff_eq]; omega
    have HL := hide hlen
    clear hlen
    go_enter Try.func19, Try.ntmps19
    go_wp2_with fail
    go_loopw [13] (fun i wr => ∃ k : Nat, k ≤ l.length ∧ i = .int .i64 k ∧ l.take k = m.take k ∧ Below w.heap.size w wr) (fun i _ => l.length - (intOf i).toNat)
    case atStart => exact ⟨0, Nat.zero_le _, rfl, by simp, Below.refl _ _⟩
    case round =>
      obtain ⟨k, hk, rfl, he, hB⟩ := hrel
      have HE := hide he
      clear he
      by_cases hlt : k < l.length
      · obtain ⟨b, off, rfl, hb, hcell⟩ := hr (by omega)
        obtain ⟨b', off', rfl, hb', hcell'⟩ := hs (by have := HL.out; omega)
        have hlm : k < m.length := by have := HL.out; omega
        obtain ⟨x, hx⟩ : ∃ x, l[k]? = some x := ⟨_, List.getElem?_eq_getElem hlt⟩
        obtain ⟨y, hy⟩ : ∃ y, m[k]? = some y := ⟨_, List.getElem?_eq_getElem hlm⟩
        have c1 : wr.cell? ⟨b, off + k, none⟩ = some (.int .i64 x) := (hB.cell (p := ⟨b, off + k, none⟩) hb).trans (hcell k x hx)
        have c2 : wr.cell? ⟨b', off' + k, none⟩ = some (.int .i64 y) := (hB.cell (p := ⟨b', off' + k, none⟩) hb').trans (hcell' k y hy)
        have HX := hide hx
        have HY := hide hy
        clear hx hy hcell hcell' hr hs
        have b1 : (k : Int) < (l.length : Int) := by omega
        have b2 : (k : Int) < (m.length : Int) := by omega
        have b0 : 0 ≤ (k : Int) := by omega
        by_cases hxy : x = y
        · have t1 : (x != y) = false := by simpa using hxy
          have t2 : (x == y) = true := by simpa using hxy
          have HXY := hide hxy
          clear hxy
          go_wp2_with fail
          go_quiet (fail)
          go_wp2_with fail
          go_roundw
          case rel => exact ⟨k + 1, by omega, by go_num, by rw [List.take_add_one, List.take_add_one, HE.out, HX.out, HY.out, HXY.out], Below.drewN' hB _⟩
          case measure => simp [intOf]; omega
        · have t1 : (x != y) = true := by simpa using hxy
          have t2 : (x == y) = false := by simpa using hxy
          have HXY := hide hxy
          clear hxy
          go_wp2_with fail
          go_quiet (fail)
          go_wp2_with fail
          go_ret
          refine ⟨?_, Below.drewN' hB _⟩
          have hne : ¬ l = m := by
            rintro rfl
            exact HXY.out (Option.some.inj (HX.out.symm.trans HY.out))
          rw [decide_eq_false hne]; rfl
      · obtain rfl : k = l.length := by omega
        go_wp2_with fail
        go_ret
        refine ⟨?_, hB⟩
        have he : l = m := by have h1 := HE.out; rwa [List.take_length, HL.out, List.take_length] at h1
        rw [decide_eq_true he]; rfl
  · have hn : ((l.length : Int) != (m.length : Int)) = true := by rw [bne_iff_ne]; omega
    have HL := hide hlen
    clear hlen
    go_enter Try.func19, Try.ntmps19
    go_wp2_with fail
    go_ret
    refine ⟨?_, Below.refl _ _⟩
    have hne : ¬ l = m := fun h => HL.out (by rw [h])
    rw [decide_eq_false hne]; rfl

set_option maxRecDepth 100000 in
/-- slices.Equal at integers: are the two lists the same? -/
theorem equal_ty (u v : Value) (l m : List Int) (w : World) (hu : Rd w .i64 u l) (hv : Rd w .i64 v m) :
    Calls Try.prog 44 #[u, v] w fun e w' => e = .returned (.bool (decide (l = m))) ∧ Below w.heap.size w w' := by
  have hl1 := hu.len
  have hm1 := hv.len
  unfold maxLen at hl1 hm1
  obtain ⟨A, c, rfl, hc, _, hr⟩ := hu
  obtain ⟨B, d, rfl, hd, _, hs⟩ := hv
  by_cases hlen : l.length = m.length
  · have hn : ((l.length : Int) != (m.length : Int)) = false := by rw [bne_eq_false_iff_eq]; omega
    have HL := hide hlen
    clear hlen
    go_enter Try.func44, Try.ntmps44
    go_wp2_with fail
    go_loopw [13] (fun i wr => ∃ k : Nat, k ≤ l.length ∧ i = .int .i64 k ∧ l.take k = m.take k ∧ Below w.heap.size w wr) (fun i _ => l.length - (intOf i).toNat)
    case atStart => exact ⟨0, Nat.zero_le _, rfl, by simp, Below.refl _ _⟩
    case round =>
      obtain ⟨k, hk, rfl, he, hB⟩ := hrel
      have HE := hide he
      clear he
      by_cases hlt : k < l.length
      · obtain ⟨b, off, rfl, hb, hcell⟩ := hr (by omega)
        obtain ⟨b', off', rfl, hb', hcell'⟩ := hs (by have := HL.out; omega)
        have hlm : k < m.length := by have := HL.out; omega
        obtain ⟨x, hx⟩ : ∃ x, l[k]? = some x := ⟨_, List.getElem?_eq_getElem hlt⟩
        obtain ⟨y, hy⟩ : ∃ y, m[k]? = some y := ⟨_, List.getElem?_eq_getElem hlm⟩
        have c1 : wr.cell? ⟨b, off + k, none⟩ = some (.int .i64 x) := (hB.cell (p := ⟨b, off + k, none⟩) hb).trans (hcell k x hx)
        have c2 : wr.cell? ⟨b', off' + k, none⟩ = some (.int .i64 y) := (hB.cell (p := ⟨b', off' + k, none⟩) hb').trans (hcell' k y hy)
        have HX := hide hx
        have HY := hide hy
        clear hx hy hcell hcell' hr hs
        have b1 : (k : Int) < (l.length : Int) := by omega
        have b2 : (k : Int) < (m.length : Int) := by omega
        have b0 : 0 ≤ (k : Int) := by omega
        by_cases hxy : x = y
        · have t1 : (x != y) = false := by simpa using hxy
          have t2 : (x == y) = true := by simpa using hxy
          have HXY := hide hxy
          clear hxy
          go_wp2_with fail
          go_quiet (fail)
          go_wp2_with fail
          go_roundw
          case rel => exact ⟨k + 1, by omega, by go_num, by rw [List.take_add_one, List.take_add_one, HE.out, HX.out, HY.out, HXY.out], Below.drewN' hB _⟩
          case measure => simp [intOf]; omega
        · have t1 : (x != y) = true := by simpa using hxy
          have t2 : (x == y) = false := by simpa using hxy
          have HXY := hide hxy
          clear hxy
          go_wp2_with fail
          go_quiet (fail)
          go_wp2_with fail
          go_ret
          refine ⟨?_, Below.drewN' hB _⟩
          have hne : ¬ l = m := by
            rintro rfl
            exact HXY.out (Option.some.inj (HX.out.symm.trans HY.out))
          rw [decide_eq_false hne]; rfl
      · obtain rfl : k = l.length := by omega
        go_wp2_with fail
        go_ret
        refine ⟨?_, hB⟩
        have he : l = m := by have h1 := HE.out; rwa [List.take_length, HL.out, List.take_length] at h1
        rw [decide_eq_true he]; rfl
  · have hn : ((l.length : Int) != (m.length : Int)) = true := by rw [bne_iff_ne]; omega
    have HL := hide hlen
    clear hlen
    go_enter Try.func44, Try.ntmps44
    go_wp2_with fail
    go_ret
    refine ⟨?_, Below.refl _ _⟩
    have hne : ¬ l = m := fun h => HL.out (by rw [h])
    rw [decide_eq_false hne]; rfl

set_option maxRecDepth 100000 in
/-- slices.Equal at integers: are the two lists the same? -/
theorem equal_i64 (u v : Value) (l m : List Int) (w : World) (hu : Rd w .i64 u l) (hv : Rd w .i64 v m) :
    Calls Try.prog 55 #[u, v] w fun e w' => e = .returned (.bool (decide (l = m))) ∧ Below w.heap.size w w' := by
  have hl1 := hu.len
  have hm1 := hv.len
  unfold maxLen at hl1 hm1
  obtain ⟨A, c, rfl, hc, _, hr⟩ := hu
  obtain ⟨B, d, rfl, hd, _, hs⟩ := hv
  by_cases hlen : l.length = m.length
  · have hn : ((l.length : Int) != (m.length : Int)) = false := by rw [bne_eq_false_iff_eq]; omega
    have HL := hide hlen
    clear hlen
    go_enter Try.func55, Try.ntmps55
    go_wp2_with fail
    go_loopw [13] (fun i wr => ∃ k : Nat, k ≤ l.length ∧ i = .int .i64 k ∧ l.take k = m.take k ∧ Below w.heap.size w wr) (fun i _ => l.length - (intOf i).toNat)
    case atStart => exact ⟨0, Nat.zero_le _, rfl, by simp, Below.refl _ _⟩
    case round =>
      obtain ⟨k, hk, rfl, he, hB⟩ := hrel
      have HE := hide he
      clear he
      by_cases hlt : k < l.length
      · obtain ⟨b, off, rfl, hb, hcell⟩ := hr (by omega)
        obtain ⟨b', off', rfl, hb', hcell'⟩ := hs (by have := HL.out; omega)
        have hlm : k < m.length := by have := HL.out; omega
        obtain ⟨x, hx⟩ : ∃ x, l[k]? = some x := ⟨_, List.getElem?_eq_getElem hlt⟩
        obtain ⟨y, hy⟩ : ∃ y, m[k]? = some y := ⟨_, List.getElem?_eq_getElem hlm⟩
        have c1 : wr.cell? ⟨b, off + k, none⟩ = some (.int .i64 x) := (hB.cell (p := ⟨b, off + k, none⟩) hb).trans (hcell k x hx)
        have c2 : wr.cell? ⟨b', off' + k, none⟩ = some (.int .i64 y) := (hB.cell (p := ⟨b', off' + k, none⟩) hb').trans (hcell' k y hy)
        have HX := hide hx
        have HY := hide hy
        clear hx hy hcell hcell' hr hs
        have b1 : (k : Int) < (l.length : Int) := by omega
        have b2 : (k : Int) < (m.length : Int) := by omega
        have b0 : 0 ≤ (k : Int) := by omega
        by_cases hxy : x = y
        · have t1 : (x != y) = false := by simpa using hxy
          have t2 : (x == y) = true := by simpa using hxy
          have HXY := hide hxy
          clear hxy
          go_wp2_with fail
          go_quiet (fail)
          go_wp2_with fail
          go_roundw
          case rel => exact ⟨k + 1, by omega, by go_num, by rw [List.take_add_one, List.take_add_one, HE.out, HX.out, HY.out, HXY.out], Below.drewN' hB _⟩
          case measure => simp [intOf]; omega
        · have t1 : (x != y) = true := by simpa using hxy
          have t2 : (x == y) = false := by simpa using hxy
          have HXY := hide hxy
          clear hxy
          go_wp2_with fail
          go_quiet (fail)
          go_wp2_with fail
          go_ret
          refine ⟨?_, Below.drewN' hB _⟩
          have hne : ¬ l = m := by
            rintro rfl
            exact HXY.out (Option.some.inj (HX.out.symm.trans HY.out))
          rw [decide_eq_false hne]; rfl
      · obtain rfl : k = l.length := by omega
        go_wp2_with fail
        go_ret
        refine ⟨?_, hB⟩
        have he : l = m := by have h1 := HE.out; rwa [List.take_length, HL.out, List.take_length] at h1
        rw [decide_eq_true he]; rfl
  · have hn : ((l.length : Int) != (m.length : Int)) = true := by rw [bne_iff_ne]; omega
    have HL := hide hlen
    clear hlen
    go_enter Try.func55, Try.ntmps55
    go_wp2_with fail
    go_ret
    refine ⟨?_, Below.refl _ _⟩
    have hne : ¬ l = m := fun h => HL.out (by rw [h])
    rw [decide_eq_false hne]; rfl
end Go.Proofs.Ythnehmfdadgklaa

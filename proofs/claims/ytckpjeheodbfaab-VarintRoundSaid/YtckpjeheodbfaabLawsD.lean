import Derived.Test.YtckpjeheodbfaabWorks
import Derived.Test.YtckpjeheodbfaabCanon
namespace Go.Proofs.Ytckpjeheodbfaab
open Go.RowKit

theorem Bytes.append {l m : List Int} (h : Bytes l) (k : Bytes m) : Bytes (l ++ m) := fun x hx => by
  rcases List.mem_append.1 hx with hx | hx
  · exact h x hx
  · exact k x hx
theorem bytes_enc {n : Int} (h : Word n) : Bytes (enc n) := groups_range 9 _ (zz_small h)
theorem bytes_encs : ∀ l : List Int, (∀ z ∈ l, Word z) → Bytes (encs l)
  | [], _ => Bytes.nil
  | z :: l, h => Bytes.append (bytes_enc (h z (by simp))) (bytes_encs l fun y hy => h y (by simp [hy]))
theorem bytes_str (s : ByteArray) : Bytes (strInts s) := by
  intro x hx
  unfold strInts at hx
  obtain ⟨c, _, rfl⟩ := List.mem_map.1 hx
  have := c.toNat_lt
  omega
theorem word_small {n : Nat} (h : n ≤ 1000000) : Word n := by unfold Word; omega
theorem encs_drop {l : List Int} {k : Nat} {x : Int} (h : l[k]? = some x) : encs (l.drop k) = enc x ++ encs (l.drop (k + 1)) := by
  have hlt : k < l.length := by
    rcases Nat.lt_or_ge k l.length with g | g
    · exact g
    · rw [List.getElem?_eq_none g] at h; cases h
  rw [List.drop_eq_getElem_cons hlt]
  rw [List.getElem?_eq_getElem hlt] at h
  injection h with h
  rw [h]
  rfl

theorem round_big (l r : Value) (s : ByteArray) (ls rs : List Int) (w : World) (hl : Rd w .i64 l ls) (hr : Rd w .u8 r rs) (hs : s.size ≤ maxLen) (h : 100 < ls.length ∨ 300 < s.size ∨ 100 < rs.length) :
    Calls Try.prog 5 #[l, .string s, r] w (LawDone w) := by
  have hbl := hl.len
  have hll := hr.len
  unfold maxLen at hbl hll hs
  obtain ⟨A, c, rfl, _⟩ := hl
  obtain ⟨A', c', rfl, _⟩ := hr
  by_cases h1 : 100 < ls.length
  · clear h
    go_enter Try.func5, Try.ntmps5
    go_wp2_with (go_at_call 9; refine (works_any _).mono ?_; rintro en w' ⟨rfl, hB⟩)
    go_ret
    exact ⟨rfl, hB⟩
  · by_cases h2 : 300 < s.size
    · clear h
      go_enter Try.func5, Try.ntmps5
      go_wp2_with (go_at_call 9; refine (works_any _).mono ?_; rintro en w' ⟨rfl, hB⟩)
      go_ret
      exact ⟨rfl, hB⟩
    · have h3 : 100 < rs.length := by
        rcases h with h | h | h
        · exact absurd h h1
        · exact absurd h h2
        · exact h
      clear h
      go_enter Try.func5, Try.ntmps5
      go_wp2_with (go_at_call 9; refine (works_any _).mono ?_; rintro en w' ⟨rfl, hB⟩)
      go_ret
      exact ⟨rfl, hB⟩

set_option maxRecDepth 100000 in
theorem round_small (l r : Value) (s : ByteArray) (ls rs : List Int) (w : World) (hl : Rd w .i64 l ls) (hw : Words ls) (hr : Rd w .u8 r rs) (hrb : Bytes rs) (h1 : ls.length ≤ 100) (h2 : s.size ≤ 300) (h3 : rs.length ≤ 100) :
    Calls Try.prog 5 #[l, .string s, r] w (LawDone w) := by
  obtain ⟨A, c, rfl, x1, x2, x3⟩ := hl
  have HL := hide (show Rd w .i64 (.slice A ls.length c) ls from ⟨A, c, rfl, x1, x2, x3⟩)
  obtain ⟨A', c', rfl, y1, y2, y3⟩ := hr
  have HR := hide (show Rd w .u8 (.slice A' rs.length c') rs from ⟨A', c', rfl, y1, y2, y3⟩)
  have HW := hide hw
  have HRB := hide hrb
  have e1 := enc_len (ls.length : Int)
  have e2 := encs_len ls
  have e3 := enc_len (s.size : Int)
  have hx1 : (encInts ls).length ≤ 1010 := by unfold encInts; rw [List.length_append]; omega
  have hx2 : (encStr (strInts s)).length ≤ 310 := by unfold encStr; rw [List.length_append, strInts_len]; omega
  clear y3 hw hrb y2 e1 e3
  go_enter Try.func5, Try.ntmps5
  go_wp2_with fail
  refine (appInts_any _ _ [] ls w Rd.nil HL.out HW.out (by simp) (by omega)).mono ?_
  rintro en w1 ⟨v1, rfl, ho1, hb1⟩
  have HO1 := hide ho1
  clear ho1
  go_wp2_with fail
  refine (appStr_any _ _ s w1 HO1.out.rd (by simp; omega) (by omega)).mono ?_
  rintro en w2 ⟨v2, rfl, ho2, hb2⟩
  have hB2 := Below.all hb1 hb2
  have HO2 := hide (show Own w2 w.heap.size 5 .u8 v2 (encInts ls ++ encStr (strInts s) ++ encs (ls.take 0)) by
    have := ho2.low hb1.size
    simpa [encs] using this)
  clear hb1 hb2 ho2 HO1
  go_wp2_with fail
  go_loopw [7, 33] (fun b i wr => ∃ k : Nat, k ≤ ls.length ∧ i = .int .i64 k ∧ Own wr w.heap.size 5 .u8 b (encInts ls ++ encStr (strInts s) ++ encs (ls.take k)) ∧ Below w.heap.size w wr) (fun _ i _ => ls.length - (intOf i).toNat)
  case atStart => exact ⟨0, Nat.zero_le _, rfl, HO2.out, hB2⟩
  case round =>
    clear HO2 hB2
    obtain ⟨k, hk, rfl, ho, hB⟩ := hrel
    have HO := hide ho
    clear ho
    have hsz := hB.size
    have etk := encs_len (ls.take k)
    have hx3 : (encs (ls.take k)).length ≤ 1000 := by rw [List.length_take] at etk; omega
    clear etk
    by_cases hlt : k < ls.length
    · obtain ⟨ab, off, rfl, hblk, hcell⟩ := x3 (by omega)
      obtain ⟨x, hx⟩ : ∃ x, ls[k]? = some x := ⟨_, List.getElem?_eq_getElem hlt⟩
      have c1 : wr.cell? ⟨ab, off + k, none⟩ = some (.int .i64 x) := (hB.cell (p := ⟨ab, off + k, none⟩) hblk).trans (hcell k x hx)
      have HX := hide hx
      have HXW := hide (HW.out x (List.mem_of_getElem? hx))
      clear hx hcell x3
      go_wp2_with fail
      refine (appInt_any _ _ x wr HO.out.rd HXW.out (by rw [List.length_append, List.length_append]; omega)).mono ?_
      rintro en w3 ⟨v3, rfl, ho3, hb3⟩
      have HO3 := hide (show Own w3 w.heap.size 5 .u8 v3 (encInts ls ++ encStr (strInts s) ++ encs (ls.take (k + 1))) by
        rw [encs_take ls k x HX.out, ← List.append_assoc]; exact ho3.low hsz)
      have hB3 := hB.trans (hb3.mono hsz)
      clear ho3 hb3 HO hB HX HXW
      go_wp2_with fail
      go_roundw
      case rel => exact ⟨k + 1, by omega, by go_num, HO3.out, hB3⟩
      case measure => simp [intOf]; omega
    · obtain rfl : k = ls.length := by omega
      have hrr := hide (HR.out.below hB (Nat.le_refl _))
      go_wp2_with (at_builtin; refine wpList_append_rd _ rfl _ _ 22 rfl w.heap.size 5 .u8 1 bytesE _ _ rfl HO.out _ rs rfl hrr.out ?b1 ?b2 ?b3 ?_)
      case b1 => rw [List.length_append, List.length_append]; omega
      case b2 => unfold maxLen; rw [List.length_append, List.length_append]; omega
      case b3 => exact hsz
      intro v4 w4 ho4 _ hb4 _
      have HO4 := hide (show Own w4 w.heap.size 5 .u8 v4 (encInts ls ++ (encStr (strInts s) ++ (encs ls ++ rs))) by simpa only [List.take_length, List.append_assoc] using ho4)
      have hB4 := hB.trans hb4
      have hx4 : (encs ls).length ≤ 1000 := by omega
      clear ho4 hb4 hB HO hrr hx3
      go_wp2_with fail
      refine (newReader_any _ _ w4 HO4.out.rd (by simp only [List.length_append]; omega)).mono ?_
      rintro en w5 ⟨g, rfl, hR5, hb5, hge⟩
      have HR5 := hide hR5
      have hg5 : g < w5.heap.size := by obtain ⟨_, hw, _⟩ := hR5; exact hw.lt
      have hwg : w.heap.size ≤ g := Nat.le_trans hB4.size hge
      have hB5 := hB4.trans (hb5.mono hB4.size)
      generalize w4.heap.size = m0 at HR5 hge
      clear hR5 hb5 hB4 HO4
      have hby : Hid (Bytes (encInts ls ++ (encStr (strInts s) ++ (encs ls ++ rs)))) :=
        Bytes.append (Bytes.append (bytes_enc (word_small (by omega))) (bytes_encs _ HW.out)) (Bytes.append (Bytes.append (bytes_enc (word_small (by rw [strInts_len]; omega))) (bytes_str s)) (Bytes.append (bytes_encs _ HW.out) HRB.out))
      have E1 := hide (rLi_enc ls (encStr (strInts s) ++ (encs ls ++ rs)) HW.out (by simp only [List.length_append]; omega))
      have E2 := hide (rS_enc (strInts s) (encs ls ++ rs) (by simp only [List.length_append, strInts_len]; omega))
      go_wp2_with fail
      refine (ints_any g _ _ 0 w5 HR5.out hby.out (by simp only [List.length_append]; omega) (Nat.le_of_lt hg5)).mono ?_
      rintro en w6 ⟨v6, rfl, hv6, _, hR6, hg6⟩
      rw [E1.out] at hv6 hR6
      have HV6 := hide hv6
      have HR6 := hide hR6
      have hB6 := hB5.trans (below_only hg6 hwg hB5.size)
      have hg6s : g < w6.heap.size := Nat.lt_of_lt_of_le hg5 hg6.size
      clear hv6 hR6 hg6 HR5 hB5 hby E1
      go_wp2_with fail
      refine (eqInts_any _ _ _ _ w6 HV6.out (HL.out.below hB6 (Nat.le_refl _))).mono ?_
      rintro en w7 ⟨rfl, hb7⟩
      have HR7 := hide (HR6.out.below hb7 hg6s (Nat.le_of_lt hg6s))
      have hB7 := hB6.trans (hb7.mono hB6.size)
      have ht : decide (ls = ls) = true := by simp
      rw [ht]
      clear hb7 HR6 hB6 HV6 ht
      go_wp2_with fail
      refine (str_any g _ _ 0 w7 HR7.out (Bytes.append (Bytes.append (bytes_enc (word_small (by rw [strInts_len]; omega))) (bytes_str s)) (Bytes.append (bytes_encs _ HW.out) HRB.out))).mono ?_
      rintro en w8 ⟨s8, rfl, hs8, hR8, hg8⟩
      rw [E2.out] at hs8 hR8
      obtain rfl : s8 = s := strInts_inj hs8
      have HR8 := hide (show RdrAt w8 g (m0, g) (encs (ls.drop 0) ++ rs) 0 from hR8)
      have hB8 := hB7.trans (below_only hg8 hwg hB7.size)
      clear hs8 hR8 hg8 HR7 hB7 E2
      go_wp2_with fail
      have hlt0 : ls.length ≤ 100 := h1
      go_loopw [62] (fun i wr => ∃ k : Nat, k ≤ ls.length ∧ i = .int .i64 k ∧ RdrAt wr g (m0, g) (encs (ls.drop k) ++ rs) 0 ∧ Below w.heap.size w wr) (fun i _ => ls.length - (intOf i).toNat)
      case atStart => exact ⟨0, Nat.zero_le _, rfl, HR8.out, hB8⟩
      case round =>
        clear HR8 hB8
        obtain ⟨k, hk, rfl, hr9, hB9⟩ := hrel
        have HR9 := hide hr9
        clear hr9
        by_cases hlt : k < ls.length
        · obtain ⟨ab, off, rfl, hblk, hcell⟩ := x3 (by omega)
          obtain ⟨x, hx⟩ : ∃ x, ls[k]? = some x := ⟨_, List.getElem?_eq_getElem hlt⟩
          have c1 : wr.cell? ⟨ab, off + k, none⟩ = some (.int .i64 x) := (hB9.cell (p := ⟨ab, off + k, none⟩) hblk).trans (hcell k x hx)
          have HED := hide (encs_drop hx)
          have HXW := hide (HW.out x (List.mem_of_getElem? hx))
          have hby9 := hide (show Bytes (encs (ls.drop k) ++ rs) from Bytes.append (bytes_encs _ fun z hz => HW.out z (List.mem_of_mem_drop hz)) HRB.out)
          have HE := hide (show rI (encs (ls.drop k) ++ rs) 0 = (x, true, encs (ls.drop (k + 1)) ++ rs, 0) by rw [HED.out, List.append_assoc]; exact rI_enc HXW.out _)
          have t1 : (x != x) = false := by simp
          clear hx hcell x3
          go_wp2_with fail
          refine (int_any g _ _ 0 wr HR9.out hby9.out).mono ?_
          rintro en w10 ⟨rfl, hr10, hg10⟩
          rw [HE.out] at hr10 ⊢
          have HR10 := hide hr10
          have hB10 := hB9.trans (below_only hg10 hwg hB9.size)
          clear hr10 hg10 HR9 hB9 HE HED hby9 HXW
          go_wp2_with fail
          go_roundw
          case rel => exact ⟨k + 1, by omega, by go_num, HR10.out, hB10⟩
          case measure => simp [intOf]; omega
        · obtain rfl : k = ls.length := by omega
          have HR10 := hide (show RdrAt wr g (m0, g) rs 0 by have := HR9.out; rwa [List.drop_length] at this)
          clear HR9 x3
          go_wp2_with fail
          refine (err_any g _ _ 0 wr HR10.out).mono ?_
          rintro en w' ⟨rfl, rfl⟩
          go_wp2_with fail
          refine (len_any g _ _ 0 wr HR10.out).mono ?_
          rintro en w' ⟨rfl, rfl⟩
          go_wp2_with (go_at_call 9; refine (works_any _).mono ?_; rintro en w' ⟨rfl, hB'⟩)
          go_ret
          exact ⟨rfl, Below.all hB9 hB'⟩
end Go.Proofs.Ytckpjeheodbfaab

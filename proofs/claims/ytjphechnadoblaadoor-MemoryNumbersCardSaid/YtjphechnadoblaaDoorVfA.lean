/-
  Layer 14 (verify): what has been seen (a map of strings); places, and checks that find nothing.
-/
import Derived.Test.YtjphechnadoblaaDoorVH
import Derived.Test.YtjphechnadoblaaDoorOpA
import Derived.Test.YtjphechnadoblaaDoorLexAw
import Derived.Maps.Own
import Derived.Maps.OwnSet
import Derived.Maps.OwnOps
namespace Go.Proofs.YtjphechnadoblaaDoor
open Go.RowKit Go.Maps

/-- A string as a map's key. -/
def kB (s : ByteArray) : Lit := .string s.data.toList
theorem kB_inj {s t : ByteArray} (h : kB s = kB t) : s = t := by
  unfold kB at h
  injection h with h
  have := Array.toList_inj.1 h
  cases s; cases t
  rw [ByteArray.mk.injEq]; exact this
theorem kB_key (s : ByteArray) : WideAt.IsKeyLit (kB s) := by unfold kB WideAt.IsKeyLit; trivial
/-- The strings seen, newest first, as a map. -/
def dictB : List ByteArray → DataW Unit
  | [] => .map []
  | k :: r => (dictB r).put (kB k) (.lit (.bool true))
theorem isMap_dictB : ∀ ks, IsMap (dictB ks)
  | [] => isMap_empty
  | _ :: r => (isMap_dictB r).put _ _
/-- Is the string among them? -/
def inB (s : ByteArray) (ks : List ByteArray) : Bool := ks.any fun k => s.data.toList == k.data.toList
theorem inB_nil (s : ByteArray) : inB s [] = false := rfl
theorem inB_cons (s k : ByteArray) (r : List ByteArray) : inB s (k :: r) = ((s.data.toList == k.data.toList) || inB s r) := rfl
theorem at_dictB (s : ByteArray) : ∀ ks : List ByteArray, (dictB ks).atKey (kB s) (.lit (.bool false)) = .lit (.bool (inB s ks))
  | [] => rfl
  | k :: r => by
    rw [inB_cons]
    by_cases e : s = k
    · subst e
      rw [dictB, atKey_put_same (isMap_dictB r) (kB_key _)]
      simp
    · have hne : kB s ≠ kB k := fun h1 => e (kB_inj h1)
      have h2 : (s.data.toList == k.data.toList) = false := beq_eq_false_iff_ne.2 (fun h => hne (by unfold kB; rw [h]))
      rw [dictB, atKey_put_other hne, at_dictB s r, h2, Bool.false_or]
theorem lawS : Keyed Tryd.prog 9 := string_keyed Tryd.underlying9
theorem zeroBool (w : World) : (zeroValue 4).run Tryd.prog w = .ok (.bool false) w := by kernel_rfl
theorem plainElem_bool_inv {P : Program} {e : TypeId} (he : P.underlying e = some .bool) {v : Value} {z : DataW Unit × List MemPlace} (h : plainElem P e v = some z) : ∃ b, v = .bool b ∧ z = (.lit (.bool b), []) := by
  unfold plainElem at h
  rw [he] at h
  cases v <;> simp at h
  subst h
  exact ⟨_, rfl, rfl⟩

/-- WHAT repeats HANDS OUT: its map in block m, the variable that holds it behind. -/
structure SeenAt (w : World) (m : Nat) (ks : List ByteArray) : Prop where
  map : w.ownsMap Tryd.prog 9 (plainElem Tryd.prog 4) m ks.length (dictB ks)
  var : Whole w (m + 1) 146 #[.map (some m)]
theorem SeenAt.lt {w : World} {m : Nat} {ks : List ByteArray} (h : SeenAt w m ks) : m + 1 < w.heap.size := h.var.lt
theorem SeenAt.below {w w' : World} {B m : Nat} {ks : List ByteArray} (h : SeenAt w m ks) (hb : Below B w w') (hm : m + 1 < B) : SeenAt w' m ks := by
  obtain ⟨es, clock, hg, r⟩ := h.map
  exact ⟨⟨es, clock, (hb.block m (by omega)).trans hg, r⟩, h.var.below hb hm⟩
theorem SeenAt.below' {w w' : World} {m : Nat} {ks : List ByteArray} (h : SeenAt w m ks) (hb : Below w.heap.size w w') : SeenAt w' m ks := h.below hb h.lt

set_option maxRecDepth 100000 in
theorem repnew_any (w : World) : Calls Tryd.prog 68 #[] w fun e w' => e = .returned (.func (.func 94) #[] #[.pointer (some ⟨w.heap.size + 1, 0, none⟩)]) ∧ SeenAt w' w.heap.size [] ∧ Below w.heap.size w w' := by
  have hmm := @run_makeMap Tryd.prog
  have hmf : ∀ (fn : Fn) (first cap : Array Value) (w : World), (Instr.makeFunc fn first cap).run Tryd.prog w = .ok (.func fn first cap) w := fun _ _ _ _ => rfl
  go_enter Tryd.func68, Tryd.ntmps68
  go_wp2_with fail
  go_ret
  refine ⟨rfl, ⟨?_, ?_⟩, ?_⟩
  · exact (World.ownsMap_made w Tryd.prog 9 (plainElem Tryd.prog 4)).alloc _
  · have h1 := Whole.new (w.alloc (.map #[] 0)) 146 #[.map (some w.heap.size)]
    rw [World.size_alloc] at h1
    exact h1
  · exact ((Below.refl _ _).alloc (Nat.le_refl _) _).alloc (by rw [World.size_alloc]; exact Nat.le_succ _) _
set_option maxRecDepth 100000 in
theorem look_seen {w : World} {m : Nat} {ks : List ByteArray} (h : SeenAt w m ks) (s : ByteArray) (hs : s.size ≤ maxLen) : (Instr.lookup 146 (.map (some m)) (.string s) false).run Tryd.prog w = .ok (.bool (inB s ks)) w := by
  obtain ⟨es, clock, hb, F, _, hD⟩ := h.map
  have hat := at_dictB s ks
  rw [hD] at hat
  rcases Maps.fit_look false lawS Tryd.underlying146 (zeroBool w) hb F (WideMaps.keyOf_string_mk Tryd.underlying9 hs) with ⟨hrun, _, ha⟩ | ⟨e0, y, _, _, hrun, hR, ha, _⟩
  · have h1 := ha (.lit (.bool false))
    unfold kB at hat
    rw [hat] at h1
    injection h1 with h1
    injection h1 with h1
    rw [h1]; exact hrun
  · have h1 := ha (.lit (.bool false))
    unfold kB at hat
    rw [hat] at h1
    obtain ⟨b, e1, e2⟩ := plainElem_bool_inv Tryd.underlying4 hR
    rw [e2] at h1
    injection h1 with h1
    injection h1 with h1
    rw [h1]
    rw [← e1]; exact hrun
set_option maxRecDepth 100000 in
theorem rep_any (w : World) (m : Nat) (ks : List ByteArray) (h : SeenAt w m ks) (s : ByteArray) (hs : s.size ≤ maxLen) (hl : ks.length < 1000000) :
    Calls Tryd.prog 94 #[.string s, .pointer (some ⟨m + 1, 0, none⟩)] w fun e w' => e = .returned (.bool (inB s ks)) ∧ (inB s ks = false → SeenAt w' m (s :: ks)) ∧ Frm w w' [m] ∧ w.heap.size ≤ w'.heap.size := by
  have hL := look_seen h s hs
  have c0 := h.var.cell 0
  have HS := hide h
  cases hm : inB s ks with
  | true =>
    rw [hm] at hL
    clear hm h
    go_enter Tryd.func94, Tryd.ntmps94
    go_wp2_with fail
    go_ret
    exact ⟨rfl, fun h => (by cases h), Frm.refl _ _, Nat.le_refl _⟩
  | false =>
    rw [hm] at hL
    have HSZ := hide hs
    clear hm h hs
    go_enter Tryd.func94, Tryd.ntmps94
    go_wp2_with (at_mapUpdate; refine wpList_mapUpdate_in _ rfl _ _ _ 146 rfl 9 4 lawS Tryd.underlying146 _ m ks.length _ rfl HS.out.map (by unfold maxLen; omega) _ _ _ rfl rfl (WideMaps.keyOf_string_mk Tryd.underlying9 HSZ.out) _ [] (plainElem_bool Tryd.underlying4 true) ?_; intro w3 hm3 ht3)
    go_ret
    have hf := Frm.map ht3
    exact ⟨rfl, fun _ => ⟨hm3, HS.out.var.frm hf (by simp)⟩, hf, hf.size⟩

/-- The place of a part. -/
theorem part_any (k i : Int) (w : World) : Calls Tryd.prog 66 #[.int .i64 k, .int .i64 i] w fun e w' => e = .returned (.agg #[.int .i64 0, .int .i64 k, .int .i64 i, .int .i64 (-1), .int .i64 (-1)]) ∧ Below w.heap.size w w' := by
  go_enter Tryd.func66, Tryd.ntmps66
  go_wp2_with fail
  refine bodyPost_ret (v := .agg #[.int .i64 0, .int .i64 k, .int .i64 i, .int .i64 (-1), .int .i64 (-1)]) ?_ rfl ⟨rfl, (Below.refl _ _).alloc (Nat.le_refl _) _⟩
  simp [results, Tryd.f66, go_sem]
/-- A check that finds nothing. -/
theorem failno_any (p0 p1 p2 p3 p4 c : Int) (w : World) : Calls Tryd.prog 67 #[.agg #[.int .i64 p0, .int .i64 p1, .int .i64 p2, .int .i64 p3, .int .i64 p4], .bool false, .int .i64 c] w fun e w' => e = .returned (.tuple #[]) ∧ Below w.heap.size w w' := by
  go_enter Tryd.func67, Tryd.ntmps67
  go_wp2_with fail
  first
    | (go_end0; exact ⟨rfl, (Below.refl _ _).alloc (Nat.le_refl _) _⟩)
    | (go_ret; exact ⟨rfl, (Below.refl _ _).alloc (Nat.le_refl _) _⟩)
theorem iscell_any (t : Int) (w : World) : Calls Tryd.prog 70 #[.int .i64 t] w fun e w' => e = .returned (.bool (accN t == 1)) ∧ w = w' := by
  go_enter Tryd.func70, Tryd.ntmps70
  go_wp2_with fail
  refine (acc_any t _).mono ?_
  rintro en wn ⟨rfl, rfl⟩
  go_wp2_with fail
  go_ret
  exact ⟨rfl, rfl⟩
theorem isint14_any (n t : Int) (w : World) (hT : Tab w) : Calls Tryd.prog 71 #[.int .i64 n, .int .i64 t] w fun e w' => e = .returned (.bool (wrapI t n == n)) ∧ Below w.heap.size w w' := by
  go_enter Tryd.func71, Tryd.ntmps71
  go_wp2_with fail
  refine (wrap_any t n _ hT).mono ?_
  rintro en wn ⟨rfl, rfl⟩
  go_wp2_with fail
  go_ret
  exact ⟨rfl, Below.refl _ _⟩
end Go.Proofs.YtjphechnadoblaaDoor

/-
  Layer 20 (cfg): copied, for each type of elements.
-/
import Derived.Test.YthnehmfdadgklaaCfC
import Derived.Test.YthnehmfdadgklaaCfA
namespace Go.Proofs.Ythnehmfdadgklaa
open Go.RowKit

theorem infoN {P : Program} {e : TypeId} {z : Value} {m b : Nat} (h : (P.info? e).map (fun i => (i.zero, i.size, i.bytes)) = some (some z, m, b)) : ∃ i, P.info? e = some i ∧ i.zero = some z ∧ i.size = m ∧ i.bytes = b := by
  obtain ⟨i, h1, h2⟩ := Option.map_eq_some_iff.1 h
  injection h2 with h2 h3
  injection h3 with h3 h4
  exact ⟨i, h1, h2, h3, h4⟩
theorem InD.one {l : List InD} : ∀ r ∈ l.map InD.cells, ∀ x ∈ r, x.oneCell' = true := by
  intro r hr x hx
  obtain ⟨d, _, rfl⟩ := List.mem_map.1 hr
  have : d.cells.all (·.oneCell') = true := by rfl
  exact List.all_eq_true.1 this x hx
theorem EdD.one {l : List EdD} : ∀ r ∈ l.map EdD.cells, ∀ x ∈ r, x.oneCell' = true := by
  intro r hr x hx
  obtain ⟨d, _, rfl⟩ := List.mem_map.1 hr
  have : d.cells.all (·.oneCell') = true := by rfl
  exact List.all_eq_true.1 this x hx
theorem BkD.one {l : List BkD} : ∀ r ∈ l.map BkD.cells, ∀ x ∈ r, x.oneCell' = true := by
  intro r hr x hx
  obtain ⟨d, _, rfl⟩ := List.mem_map.1 hr
  have : d.cells.all (·.oneCell') = true := by rfl
  exact List.all_eq_true.1 this x hx
theorem intI : (Try.prog.info? 3).map (fun i => (i.zero, i.size, i.bytes)) = some (some (.int .i64 0), 1, 8) := by kernel_rfl
theorem intE : ElemN Try.prog 22 3 1 (.int .i64 0) 8 := ⟨Try.underlying22, rfl, by omega, infoN intI⟩
set_option maxRecDepth 100000 in
set_option maxHeartbeats 1000000 in
theorem copied_int (V U : Value) (rs qs : List (List Value)) (w : World) (hV : RdN w 1 V rs) (hU : RdN w 1 U qs) (o1 : ∀ r ∈ rs, ∀ x ∈ r, x.oneCell' = true) (o2 : ∀ r ∈ qs, ∀ x ∈ r, x.oneCell' = true)
    (hbytes : (rs.length + qs.length) * 8 ≤ 140737488355328) :
    Calls Try.prog 38 #[V, U] w fun e w' => ∃ A n, e = .returned (.slice A n n) ∧ n = (rs ++ qs).length ∧ Mine w' w.heap.size 3 1 A n n (rs ++ qs) ∧ RdN w' 1 (.slice A n n) (rs ++ qs) ∧ Below w.heap.size w w' := by
  obtain ⟨_, X, c0, rfl, _, _, _⟩ := id hV
  obtain ⟨_, Y, d0, rfl, _, _, _⟩ := id hU
  obtain ⟨v1, w1, A, n, c, w2, r1, r2, hn, h1, h2, hM, hR, hB⟩ := run_copied (P := Try.prog) w 22 22 3 1 (.int .i64 0) 8 intE X _ _ rs qs hV hU o1 o2 hbytes (by unfold maxLen; omega)
  have HM := hide hM
  have HR := hide hR
  have HB := hide hB
  have HN := hide hn
  have R1 := hide r1
  have R2 := hide r2
  clear hM hR hB hn r1 r2 hV hU o1 o2 hbytes
  go_enter Try.func38, Try.ntmps38
  go_wp2_with (first | refine wpList_append_run rfl _ _ 22 rfl _ _ v1 w1 rfl rfl R1.out ?_ | refine wpList_append_run rfl _ _ 22 rfl _ _ (.slice A n c) w2 rfl rfl R2.out ?_)
  go_ret
  exact ⟨A, n, rfl, HN.out, HM.out, HR.out, HB.out⟩
theorem tyI : (Try.prog.info? 23).map (fun i => (i.zero, i.size, i.bytes)) = some (some (.int .i64 0), 1, 8) := by kernel_rfl
theorem tyE : ElemN Try.prog 24 23 1 (.int .i64 0) 8 := ⟨Try.underlying24, rfl, by omega, infoN tyI⟩
set_option maxRecDepth 100000 in
set_option maxHeartbeats 1000000 in
theorem copied_ty (V U : Value) (rs qs : List (List Value)) (w : World) (hV : RdN w 1 V rs) (hU : RdN w 1 U qs) (o1 : ∀ r ∈ rs, ∀ x ∈ r, x.oneCell' = true) (o2 : ∀ r ∈ qs, ∀ x ∈ r, x.oneCell' = true)
    (hbytes : (rs.length + qs.length) * 8 ≤ 140737488355328) :
    Calls Try.prog 51 #[V, U] w fun e w' => ∃ A n, e = .returned (.slice A n n) ∧ n = (rs ++ qs).length ∧ Mine w' w.heap.size 23 1 A n n (rs ++ qs) ∧ RdN w' 1 (.slice A n n) (rs ++ qs) ∧ Below w.heap.size w w' := by
  obtain ⟨_, X, c0, rfl, _, _, _⟩ := id hV
  obtain ⟨_, Y, d0, rfl, _, _, _⟩ := id hU
  obtain ⟨v1, w1, A, n, c, w2, r1, r2, hn, h1, h2, hM, hR, hB⟩ := run_copied (P := Try.prog) w 24 24 23 1 (.int .i64 0) 8 tyE X _ _ rs qs hV hU o1 o2 hbytes (by unfold maxLen; omega)
  have HM := hide hM
  have HR := hide hR
  have HB := hide hB
  have HN := hide hn
  have R1 := hide r1
  have R2 := hide r2
  clear hM hR hB hn r1 r2 hV hU o1 o2 hbytes
  go_enter Try.func51, Try.ntmps51
  go_wp2_with (first | refine wpList_append_run rfl _ _ 24 rfl _ _ v1 w1 rfl rfl R1.out ?_ | refine wpList_append_run rfl _ _ 24 rfl _ _ (.slice A n c) w2 rfl rfl R2.out ?_)
  go_ret
  exact ⟨A, n, rfl, HN.out, HM.out, HR.out, HB.out⟩
theorem i64I : (Try.prog.info? 2).map (fun i => (i.zero, i.size, i.bytes)) = some (some (.int .i64 0), 1, 8) := by kernel_rfl
theorem i64E : ElemN Try.prog 48 2 1 (.int .i64 0) 8 := ⟨Try.underlying48, rfl, by omega, infoN i64I⟩
set_option maxRecDepth 100000 in
set_option maxHeartbeats 1000000 in
theorem copied_i64 (V U : Value) (rs qs : List (List Value)) (w : World) (hV : RdN w 1 V rs) (hU : RdN w 1 U qs) (o1 : ∀ r ∈ rs, ∀ x ∈ r, x.oneCell' = true) (o2 : ∀ r ∈ qs, ∀ x ∈ r, x.oneCell' = true)
    (hbytes : (rs.length + qs.length) * 8 ≤ 140737488355328) :
    Calls Try.prog 63 #[V, U] w fun e w' => ∃ A n, e = .returned (.slice A n n) ∧ n = (rs ++ qs).length ∧ Mine w' w.heap.size 2 1 A n n (rs ++ qs) ∧ RdN w' 1 (.slice A n n) (rs ++ qs) ∧ Below w.heap.size w w' := by
  obtain ⟨_, X, c0, rfl, _, _, _⟩ := id hV
  obtain ⟨_, Y, d0, rfl, _, _, _⟩ := id hU
  obtain ⟨v1, w1, A, n, c, w2, r1, r2, hn, h1, h2, hM, hR, hB⟩ := run_copied (P := Try.prog) w 48 48 2 1 (.int .i64 0) 8 i64E X _ _ rs qs hV hU o1 o2 hbytes (by unfold maxLen; omega)
  have HM := hide hM
  have HR := hide hR
  have HB := hide hB
  have HN := hide hn
  have R1 := hide r1
  have R2 := hide r2
  clear hM hR hB hn r1 r2 hV hU o1 o2 hbytes
  go_enter Try.func63, Try.ntmps63
  go_wp2_with (first | refine wpList_append_run rfl _ _ 48 rfl _ _ v1 w1 rfl rfl R1.out ?_ | refine wpList_append_run rfl _ _ 48 rfl _ _ (.slice A n c) w2 rfl rfl R2.out ?_)
  go_ret
  exact ⟨A, n, rfl, HN.out, HM.out, HR.out, HB.out⟩
theorem insI : (Try.prog.info? 70).map (fun i => (i.zero, i.size, i.bytes)) = some (some (.agg #[.int .i64 0, .int .i64 0, .int .i64 0, .slice none 0 0, .int .i64 0, .int .i64 0, .int .i64 0, .bool false]), 8, 80) := by kernel_rfl
theorem insE : ElemN Try.prog 52 70 8 (.agg #[.int .i64 0, .int .i64 0, .int .i64 0, .slice none 0 0, .int .i64 0, .int .i64 0, .int .i64 0, .bool false]) 80 := ⟨Try.underlying52, rfl, by omega, infoN insI⟩
set_option maxRecDepth 100000 in
set_option maxHeartbeats 1000000 in
theorem copied_ins (V U : Value) (rs qs : List (List Value)) (w : World) (hV : RdN w 8 V rs) (hU : RdN w 8 U qs) (o1 : ∀ r ∈ rs, ∀ x ∈ r, x.oneCell' = true) (o2 : ∀ r ∈ qs, ∀ x ∈ r, x.oneCell' = true)
    (hbytes : (rs.length + qs.length) * 80 ≤ 140737488355328) :
    Calls Try.prog 66 #[V, U] w fun e w' => ∃ A n, e = .returned (.slice A n n) ∧ n = (rs ++ qs).length ∧ Mine w' w.heap.size 70 8 A n n (rs ++ qs) ∧ RdN w' 8 (.slice A n n) (rs ++ qs) ∧ Below w.heap.size w w' := by
  obtain ⟨_, X, c0, rfl, _, _, _⟩ := id hV
  obtain ⟨_, Y, d0, rfl, _, _, _⟩ := id hU
  obtain ⟨v1, w1, A, n, c, w2, r1, r2, hn, h1, h2, hM, hR, hB⟩ := run_copied (P := Try.prog) w 52 52 70 8 (.agg #[.int .i64 0, .int .i64 0, .int .i64 0, .slice none 0 0, .int .i64 0, .int .i64 0, .int .i64 0, .bool false]) 80 insE X _ _ rs qs hV hU o1 o2 hbytes (by unfold maxLen; omega)
  have HM := hide hM
  have HR := hide hR
  have HB := hide hB
  have HN := hide hn
  have R1 := hide r1
  have R2 := hide r2
  clear hM hR hB hn r1 r2 hV hU o1 o2 hbytes
  go_enter Try.func66, Try.ntmps66
  go_wp2_with (first | refine wpList_append_run rfl _ _ 52 rfl _ _ v1 w1 rfl rfl R1.out ?_ | refine wpList_append_run rfl _ _ 52 rfl _ _ (.slice A n c) w2 rfl rfl R2.out ?_)
  go_ret
  exact ⟨A, n, rfl, HN.out, HM.out, HR.out, HB.out⟩
theorem edI : (Try.prog.info? 56).map (fun i => (i.zero, i.size, i.bytes)) = some (some (.agg #[.int .i64 0, .slice none 0 0]), 2, 32) := by kernel_rfl
theorem edE : ElemN Try.prog 49 56 2 (.agg #[.int .i64 0, .slice none 0 0]) 32 := ⟨Try.underlying49, rfl, by omega, infoN edI⟩
set_option maxRecDepth 100000 in
set_option maxHeartbeats 1000000 in
theorem copied_ed (V U : Value) (rs qs : List (List Value)) (w : World) (hV : RdN w 2 V rs) (hU : RdN w 2 U qs) (o1 : ∀ r ∈ rs, ∀ x ∈ r, x.oneCell' = true) (o2 : ∀ r ∈ qs, ∀ x ∈ r, x.oneCell' = true)
    (hbytes : (rs.length + qs.length) * 32 ≤ 140737488355328) :
    Calls Try.prog 67 #[V, U] w fun e w' => ∃ A n, e = .returned (.slice A n n) ∧ n = (rs ++ qs).length ∧ Mine w' w.heap.size 56 2 A n n (rs ++ qs) ∧ RdN w' 2 (.slice A n n) (rs ++ qs) ∧ Below w.heap.size w w' := by
  obtain ⟨_, X, c0, rfl, _, _, _⟩ := id hV
  obtain ⟨_, Y, d0, rfl, _, _, _⟩ := id hU
  obtain ⟨v1, w1, A, n, c, w2, r1, r2, hn, h1, h2, hM, hR, hB⟩ := run_copied (P := Try.prog) w 49 49 56 2 (.agg #[.int .i64 0, .slice none 0 0]) 32 edE X _ _ rs qs hV hU o1 o2 hbytes (by unfold maxLen; omega)
  have HM := hide hM
  have HR := hide hR
  have HB := hide hB
  have HN := hide hn
  have R1 := hide r1
  have R2 := hide r2
  clear hM hR hB hn r1 r2 hV hU o1 o2 hbytes
  go_enter Try.func67, Try.ntmps67
  go_wp2_with (first | refine wpList_append_run rfl _ _ 49 rfl _ _ v1 w1 rfl rfl R1.out ?_ | refine wpList_append_run rfl _ _ 49 rfl _ _ (.slice A n c) w2 rfl rfl R2.out ?_)
  go_ret
  exact ⟨A, n, rfl, HN.out, HM.out, HR.out, HB.out⟩
theorem bkI : (Try.prog.info? 54).map (fun i => (i.zero, i.size, i.bytes)) = some (some (.agg #[.slice none 0 0, .slice none 0 0, .int .i64 0, .slice none 0 0, .slice none 0 0, .slice none 0 0, .int .i64 0]), 7, 136) := by kernel_rfl
theorem bkE : ElemN Try.prog 25 54 7 (.agg #[.slice none 0 0, .slice none 0 0, .int .i64 0, .slice none 0 0, .slice none 0 0, .slice none 0 0, .int .i64 0]) 136 := ⟨Try.underlying25, rfl, by omega, infoN bkI⟩
set_option maxRecDepth 100000 in
set_option maxHeartbeats 1000000 in
theorem copied_bk (V U : Value) (rs qs : List (List Value)) (w : World) (hV : RdN w 7 V rs) (hU : RdN w 7 U qs) (o1 : ∀ r ∈ rs, ∀ x ∈ r, x.oneCell' = true) (o2 : ∀ r ∈ qs, ∀ x ∈ r, x.oneCell' = true)
    (hbytes : (rs.length + qs.length) * 136 ≤ 140737488355328) :
    Calls Try.prog 42 #[V, U] w fun e w' => ∃ A n, e = .returned (.slice A n n) ∧ n = (rs ++ qs).length ∧ Mine w' w.heap.size 54 7 A n n (rs ++ qs) ∧ RdN w' 7 (.slice A n n) (rs ++ qs) ∧ Below w.heap.size w w' := by
  obtain ⟨_, X, c0, rfl, _, _, _⟩ := id hV
  obtain ⟨_, Y, d0, rfl, _, _, _⟩ := id hU
  obtain ⟨v1, w1, A, n, c, w2, r1, r2, hn, h1, h2, hM, hR, hB⟩ := run_copied (P := Try.prog) w 25 25 54 7 (.agg #[.slice none 0 0, .slice none 0 0, .int .i64 0, .slice none 0 0, .slice none 0 0, .slice none 0 0, .int .i64 0]) 136 bkE X _ _ rs qs hV hU o1 o2 hbytes (by unfold maxLen; omega)
  have HM := hide hM
  have HR := hide hR
  have HB := hide hB
  have HN := hide hn
  have R1 := hide r1
  have R2 := hide r2
  clear hM hR hB hn r1 r2 hV hU o1 o2 hbytes
  go_enter Try.func42, Try.ntmps42
  go_wp2_with (first | refine wpList_append_run rfl _ _ 25 rfl _ _ v1 w1 rfl rfl R1.out ?_ | refine wpList_append_run rfl _ _ 25 rfl _ _ (.slice A n c) w2 rfl rfl R2.out ?_)
  go_ret
  exact ⟨A, n, rfl, HN.out, HM.out, HR.out, HB.out⟩
end Go.Proofs.Ythnehmfdadgklaa

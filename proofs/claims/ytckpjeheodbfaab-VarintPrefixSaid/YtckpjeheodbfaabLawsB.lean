import Derived.Test.YtckpjeheodbfaabWorks
import Derived.Test.YtckpjeheodbfaabCanon
namespace Go.Proofs.Ytckpjeheodbfaab
open Go.RowKit

theorem prefix_any (m n : Int) (w : World) (hm : Word m) (hn : Word n) : Calls Try.prog 7 #[.int .i64 m, .int .i64 n] w (LawDone w) := by
  have HM := hide hm
  have HN := hide hn
  have hlm := enc_len m
  have hln := enc_len n
  clear hm hn
  go_enter Try.func7, Try.ntmps7
  go_wp2_with fail
  refine (appInt_any _ [] m w Rd.nil HM.out (by simp)).mono ?_
  rintro en w1 ⟨v1, rfl, ho1, hb1⟩
  have HO1 := hide ho1
  clear ho1
  go_wp2_with fail
  refine (appInt_any _ [] n w1 Rd.nil HN.out (by simp)).mono ?_
  rintro en w2 ⟨v2, rfl, ho2, hb2⟩
  have hr1 : Rd w2 .u8 v1 (enc m) := HO1.out.rd.below' hb2
  have hr2 : Rd w2 .u8 v2 (enc n) := ho2.rd
  have hB2 := Below.all hb1 hb2
  obtain ⟨A1, c1, rfl, x1, x2, _⟩ := id hr1
  obtain ⟨A2, c2, rfl, y1, y2, _⟩ := id hr2
  have hc1 : c1 ≤ 9223372036854775807 := by unfold maxLen at x2; omega
  have hc2 : c2 ≤ 9223372036854775807 := by unfold maxLen at y2; omega
  have HR1 := hide hr1
  have HR2 := hide hr2
  clear hr1 hr2 ho2 hb1 hb2 HO1 x2 y2
  by_cases hlt : (enc n).length < (enc m).length
  · have HP := hide (prefix_test HN.out HM.out)
    have HS := hide (show (n == m) = (m == n) from Bool.eq_iff_iff.2 (by simp; exact eq_comm))
    go_wp2_with fail
    refine (eqBytes_any _ _ _ _ w2 HR2.out (HR1.out.front (by omega))).mono ?_
    rintro en w3 ⟨rfl, hb3⟩
    rw [HP.out, HS.out]
    have hB3 := Below.all hB2 hb3
    clear hb3 hB2 HP HS
    go_wp2_with (go_at_call 9; refine (works_any _).mono ?_; rintro en w4 ⟨rfl, hb4⟩)
    go_ret
    exact ⟨rfl, Below.all hB3 hb4⟩
  · have HP := hide (prefix_test HM.out HN.out)
    go_wp2_with fail
    refine (eqBytes_any _ _ _ _ w2 HR1.out (HR2.out.front (by omega))).mono ?_
    rintro en w3 ⟨rfl, hb3⟩
    rw [HP.out]
    have hB3 := Below.all hB2 hb3
    clear hb3 hB2 HP
    go_wp2_with (go_at_call 9; refine (works_any _).mono ?_; rintro en w4 ⟨rfl, hb4⟩)
    go_ret
    exact ⟨rfl, Below.all hB3 hb4⟩
end Go.Proofs.Ytckpjeheodbfaab

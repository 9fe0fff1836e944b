/-
  A set and the reference's set side by side: Union, Subtract, Intersect, with another pair and with itself. Layer 3 (bitset).
-/
import Derived.Test.YtbnikoomgeaboaaDoorPair
namespace Go.Proofs.YtbnikoomgeaboaaDoor
open Go.RowKit

theorem hit_words {n : Nat} {ws vs us : List Nat} {op : Bool → Bool → Bool} (h : Words n ws) (k : Words n us) (e : ∀ j, bit us j = op (bit ws j) (bit vs j)) : decide (us ≠ ws) = hit op (bit ws) (bit vs) n := by
  unfold hit
  refine decide_eq_decide.2 ⟨fun h1 => ?_, fun ⟨j, hj, hne⟩ h1 => hne (by rw [← e, h1])⟩
  refine Decidable.byContradiction fun h2 => h1 (k.ext h fun i hi => ?_)
  rw [e]
  refine Decidable.byContradiction fun h3 => h2 ⟨i, hi, h3⟩

theorem pair_Union {w : World} {L L' : Nat} {v u v' u' : Value} {o o' : Option (Nat × List Nat)} {G G' : List Nat} (h : Pr w L v u o G) (k : Pr w L' v' u' o' G') (dis : ∀ g ∈ G, g ∉ G') :
    Calls Tryd.prog 18 #[v, v'] w fun en w' => ∃ b, en = .returned (.bool b) ∧ Then w w' L 19 #[u, u'] v u G b := by
  cases h with
  | none => exact (union_miss w _ v' (.inl (.inl rfl))).mono fun _ w' ⟨a, b⟩ => ⟨false, a, (runion_no w' _ u' (rfits_nil w' u')).mono fun _ _ ⟨c, d⟩ => ⟨c, ⟨_, Pr.none⟩, b.trans d⟩⟩
  | some B R M n ws F h1 h2 h3 h4 h5 h6 =>
    cases k with
    | none =>
      refine (union_miss w _ _ (.inr (.inl ⟨n, ⟨B, ws, rfl, h1⟩, .inl rfl⟩))).mono fun _ w' ⟨a, b⟩ => ⟨false, a, ?_⟩
      have h2' := h2.frm b (by simp)
      obtain ⟨A, c, hr, -⟩ := h2'.rrd
      exact (runion_no w' _ _ (rfits_nil2 w' R n c A hr)).mono fun _ _ ⟨c, d⟩ => ⟨c, ⟨_, Pr.some B R M n ws F ((h1.frm b (by simp) (by simp)).frm d (by simp) (by simp)) (h2'.frm d (by simp)) h3 h4 h5 h6⟩, (b.trans d).mono (by simp)⟩
    | some C R' M' m vs F' k1 k2 k3 k4 k5 k6 =>
      by_cases e : n = m
      · subst e
        have hap : (C = B ∧ vs = ws) ∨ (C ≠ B ∧ C ≠ B + 1 ∧ C + 1 ≠ B) := .inr ⟨by rintro rfl; exact dis C (by simp) (by simp), by rintro rfl; exact dis (B + 1) (by simp) (by simp), by rintro rfl; exact dis (C + 1) (by simp) (by simp)⟩
        refine (or_set w B C n ws vs h1 k1 hap).mono fun _ w' ⟨us, a, b, c, d⟩ => ⟨_, a, ?_⟩
        have h2' := h2.frm d (fun g hg => by simp; rintro rfl; exact h5 hg)
        have k2' := k2.frm d (fun g hg => by simp; rintro rfl; exact dis g (by simp) (by simp [hg]))
        obtain ⟨A', c', hr', hcell'⟩ := k2'.rrd
        obtain ⟨hv, hW, hO, hF', -⟩ := id k2'
        refine (runion_set w' M R n R' (bit ws) (bit vs) F h2' (fun W i hf _ _ => ?_)).mono fun _ w'' ⟨e1, e2, e3⟩ => ⟨?_, ⟨_, Pr.some B R M n us F (b.frm e3 h5 h6) (e2.congr fun j hj => ?_) h3 h4 h5 h6⟩, (d.mono (fun g hg => .inl (by simp at hg; simp [hg]))).trans (e3.mono (fun g hg => .inl (by simp [hg])))⟩
        · have k3' := k2'.frm hf (fun g hg hg' => dis g (by simp [hg']) (by simp [hg]))
          have key : ∀ p : Addr, p.block ∈ F' → W.cell? p = w'.cell? p := fun p hp => hf.cell ((k2'.low _ hp).2) (fun hg' => dis p.block (by simp [hg']) (by simp [hp]))
          have hRF : R' ∈ F' := by rw [hF']; simp
          refine ⟨A', c', ⟨(key ⟨R', 0, none⟩ hRF).trans hr'.c0, (key ⟨R', 1, none⟩ hRF).trans hr'.c1, hr'.big⟩, fun hi => ?_⟩
          obtain ⟨A2, c2, hr2, hcell2⟩ := k3'.rrd
          have e5 := hr2.c1
          rw [(key ⟨R', 1, none⟩ hRF).trans hr'.c1] at e5
          have e6 := Option.some.inj e5
          injection e6 with e6 _ _
          rw [e6]
          exact hcell2 i hi
        · rw [e1, hit_words (op := opOr) h1.2.2.1 b.2.2.1 (fun j => c j)]
        · rw [c j]
          show (if j < n then opOr (bit ws j) (bit vs j) else bit ws j) = _
          rw [if_pos hj]; rfl
      · refine (union_miss w _ _ (.inr (.inr ⟨n, m, ⟨B, ws, rfl, h1⟩, ⟨C, vs, rfl, k1⟩, e⟩))).mono fun _ w' ⟨a, b⟩ => ⟨false, a, ?_⟩
        have h2' := h2.frm b (by simp)
        have k2' := k2.frm b (by simp)
        obtain ⟨A, c, hr, -⟩ := h2'.rrd
        obtain ⟨A', c', hr', -⟩ := k2'.rrd
        have hft := rfits_set w' R n c R' m c' A A' hr hr'
        rw [decide_eq_false e] at hft
        exact (runion_no w' _ _ hft).mono fun _ _ ⟨c, d⟩ => ⟨c, ⟨_, Pr.some B R M n ws F ((h1.frm b (by simp) (by simp)).frm d (by simp) (by simp)) (h2'.frm d (by simp)) h3 h4 h5 h6⟩, (b.trans d).mono (by simp)⟩
theorem pair_Union_self {w : World} {L : Nat} {v u : Value} {o : Option (Nat × List Nat)} {G : List Nat} (h : Pr w L v u o G) :
    Calls Tryd.prog 18 #[v, v] w fun en w' => ∃ b, en = .returned (.bool b) ∧ Then w w' L 19 #[u, u] v u G b := by
  cases h with
  | none => exact (union_miss w _ _ (.inl (.inl rfl))).mono fun _ w' ⟨a, b⟩ => ⟨false, a, (runion_no w' _ _ (rfits_nil w' _)).mono fun _ _ ⟨c, d⟩ => ⟨c, ⟨_, Pr.none⟩, b.trans d⟩⟩
  | some B R M n ws F h1 h2 h3 h4 h5 h6 =>
    refine (or_set w B B n ws ws h1 h1 (.inl ⟨rfl, rfl⟩)).mono fun _ w' ⟨us, a, b, c, d⟩ => ⟨_, a, ?_⟩
    have h2' := h2.frm d (fun g hg => by simp; rintro rfl; exact h5 hg)
    refine (runion_set w' M R n R (bit ws) (bit ws) F h2' (fun W i hf hi hm => ?_)).mono fun _ w'' ⟨e1, e2, e3⟩ => ⟨?_, ⟨_, Pr.some B R M n us F (b.frm e3 h5 h6) (e2.congr fun j hj => ?_) h3 h4 h5 h6⟩, (d.mono (fun g hg => .inl (by simp at hg; simp [hg]))).trans (e3.mono (fun g hg => .inl (by simp [hg])))⟩
    · obtain ⟨A2, c2, hr2, hcell2⟩ := hm.rrd
      refine ⟨A2, c2, hr2, fun hi => ?_⟩
      have := hcell2 i hi
      rw [mix_at] at this
      exact this
    · rw [e1, hit_words (op := opOr) h1.2.2.1 b.2.2.1 (fun j => c j)]
    · rw [c j]
      show (if j < n then opOr (bit ws j) (bit ws j) else bit ws j) = _
      rw [if_pos hj]; rfl

theorem pair_Subtract {w : World} {L L' : Nat} {v u v' u' : Value} {o o' : Option (Nat × List Nat)} {G G' : List Nat} (h : Pr w L v u o G) (k : Pr w L' v' u' o' G') (dis : ∀ g ∈ G, g ∉ G') :
    Calls Tryd.prog 20 #[v, v'] w fun en w' => ∃ b, en = .returned (.bool b) ∧ Then w w' L 21 #[u, u'] v u G b := by
  cases h with
  | none => exact (sub_miss w _ v' (.inl (.inl rfl))).mono fun _ w' ⟨a, b⟩ => ⟨false, a, (rsub_no w' _ u' (rfits_nil w' u')).mono fun _ _ ⟨c, d⟩ => ⟨c, ⟨_, Pr.none⟩, b.trans d⟩⟩
  | some B R M n ws F h1 h2 h3 h4 h5 h6 =>
    cases k with
    | none =>
      refine (sub_miss w _ _ (.inr (.inl ⟨n, ⟨B, ws, rfl, h1⟩, .inl rfl⟩))).mono fun _ w' ⟨a, b⟩ => ⟨false, a, ?_⟩
      have h2' := h2.frm b (by simp)
      obtain ⟨A, c, hr, -⟩ := h2'.rrd
      exact (rsub_no w' _ _ (rfits_nil2 w' R n c A hr)).mono fun _ _ ⟨c, d⟩ => ⟨c, ⟨_, Pr.some B R M n ws F ((h1.frm b (by simp) (by simp)).frm d (by simp) (by simp)) (h2'.frm d (by simp)) h3 h4 h5 h6⟩, (b.trans d).mono (by simp)⟩
    | some C R' M' m vs F' k1 k2 k3 k4 k5 k6 =>
      by_cases e : n = m
      · subst e
        have hap : (C = B ∧ vs = ws) ∨ (C ≠ B ∧ C ≠ B + 1 ∧ C + 1 ≠ B) := .inr ⟨by rintro rfl; exact dis C (by simp) (by simp), by rintro rfl; exact dis (B + 1) (by simp) (by simp), by rintro rfl; exact dis (C + 1) (by simp) (by simp)⟩
        refine (sub_set w B C n ws vs h1 k1 hap).mono fun _ w' ⟨us, a, b, c, d⟩ => ⟨_, a, ?_⟩
        have h2' := h2.frm d (fun g hg => by simp; rintro rfl; exact h5 hg)
        have k2' := k2.frm d (fun g hg => by simp; rintro rfl; exact dis g (by simp) (by simp [hg]))
        obtain ⟨A', c', hr', hcell'⟩ := k2'.rrd
        obtain ⟨hv, hW, hO, hF', -⟩ := id k2'
        refine (rsub_set w' M R n R' (bit ws) (bit vs) F h2' (fun W i hf _ _ => ?_)).mono fun _ w'' ⟨e1, e2, e3⟩ => ⟨?_, ⟨_, Pr.some B R M n us F (b.frm e3 h5 h6) (e2.congr fun j hj => ?_) h3 h4 h5 h6⟩, (d.mono (fun g hg => .inl (by simp at hg; simp [hg]))).trans (e3.mono (fun g hg => .inl (by simp [hg])))⟩
        · have k3' := k2'.frm hf (fun g hg hg' => dis g (by simp [hg']) (by simp [hg]))
          have key : ∀ p : Addr, p.block ∈ F' → W.cell? p = w'.cell? p := fun p hp => hf.cell ((k2'.low _ hp).2) (fun hg' => dis p.block (by simp [hg']) (by simp [hp]))
          have hRF : R' ∈ F' := by rw [hF']; simp
          refine ⟨A', c', ⟨(key ⟨R', 0, none⟩ hRF).trans hr'.c0, (key ⟨R', 1, none⟩ hRF).trans hr'.c1, hr'.big⟩, fun hi => ?_⟩
          obtain ⟨A2, c2, hr2, hcell2⟩ := k3'.rrd
          have e5 := hr2.c1
          rw [(key ⟨R', 1, none⟩ hRF).trans hr'.c1] at e5
          have e6 := Option.some.inj e5
          injection e6 with e6 _ _
          rw [e6]
          exact hcell2 i hi
        · rw [e1, hit_words (op := opSub) h1.2.2.1 b.2.2.1 (fun j => c j)]
        · rw [c j]
          show (if j < n then opSub (bit ws j) (bit vs j) else bit ws j) = _
          rw [if_pos hj]; rfl
      · refine (sub_miss w _ _ (.inr (.inr ⟨n, m, ⟨B, ws, rfl, h1⟩, ⟨C, vs, rfl, k1⟩, e⟩))).mono fun _ w' ⟨a, b⟩ => ⟨false, a, ?_⟩
        have h2' := h2.frm b (by simp)
        have k2' := k2.frm b (by simp)
        obtain ⟨A, c, hr, -⟩ := h2'.rrd
        obtain ⟨A', c', hr', -⟩ := k2'.rrd
        have hft := rfits_set w' R n c R' m c' A A' hr hr'
        rw [decide_eq_false e] at hft
        exact (rsub_no w' _ _ hft).mono fun _ _ ⟨c, d⟩ => ⟨c, ⟨_, Pr.some B R M n ws F ((h1.frm b (by simp) (by simp)).frm d (by simp) (by simp)) (h2'.frm d (by simp)) h3 h4 h5 h6⟩, (b.trans d).mono (by simp)⟩
theorem pair_Subtract_self {w : World} {L : Nat} {v u : Value} {o : Option (Nat × List Nat)} {G : List Nat} (h : Pr w L v u o G) :
    Calls Tryd.prog 20 #[v, v] w fun en w' => ∃ b, en = .returned (.bool b) ∧ Then w w' L 21 #[u, u] v u G b := by
  cases h with
  | none => exact (sub_miss w _ _ (.inl (.inl rfl))).mono fun _ w' ⟨a, b⟩ => ⟨false, a, (rsub_no w' _ _ (rfits_nil w' _)).mono fun _ _ ⟨c, d⟩ => ⟨c, ⟨_, Pr.none⟩, b.trans d⟩⟩
  | some B R M n ws F h1 h2 h3 h4 h5 h6 =>
    refine (sub_set w B B n ws ws h1 h1 (.inl ⟨rfl, rfl⟩)).mono fun _ w' ⟨us, a, b, c, d⟩ => ⟨_, a, ?_⟩
    have h2' := h2.frm d (fun g hg => by simp; rintro rfl; exact h5 hg)
    refine (rsub_set w' M R n R (bit ws) (bit ws) F h2' (fun W i hf hi hm => ?_)).mono fun _ w'' ⟨e1, e2, e3⟩ => ⟨?_, ⟨_, Pr.some B R M n us F (b.frm e3 h5 h6) (e2.congr fun j hj => ?_) h3 h4 h5 h6⟩, (d.mono (fun g hg => .inl (by simp at hg; simp [hg]))).trans (e3.mono (fun g hg => .inl (by simp [hg])))⟩
    · obtain ⟨A2, c2, hr2, hcell2⟩ := hm.rrd
      refine ⟨A2, c2, hr2, fun hi => ?_⟩
      have := hcell2 i hi
      rw [mix_at] at this
      exact this
    · rw [e1, hit_words (op := opSub) h1.2.2.1 b.2.2.1 (fun j => c j)]
    · rw [c j]
      show (if j < n then opSub (bit ws j) (bit ws j) else bit ws j) = _
      rw [if_pos hj]; rfl

theorem pair_Intersect {w : World} {L L' : Nat} {v u v' u' : Value} {o o' : Option (Nat × List Nat)} {G G' : List Nat} (h : Pr w L v u o G) (k : Pr w L' v' u' o' G') (dis : ∀ g ∈ G, g ∉ G') :
    Calls Tryd.prog 22 #[v, v'] w fun en w' => ∃ b, en = .returned (.bool b) ∧ Then w w' L 23 #[u, u'] v u G b := by
  cases h with
  | none => exact (and_miss w _ v' (.inl (.inl rfl))).mono fun _ w' ⟨a, b⟩ => ⟨false, a, (rand_no w' _ u' (rfits_nil w' u')).mono fun _ _ ⟨c, d⟩ => ⟨c, ⟨_, Pr.none⟩, b.trans d⟩⟩
  | some B R M n ws F h1 h2 h3 h4 h5 h6 =>
    cases k with
    | none =>
      refine (and_miss w _ _ (.inr (.inl ⟨n, ⟨B, ws, rfl, h1⟩, .inl rfl⟩))).mono fun _ w' ⟨a, b⟩ => ⟨false, a, ?_⟩
      have h2' := h2.frm b (by simp)
      obtain ⟨A, c, hr, -⟩ := h2'.rrd
      exact (rand_no w' _ _ (rfits_nil2 w' R n c A hr)).mono fun _ _ ⟨c, d⟩ => ⟨c, ⟨_, Pr.some B R M n ws F ((h1.frm b (by simp) (by simp)).frm d (by simp) (by simp)) (h2'.frm d (by simp)) h3 h4 h5 h6⟩, (b.trans d).mono (by simp)⟩
    | some C R' M' m vs F' k1 k2 k3 k4 k5 k6 =>
      by_cases e : n = m
      · subst e
        have hap : (C = B ∧ vs = ws) ∨ (C ≠ B ∧ C ≠ B + 1 ∧ C + 1 ≠ B) := .inr ⟨by rintro rfl; exact dis C (by simp) (by simp), by rintro rfl; exact dis (B + 1) (by simp) (by simp), by rintro rfl; exact dis (C + 1) (by simp) (by simp)⟩
        refine (and_set w B C n ws vs h1 k1 hap).mono fun _ w' ⟨us, a, b, c, d⟩ => ⟨_, a, ?_⟩
        have h2' := h2.frm d (fun g hg => by simp; rintro rfl; exact h5 hg)
        have k2' := k2.frm d (fun g hg => by simp; rintro rfl; exact dis g (by simp) (by simp [hg]))
        obtain ⟨A', c', hr', hcell'⟩ := k2'.rrd
        obtain ⟨hv, hW, hO, hF', -⟩ := id k2'
        refine (rand_set w' M R n R' (bit ws) (bit vs) F h2' (fun W i hf _ _ => ?_)).mono fun _ w'' ⟨e1, e2, e3⟩ => ⟨?_, ⟨_, Pr.some B R M n us F (b.frm e3 h5 h6) (e2.congr fun j hj => ?_) h3 h4 h5 h6⟩, (d.mono (fun g hg => .inl (by simp at hg; simp [hg]))).trans (e3.mono (fun g hg => .inl (by simp [hg])))⟩
        · have k3' := k2'.frm hf (fun g hg hg' => dis g (by simp [hg']) (by simp [hg]))
          have key : ∀ p : Addr, p.block ∈ F' → W.cell? p = w'.cell? p := fun p hp => hf.cell ((k2'.low _ hp).2) (fun hg' => dis p.block (by simp [hg']) (by simp [hp]))
          have hRF : R' ∈ F' := by rw [hF']; simp
          refine ⟨A', c', ⟨(key ⟨R', 0, none⟩ hRF).trans hr'.c0, (key ⟨R', 1, none⟩ hRF).trans hr'.c1, hr'.big⟩, fun hi => ?_⟩
          obtain ⟨A2, c2, hr2, hcell2⟩ := k3'.rrd
          have e5 := hr2.c1
          rw [(key ⟨R', 1, none⟩ hRF).trans hr'.c1] at e5
          have e6 := Option.some.inj e5
          injection e6 with e6 _ _
          rw [e6]
          exact hcell2 i hi
        · rw [e1, hit_words (op := opAnd) h1.2.2.1 b.2.2.1 (fun j => c j)]
        · rw [c j]
          show (if j < n then opAnd (bit ws j) (bit vs j) else bit ws j) = _
          rw [if_pos hj]; rfl
      · refine (and_miss w _ _ (.inr (.inr ⟨n, m, ⟨B, ws, rfl, h1⟩, ⟨C, vs, rfl, k1⟩, e⟩))).mono fun _ w' ⟨a, b⟩ => ⟨false, a, ?_⟩
        have h2' := h2.frm b (by simp)
        have k2' := k2.frm b (by simp)
        obtain ⟨A, c, hr, -⟩ := h2'.rrd
        obtain ⟨A', c', hr', -⟩ := k2'.rrd
        have hft := rfits_set w' R n c R' m c' A A' hr hr'
        rw [decide_eq_false e] at hft
        exact (rand_no w' _ _ hft).mono fun _ _ ⟨c, d⟩ => ⟨c, ⟨_, Pr.some B R M n ws F ((h1.frm b (by simp) (by simp)).frm d (by simp) (by simp)) (h2'.frm d (by simp)) h3 h4 h5 h6⟩, (b.trans d).mono (by simp)⟩
theorem pair_Intersect_self {w : World} {L : Nat} {v u : Value} {o : Option (Nat × List Nat)} {G : List Nat} (h : Pr w L v u o G) :
    Calls Tryd.prog 22 #[v, v] w fun en w' => ∃ b, en = .returned (.bool b) ∧ Then w w' L 23 #[u, u] v u G b := by
  cases h with
  | none => exact (and_miss w _ _ (.inl (.inl rfl))).mono fun _ w' ⟨a, b⟩ => ⟨false, a, (rand_no w' _ _ (rfits_nil w' _)).mono fun _ _ ⟨c, d⟩ => ⟨c, ⟨_, Pr.none⟩, b.trans d⟩⟩
  | some B R M n ws F h1 h2 h3 h4 h5 h6 =>
    refine (and_set w B B n ws ws h1 h1 (.inl ⟨rfl, rfl⟩)).mono fun _ w' ⟨us, a, b, c, d⟩ => ⟨_, a, ?_⟩
    have h2' := h2.frm d (fun g hg => by simp; rintro rfl; exact h5 hg)
    refine (rand_set w' M R n R (bit ws) (bit ws) F h2' (fun W i hf hi hm => ?_)).mono fun _ w'' ⟨e1, e2, e3⟩ => ⟨?_, ⟨_, Pr.some B R M n us F (b.frm e3 h5 h6) (e2.congr fun j hj => ?_) h3 h4 h5 h6⟩, (d.mono (fun g hg => .inl (by simp at hg; simp [hg]))).trans (e3.mono (fun g hg => .inl (by simp [hg])))⟩
    · obtain ⟨A2, c2, hr2, hcell2⟩ := hm.rrd
      refine ⟨A2, c2, hr2, fun hi => ?_⟩
      have := hcell2 i hi
      rw [mix_at] at this
      exact this
    · rw [e1, hit_words (op := opAnd) h1.2.2.1 b.2.2.1 (fun j => c j)]
    · rw [c j]
      show (if j < n then opAnd (bit ws j) (bit ws j) else bit ws j) = _
      rw [if_pos hj]; rfl
end Go.Proofs.YtbnikoomgeaboaaDoor

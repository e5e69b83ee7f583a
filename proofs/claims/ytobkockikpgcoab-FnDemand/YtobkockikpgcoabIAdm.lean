/-
  impl.AdmitJob: x behind all, where all can be met then, in memory of its own. Nothing old is written.
-/
import Derived.Test.YtobkockikpgcoabIMeetJ
import Derived.Test.YtobkockikpgcoabJClone
import Derived.Test.YtobkockikpgcoabJbApp2
import Derived.Test.YtobkockikpgcoabLateMath
import Derived.Deep.AppendLies
import Derived.Deep.RegionLawGrows
namespace Go.Proofs.Ytobkockikpgcoab
open Go.RowKit

def admT (t : Bool) (l : List JbEl) : List JbEl := match t with | true => l | false => []
theorem icanMeet_any (v : Value) (xs : List JbEl) (t g : Bool) (hg : goodJ xs = g) (ht : (g && meetB xs) = t) (w : World) (hr : JbReads w v xs) :
    Calls Try.prog 7 #[v] w fun e w' => e = .returned (.tuple #[.bool t, .bool g]) ∧ Below w.heap.size w w' := by
  cases g
  · cases ht
    exact icanMeet_no v xs w hr hg
  · rw [Bool.true_and] at ht
    exact icanMeet_yes v xs t ht w hr hg
theorem iadm_full (v : Value) (xs : List JbEl) (x : JbEl) (w : World) (hr : JbReads w v xs) (h8 : 8 ≤ xs.length) :
    Calls Try.prog 12 #[v, .agg #[.int .i64 x.1, .int .i64 x.2.1, .int .i64 x.2.2]] w fun e w' => ∃ v', e = .returned (.tuple #[v', .bool false]) ∧ JbOwn w.heap.size w'.heap.size w' v' [] ∧ Below w.heap.size w w' := by
  obtain ⟨a, cap, rfl, _, _⟩ := hr
  have hd : decide ((8 : Int) ≤ (xs.length : Int)) = true := by simp; omega
  go_enter Try.func12, Try.ntmps12
  go_wp2
  go_ret2
  exact ⟨_, rfl, jbown_nil _ _ _ _ _, by go_grown⟩

set_option linter.unusedSimpArgs false in
set_option maxRecDepth 100000 in
set_option maxHeartbeats 8000000 in
theorem iadm_some (v : Value) (xs : List JbEl) (x : JbEl) (n n1 : Nat) (l : List JbEl) (hl : l = xs ++ [x]) (hn1 : n1 = n + 1) (hn : xs.length = n) (w : World) (hr : JbReads w v xs) (hx : n < 8) (h0 : xs ≠ []) (t g : Bool) (hg : goodJ l = g) (ht : (g && meetB l) = t) :
    Calls Try.prog 12 #[v, .agg #[.int .i64 x.1, .int .i64 x.2.1, .int .i64 x.2.2]] w fun e w' => ∃ v', e = .returned (.tuple #[v', .bool t]) ∧ JbOwn w.heap.size w'.heap.size w' v' (admT t l) ∧ Below w.heap.size w w' := by
  obtain ⟨i0, hi, hz0, hz1, hz2⟩ := info_parts info_job
  have HN1 := hid hn1
  have HN : Hid (n = xs.length) := hn.symm
  have HLL := hid hl
  have HG := hid hg
  have HT := hid ht
  have HR := hid hr
  have H0 := hid h0
  obtain ⟨a, cap, rfl, _, _⟩ := hr
  rw [hn]
  rw [hn] at HR
  have hd : decide ((8 : Int) ≤ (n : Int)) = false := by simp; omega
  clear hl hn1 hn hg ht h0
  go_enter Try.func12, Try.ntmps12
  go_wp2_with fail
  go_region_law
    ((first
      | (change (if Region.wanted (Oper.mk (some 13) _ _ _ _ _) _ = true then _ else _); go_simp; refine (jclone_any _ xs _ (HR.out.below (by go_grown)) (by rw [← HN.out]; omega)).mono ?_; rintro e w1 ⟨v1, rfl, b1, ho⟩; have ho2 := (ho.resolve_left (fun h => H0.out h.1)).2; rw [← HN.out] at ho2; have O1 := hid (jbowns_mono ho2 (show w.heap.size ≤ _ by simp <;> omega)); clear ho2; have q0 : w1.cell? ⟨w.heap.size, 0, none⟩ = some (.int .i64 x.1) := (b1.cell (by simp <;> omega)).trans (by simp); have q1 : w1.cell? ⟨w.heap.size, 1, none⟩ = some (.int .i64 x.2.1) := (b1.cell (by simp <;> omega)).trans (by simp); have q2 : w1.cell? ⟨w.heap.size, 2, none⟩ = some (.int .i64 x.2.2) := (b1.cell (by simp <;> omega)).trans (by simp); (try (refine jthenUse (A := w1.cell? ⟨w.heap.size + 1, 0, none⟩ = some (.int .i64 x.1)) ?_ (fun p0 => ?_); (focus (refine (b1.cell ?_).trans ?_; (focus (simp; done)); (simp [jcell2_0, jcell2_1, jcell2_2]; done))))); (try (refine jthenUse (A := w1.cell? ⟨w.heap.size + 1, 1, none⟩ = some (.int .i64 x.2.1)) ?_ (fun p1 => ?_); (focus (refine (b1.cell ?_).trans ?_; (focus (simp; done)); (simp [jcell2_0, jcell2_1, jcell2_2]; done))))); (try (refine jthenUse (A := w1.cell? ⟨w.heap.size + 1, 2, none⟩ = some (.int .i64 x.2.2)) ?_ (fun p2 => ?_); (focus (refine (b1.cell ?_).trans ?_; (focus (simp; done)); (simp [jcell2_0, jcell2_1, jcell2_2]; done))))); have B1 : Hid (Below w.heap.size w w1) := (show Below w.heap.size w _ by go_grown).trans (b1.mono (by simp <;> omega)); clear ho b1; dsimp only)
      | (change (if Region.wanted (Oper.mk (some 16) _ _ _ _ _) _ = true then _ else _); refine step_append_lies _ (by rfl) _ _ _ (by rfl) w.heap.size 34 i0 (.agg #[.int .i64 0, .int .i64 0, .int .i64 0]) 3 24 Try.underlying23 hi hz0 hz1 hz2 (by rfl) (by decide) v1 n (jbflat xs) (by rfl) (by first | exact O1.out | exact O1.out.alloc _) ⟨_, 0, none⟩ 1 1 (jbflat [x]) (by rfl) (by rfl) (jbone_at ⟨by first | assumption | (simp [jcell2_0, jcell2_1, jcell2_2]; done), by first | assumption | (simp [jcell2_0, jcell2_1, jcell2_2]; done), by first | assumption | (simp [jcell2_0, jcell2_1, jcell2_2]; done)⟩) (jbflat_one _) (by decide) (by unfold maxLen; omega) (by omega) (by have := B1.out.size; simp <;> omega) _ (by rfl) ?_; intro g2 cap2 w2 hown2 hgrow2 hat2 hlt2; have O2 := hid hown2; have B2 := hid (jpush_below (w := w) hgrow2 (by first | exact B1.out | exact B1.out.alloc B1.out.size _) (jbowns_block O1.out)); clear hown2 hgrow2 hat2)))
  all_goals
    have hn1 := HN1.out
    have HNN : Hid (l.length = n1) := by show _ = _; rw [HLL.out, List.length_append, ← HN.out, hn1]; rfl
    rw [← jbflat_append, ← HLL.out] at O2
    rw [← hn1] at O2 ⊢
    clear hn1 O1 B1 q0 q1 q2 hlt2
    have hs2 : w.heap.size ≤ w2.heap.size := B2.out.size
    have OK : Hid (JbOwn w.heap.size w2.heap.size w2 (.slice (some ⟨g2, 0, none⟩) n1 cap2) l) := JbOwn.of_owns O2.out (by rw [HNN.out]; have := HN1.out; omega)
    clear O2 hi hz0 hz1 hz2
    go_wp2_with fail
    refine (icanMeet_any _ l t g HG.out HT.out _ OK.out.reads).mono ?_
    rintro e w4 ⟨rfl, b4⟩
    have O4 := hid ((OK.out.below b4).mono (Nat.le_refl _) b4.size)
    have B4 : Hid (Below w.heap.size w w4) := B2.out.trans (b4.mono hs2)
    clear b4 OK
    cases t
    · go_wp2
      go_ret2
      exact ⟨_, rfl, jbown_nil _ _ _ _ _, B4.out⟩
    · go_wp2
      go_ret2
      exact ⟨_, rfl, O4.out, B4.out⟩
set_option linter.unusedSimpArgs false in
set_option maxRecDepth 100000 in
set_option maxHeartbeats 8000000 in
theorem iadm_none (a : Option Addr) (ca : Nat) (x : JbEl) (w : World) (hr : JbReads w (.slice a 0 ca) []) (t g : Bool) (hg : goodJ [x] = g) (ht : (g && meetB [x]) = t) :
    Calls Try.prog 12 #[.slice a 0 ca, .agg #[.int .i64 x.1, .int .i64 x.2.1, .int .i64 x.2.2]] w fun e w' => ∃ v', e = .returned (.tuple #[v', .bool t]) ∧ JbOwn w.heap.size w'.heap.size w' v' (admT t [x]) ∧ Below w.heap.size w w' := by
  obtain ⟨i0, hi, hz0, hz1, hz2⟩ := info_parts info_job
  have HG := hid hg
  have HT := hid ht
  have HR := hid hr
  clear hg ht hr
  go_enter Try.func12, Try.ntmps12
  go_wp2_with fail
  go_region_law
    ((first
      | (change (if Region.wanted (Oper.mk (some 13) _ _ _ _ _) _ = true then _ else _); go_simp; refine (jclone_any _ [] _ (HR.out.below (by go_grown)) (by simp)).mono ?_; rintro e w1 ⟨v1, rfl, b1, ho⟩; obtain ⟨av, rfl⟩ := (ho.resolve_right (fun h => h.1 rfl)).2; have q0 : w1.cell? ⟨w.heap.size, 0, none⟩ = some (.int .i64 x.1) := (b1.cell (by simp <;> omega)).trans (by simp); have q1 : w1.cell? ⟨w.heap.size, 1, none⟩ = some (.int .i64 x.2.1) := (b1.cell (by simp <;> omega)).trans (by simp); have q2 : w1.cell? ⟨w.heap.size, 2, none⟩ = some (.int .i64 x.2.2) := (b1.cell (by simp <;> omega)).trans (by simp); (try (refine jthenUse (A := w1.cell? ⟨w.heap.size + 1, 0, none⟩ = some (.int .i64 x.1)) ?_ (fun p0 => ?_); (focus (refine (b1.cell ?_).trans ?_; (focus (simp; done)); (simp [jcell2_0, jcell2_1, jcell2_2]; done))))); (try (refine jthenUse (A := w1.cell? ⟨w.heap.size + 1, 1, none⟩ = some (.int .i64 x.2.1)) ?_ (fun p1 => ?_); (focus (refine (b1.cell ?_).trans ?_; (focus (simp; done)); (simp [jcell2_0, jcell2_1, jcell2_2]; done))))); (try (refine jthenUse (A := w1.cell? ⟨w.heap.size + 1, 2, none⟩ = some (.int .i64 x.2.2)) ?_ (fun p2 => ?_); (focus (refine (b1.cell ?_).trans ?_; (focus (simp; done)); (simp [jcell2_0, jcell2_1, jcell2_2]; done))))); have B1 : Hid (Below w.heap.size w w1) := (show Below w.heap.size w _ by go_grown).trans (b1.mono (by simp <;> omega)); clear ho b1; dsimp only)
      | (change (if Region.wanted (Oper.mk (some 16) _ _ _ _ _) _ = true then _ else _); refine step_append_grows (by rfl) _ _ _ (by rfl) 34 i0 (.agg #[.int .i64 0, .int .i64 0, .int .i64 0]) 3 24 Try.underlying23 hi hz0 hz1 hz2 (by rfl) (by decide) av 0 0 [] (by rfl) (fun _ => ⟨rfl, rfl⟩) (by rfl) (by intro b0 _ j u h; simp at h) ⟨_, 0, none⟩ 1 1 (jbflat [x]) (by rfl) (by rfl) (jbone_at ⟨by first | assumption | (simp [jcell2_0, jcell2_1, jcell2_2]; done), by first | assumption | (simp [jcell2_0, jcell2_1, jcell2_2]; done), by first | assumption | (simp [jcell2_0, jcell2_1, jcell2_2]; done)⟩) (jbflat_one _) (by omega) (by unfold maxLen; omega) (by omega) ?_; intro v2 w2 hown1 hgrow1; obtain ⟨g2, cap2, rfl, hg1, hl1⟩ := jowns_form hown1 (by omega); rw [Nat.zero_add, List.nil_append] at hown1; have O2 := hid (jbowns_mono hown1 (show w.heap.size ≤ _ by have := B1.out.size; simp <;> omega)); have B2 := hid (jpush_below (w := w) hgrow1 (by first | exact B1.out | exact B1.out.alloc B1.out.size _) (by intro k h; cases h)); clear hown1 hgrow1 hg1 hl1)))
  all_goals
    have hs2 : w.heap.size ≤ w2.heap.size := B2.out.size
    have OK : Hid (JbOwn w.heap.size w2.heap.size w2 (.slice (some ⟨g2, 0, none⟩) 1 cap2) [x]) := JbOwn.of_owns O2.out (by simp)
    clear O2 hi hz0 hz1 hz2 B1 q0 q1 q2
    go_wp2_with fail
    refine (icanMeet_any _ [x] t g HG.out HT.out _ OK.out.reads).mono ?_
    rintro e w4 ⟨rfl, b4⟩
    have O4 := hid ((OK.out.below b4).mono (Nat.le_refl _) b4.size)
    have B4 : Hid (Below w.heap.size w w4) := B2.out.trans (b4.mono hs2)
    clear b4 OK
    cases t
    · go_wp2
      go_ret2
      exact ⟨_, rfl, jbown_nil _ _ _ _ _, B4.out⟩
    · go_wp2
      go_ret2
      exact ⟨_, rfl, O4.out, B4.out⟩
theorem iadm_any (v : Value) (xs : List JbEl) (x : JbEl) (w : World) (hr : JbReads w v xs) :
    Calls Try.prog 12 #[v, .agg #[.int .i64 x.1, .int .i64 x.2.1, .int .i64 x.2.2]] w fun e w' => ∃ v', e = .returned (.tuple #[v', .bool (admB xs x)]) ∧ JbOwn w.heap.size w'.heap.size w' v' (admL xs x) ∧ Below w.heap.size w w' := by
  have h2 : admL xs x = admT (admB xs x) (xs ++ [x]) := by
    unfold admL
    cases admB xs x <;> rfl
  by_cases h8 : 8 ≤ xs.length
  · have h1 : admB xs x = false := by
      unfold admB
      rw [Bool.and_eq_false_iff]
      left
      rw [← Bool.not_eq_true]
      intro h
      have := goodJ_len h
      simp at this
      omega
    rw [h2, h1]
    exact iadm_full v xs x w hr h8
  · rw [h2]
    have hr' := hr
    obtain ⟨a, ca, rfl, _, _⟩ := hr
    by_cases h0 : xs = []
    · subst h0
      exact iadm_none a ca x w hr' _ _ rfl rfl
    · exact iadm_some _ xs x xs.length (xs.length + 1) (xs ++ [x]) rfl rfl rfl w hr' (by omega) h0 _ _ rfl rfl
end Go.Proofs.Ytobkockikpgcoab

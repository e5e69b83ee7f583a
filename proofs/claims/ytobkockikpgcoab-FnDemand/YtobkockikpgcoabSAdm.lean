/-
  spec.AdmitJob: x behind all, where all can be met then, in memory of its own. Nothing old is written.
-/
import Derived.Test.YtobkockikpgcoabSMeetJ
import Derived.Test.YtobkockikpgcoabSJob
import Derived.Test.YtobkockikpgcoabJbApp2
import Derived.Deep.AppendLies
import Derived.Deep.RegionLawGrows
namespace Go.Proofs.Ytobkockikpgcoab
open Go.RowKit

def admY (t : Bool) (l : List JbEl) : List JbEl := match t with | true => l | false => []
set_option linter.unusedSimpArgs false in
set_option maxRecDepth 100000 in
set_option maxHeartbeats 8000000 in
theorem sadm_some (ga oa ca : Nat) (xs : List JbEl) (x : JbEl) (n n1 : Nat) (l : List JbEl) (hl : l = xs ++ [x]) (hn1 : n1 = n + 1) (hn : xs.length = n) (w : World) (hr : JbReads w (.slice (some ⟨ga, oa, none⟩) n ca) xs) (hca : ∀ i, i < xs.length → JbCells w ga (oa + i * 3) (xs.getD i (0, 0, 0))) (hx : n < 8) (hpos : 0 < n) (hg : goodJ xs = true) (hxb : jobB x = true) (hgl : goodJ l = true) (t : Bool) (ht : meetB l = t) :
    Calls Try.prog 13 #[.slice (some ⟨ga, oa, none⟩) n ca, .agg #[.int .i64 x.1, .int .i64 x.2.1, .int .i64 x.2.2]] w fun e w' => ∃ v', e = .returned (.tuple #[v', .bool t]) ∧ JbOwn w.heap.size w'.heap.size w' v' (admY t l) ∧ Below w.heap.size w w' := by
  obtain ⟨i0, hi, hz0, hz1, hz2⟩ := info_parts info_job
  have HN1 := hid hn1
  have HN : Hid (n = xs.length) := hn.symm
  have HLL := hid hl
  have HG := hid hg
  have HX := hid hxb
  have HT := hid ht
  have HGL := hid hgl
  have HR := hid hr
  have hlt0 : ga < w.heap.size := (hca 0 (by omega)).lt
  have hfc0 := hid (jbflat_cells hca)
  have hd8 : ((n : Int) == 8) = false := by rw [beq_eq_false_iff_ne]; omega
  clear hca hn hl hn1 hg hxb ht hgl hr
  go_enter Try.func13, Try.ntmps13
  go_wp2_with fail
  refine (sgoodJobs_eq _ xs true HG.out _ (HR.out.below (by go_grown))).mono ?_
  rintro e w1 ⟨rfl, b1⟩
  have B1 : Hid (Below w.heap.size w w1) := ((Below.refl _ _).alloc (Nat.le_refl _) _).trans (b1.mono (by simp))
  have x0 : w1.cell? ⟨w.heap.size, 0, none⟩ = some (.int .i64 x.1) := (b1.cell (by simp)).trans (by simp)
  have x1 : w1.cell? ⟨w.heap.size, 1, none⟩ = some (.int .i64 x.2.1) := (b1.cell (by simp)).trans (by simp)
  have x2 : w1.cell? ⟨w.heap.size, 2, none⟩ = some (.int .i64 x.2.2) := (b1.cell (by simp)).trans (by simp)
  have hs1 : w.heap.size < w1.heap.size := lt_of_cell x0
  clear b1
  go_wp2_with fail
  refine (l4Job_eq x true HX.out _).mono ?_
  rintro e w3 ⟨rfl, b3⟩
  have B3 : Hid (Below w.heap.size w w3) := B1.out.trans (b3.mono (by omega))
  have z0 := (b3.cell (p := ⟨w.heap.size, 0, none⟩) hs1).trans x0
  have z1 := (b3.cell (p := ⟨w.heap.size, 1, none⟩) hs1).trans x1
  have z2 := (b3.cell (p := ⟨w.heap.size, 2, none⟩) hs1).trans x2
  have hH : w.heap.size < w3.heap.size := lt_of_cell z0
  clear b3 B1 x0 x1 x2 hs1
  have hlt : ga < w3.heap.size := by omega
  have hfc : Hid (∀ j u, (jbflat xs)[j]? = some u → w3.cell? ((⟨ga, oa, none⟩ : Addr).add j) = some u) := jcells_below hfc0.out B3.out hlt0
  clear hfc0
  go_wp2_with fail
  go_region_law
    ((first
      | (change (if Region.wanted (Oper.mk (some 22) _ _ _ _ _) _ = true then _ else _); refine step_append_grows (by rfl) _ _ _ (by rfl) 34 i0 (.agg #[.int .i64 0, .int .i64 0, .int .i64 0]) 3 24 Try.underlying23 hi hz0 hz1 hz2 (by rfl) (by decide) (some ⟨_, 0, none⟩) 0 0 [] (by rfl) (by intro h; cases h) (by rfl) (by intro b0 _ j u h; simp at h) ⟨ga, oa, none⟩ n ca (jbflat xs) (by rfl) (by rw [HN.out]; exact length_jbflat xs) (jcells_below hfc.out (by go_grown) hlt) (jbflat_one _) (by omega) (by unfold maxLen; omega) (by omega) ?_; intro v1 w1 hown1 hgrow1; rw [Nat.zero_add, List.nil_append] at hown1; obtain ⟨g1, cap1, rfl, hg1, hl1⟩ := jowns_form hown1 hpos; have O1 := hid (jbowns_mono hown1 (show w3.heap.size ≤ _ by simp <;> omega)); have HG1 : Hid (w3.heap.size ≤ g1) := (by simp at hg1; show _ ≤ _; omega); have B1 := hid (jpush_below (w := w3) hgrow1 (by go_grown) (by intro k h; cases h)); have q1 := (B1.out.cell (p := ⟨w.heap.size, 0, none⟩) hH).trans z0; have q2 := (B1.out.cell (p := ⟨w.heap.size, 1, none⟩) hH).trans z1; have q3 := (B1.out.cell (p := ⟨w.heap.size, 2, none⟩) hH).trans z2; (try (refine jthenUse (A := w1.cell? ⟨w3.heap.size, 0, none⟩ = some (.int .i64 x.1)) ?_ (fun p00 => ?_); (focus (refine hgrow1.cell ?_ ?_; (focus (simp [jcell2_0, jcell2_1, jcell2_2]; done)); (intro h; cases h))))); (try (refine jthenUse (A := w1.cell? ⟨w3.heap.size, 1, none⟩ = some (.int .i64 x.2.1)) ?_ (fun p01 => ?_); (focus (refine hgrow1.cell ?_ ?_; (focus (simp [jcell2_0, jcell2_1, jcell2_2]; done)); (intro h; cases h))))); (try (refine jthenUse (A := w1.cell? ⟨w3.heap.size, 2, none⟩ = some (.int .i64 x.2.2)) ?_ (fun p02 => ?_); (focus (refine hgrow1.cell ?_ ?_; (focus (simp [jcell2_0, jcell2_1, jcell2_2]; done)); (intro h; cases h))))); (try (refine jthenUse (A := w1.cell? ⟨w3.heap.size + 1, 0, none⟩ = some (.int .i64 x.1)) ?_ (fun p10 => ?_); (focus (refine hgrow1.cell ?_ ?_; (focus (simp [jcell2_0, jcell2_1, jcell2_2]; done)); (intro h; cases h))))); (try (refine jthenUse (A := w1.cell? ⟨w3.heap.size + 1, 1, none⟩ = some (.int .i64 x.2.1)) ?_ (fun p11 => ?_); (focus (refine hgrow1.cell ?_ ?_; (focus (simp [jcell2_0, jcell2_1, jcell2_2]; done)); (intro h; cases h))))); (try (refine jthenUse (A := w1.cell? ⟨w3.heap.size + 1, 2, none⟩ = some (.int .i64 x.2.2)) ?_ (fun p12 => ?_); (focus (refine hgrow1.cell ?_ ?_; (focus (simp [jcell2_0, jcell2_1, jcell2_2]; done)); (intro h; cases h))))); clear hown1 hgrow1 hg1 hl1)
      | (change (if Region.wanted (Oper.mk (some 25) _ _ _ _ _) _ = true then _ else _); refine step_append_lies _ (by rfl) _ _ _ (by rfl) w3.heap.size 34 i0 (.agg #[.int .i64 0, .int .i64 0, .int .i64 0]) 3 24 Try.underlying23 hi hz0 hz1 hz2 (by rfl) (by decide) (.slice (some ⟨g1, 0, none⟩) n cap1) n (jbflat xs) (by rfl) (by first | exact O1.out | exact O1.out.alloc _) ⟨_, 0, none⟩ 1 1 (jbflat [x]) (by rfl) (by rfl) (jbone_at ⟨by first | assumption | (simp [jcell2_0, jcell2_1, jcell2_2]; done), by first | assumption | (simp [jcell2_0, jcell2_1, jcell2_2]; done), by first | assumption | (simp [jcell2_0, jcell2_1, jcell2_2]; done)⟩) (jbflat_one _) (by decide) (by unfold maxLen; omega) (by omega) (by have := B1.out.size; simp <;> omega) _ (by rfl) ?_; intro g cap w2 hown2 hgrow2 hat2 hlt2; have O2 := hid hown2; have B2' := hid (jpush_below (w := w3) hgrow2 (by first | exact B1.out | exact B1.out.alloc B1.out.size _) (fun k h => by simp [Value.ownBlock] at h; have := HG1.out; omega)); clear hown2 hgrow2 hat2)))
  all_goals
    have hn1 := HN1.out
    have HNN : Hid (l.length = n1) := by show _ = _; rw [HLL.out, List.length_append, ← HN.out, hn1]; rfl
    rw [← jbflat_append, ← HLL.out] at O2
    rw [← hn1] at O2 ⊢
    have B2 : Hid (Below w.heap.size w w2) := B3.out.trans (B2'.out.mono (by omega))
    replace O2 := hid (jbowns_mono O2.out (show w.heap.size ≤ w3.heap.size by omega))
    clear hn1 O1 B1 q1 q2 q3 hlt2 B2' z0 z1 z2 B3 hfc
    have hs2 : w.heap.size ≤ w2.heap.size := B2.out.size
    have OK : Hid (JbOwn w.heap.size w2.heap.size w2 (.slice (some ⟨g, 0, none⟩) n1 cap) l) := JbOwn.of_owns O2.out (by have := goodJ_len HGL.out; omega)
    clear O2 hi hz0 hz1 hz2
    go_wp2_with fail
    refine (l4Meet_eq _ l t HT.out _ OK.out.reads HGL.out).mono ?_
    rintro e w4 ⟨rfl, b4⟩
    have O4 := hid ((OK.out.below b4).mono (Nat.le_refl _) b4.size)
    have B4 : Hid (Below w.heap.size w w4) := B2.out.trans (b4.mono hs2)
    clear b4 OK
    cases t
    · go_wp2
      go_ret2
      exact ⟨_, rfl, jbown_nil _ _ _ _ _, B4.out⟩
    · go_wp2
      go_ret2
      exact ⟨_, rfl, O4.out, B4.out⟩
theorem jowns_form1 {w : World} {base : Nat} {t : TypeId} {v : Value} {cs : List Value} (h : w.ownsRow base t 3 v (0 + 1) cs) : ∃ g cap, v = .slice (some ⟨g, 0, none⟩) 1 cap ∧ base ≤ g ∧ g < w.heap.size := jowns_form h (by omega)
set_option linter.unusedSimpArgs false in
set_option maxRecDepth 100000 in
set_option maxHeartbeats 8000000 in
theorem sadm_none (a : Option Addr) (ca : Nat) (x : JbEl) (w : World) (hr : JbReads w (.slice a 0 ca) []) (hxb : jobB x = true) (hgl : goodJ [x] = true) (t : Bool) (ht : meetB [x] = t) :
    Calls Try.prog 13 #[.slice a 0 ca, .agg #[.int .i64 x.1, .int .i64 x.2.1, .int .i64 x.2.2]] w fun e w' => ∃ v', e = .returned (.tuple #[v', .bool t]) ∧ JbOwn w.heap.size w'.heap.size w' v' (admY t [x]) ∧ Below w.heap.size w w' := by
  obtain ⟨i0, hi, hz0, hz1, hz2⟩ := info_parts info_job
  have HG : Hid (goodJ [] = true) := rfl
  have HX := hid hxb
  have HT := hid ht
  have HGL := hid hgl
  have HR := hid hr
  clear hxb ht hgl hr
  cases a
  all_goals
    go_enter Try.func13, Try.ntmps13
    go_wp2_with fail
    refine (sgoodJobs_eq _ [] true HG.out _ (HR.out.below (by go_grown))).mono ?_
    rintro e w1 ⟨rfl, b1⟩
    have B1 : Hid (Below w.heap.size w w1) := ((Below.refl _ _).alloc (Nat.le_refl _) _).trans (b1.mono (by simp))
    have x0 : w1.cell? ⟨w.heap.size, 0, none⟩ = some (.int .i64 x.1) := (b1.cell (by simp)).trans (by simp)
    have x1 : w1.cell? ⟨w.heap.size, 1, none⟩ = some (.int .i64 x.2.1) := (b1.cell (by simp)).trans (by simp)
    have x2 : w1.cell? ⟨w.heap.size, 2, none⟩ = some (.int .i64 x.2.2) := (b1.cell (by simp)).trans (by simp)
    have hs1 : w.heap.size < w1.heap.size := lt_of_cell x0
    clear b1
    go_wp2_with fail
    refine (l4Job_eq x true HX.out _).mono ?_
    rintro e w3 ⟨rfl, b3⟩
    have B3 : Hid (Below w.heap.size w w3) := B1.out.trans (b3.mono (by omega))
    have z0 := (b3.cell (p := ⟨w.heap.size, 0, none⟩) hs1).trans x0
    have z1 := (b3.cell (p := ⟨w.heap.size, 1, none⟩) hs1).trans x1
    have z2 := (b3.cell (p := ⟨w.heap.size, 2, none⟩) hs1).trans x2
    have hH : w.heap.size < w3.heap.size := lt_of_cell z0
    clear b3 B1 x0 x1 x2 hs1
    go_wp2_with fail
    go_region_law
      ((change (if Region.wanted (Oper.mk (some 25) _ _ _ _ _) _ = true then _ else _); refine step_append_grows (by rfl) _ _ _ (by rfl) 34 i0 (.agg #[.int .i64 0, .int .i64 0, .int .i64 0]) 3 24 Try.underlying23 hi hz0 hz1 hz2 (by rfl) (by decide) (some ⟨_, 0, none⟩) 0 0 [] (by rfl) (by intro h; cases h) (by rfl) (by intro b0 _ j u h; simp at h) ⟨_, 0, none⟩ 1 1 (jbflat [x]) (by rfl) (by rfl) (jbone_at ⟨by first | assumption | (simp [jcell2_0, jcell2_1, jcell2_2]; done), by first | assumption | (simp [jcell2_0, jcell2_1, jcell2_2]; done), by first | assumption | (simp [jcell2_0, jcell2_1, jcell2_2]; done)⟩) (jbflat_one _) (by omega) (by unfold maxLen; omega) (by omega) ?_; intro v1 w2 hown1 hgrow1; obtain ⟨g, cap, rfl, hg1, hl1⟩ := jowns_form1 hown1; rw [Nat.zero_add, List.nil_append] at hown1; have O2 := hid (jbowns_mono hown1 (show w.heap.size ≤ _ by simp <;> omega)); have B2' := hid (jpush_below (w := w3) hgrow1 (by go_grown) (by intro k h; cases h)); clear hown1 hgrow1 hg1 hl1))
    all_goals
      have B2 : Hid (Below w.heap.size w w2) := B3.out.trans (B2'.out.mono (by omega))
      have hs2 : w.heap.size ≤ w2.heap.size := B2.out.size
      have OK : Hid (JbOwn w.heap.size w2.heap.size w2 (.slice (some ⟨g, 0, none⟩) 1 cap) [x]) := JbOwn.of_owns O2.out (by simp)
      clear O2 hi hz0 hz1 hz2 B2' B3 z0 z1 z2
      go_wp2_with fail
      refine (l4Meet_eq _ [x] t HT.out _ OK.out.reads HGL.out).mono ?_
      rintro e w4 ⟨rfl, b4⟩
      have O4 := hid ((OK.out.below b4).mono (Nat.le_refl _) b4.size)
      have B4 : Hid (Below w.heap.size w w4) := B2.out.trans (b4.mono hs2)
      clear b4 OK
      cases t
      · go_wp2
        go_ret2
        exact ⟨_, rfl, jbown_nil _ _ _ _ _, B4.out⟩
      · go_wp2
        go_ret2
        exact ⟨_, rfl, O4.out, B4.out⟩

set_option maxHeartbeats 2000000 in
theorem sadm_no (v : Value) (xs : List JbEl) (x : JbEl) (w : World) (hr : JbReads w v xs) (hn : goodJ (xs ++ [x]) = false) :
    Calls Try.prog 13 #[v, .agg #[.int .i64 x.1, .int .i64 x.2.1, .int .i64 x.2.2]] w fun e w' => ∃ v', e = .returned (.tuple #[v', .bool false]) ∧ JbOwn w.heap.size w'.heap.size w' v' [] ∧ Below w.heap.size w w' := by
  have HR := hid hr
  obtain ⟨a, cap, rfl, _, _⟩ := hr
  rw [goodJ_app] at hn
  cases hg : goodJ xs with
  | false =>
    have HG := hid hg
    clear hn hg
    go_enter Try.func13, Try.ntmps13
    go_wp2_with fail
    refine (sgoodJobs_eq _ xs false HG.out _ (HR.out.below (by go_grown))).mono ?_
    rintro e w1 ⟨rfl, b1⟩
    have B1 : Hid (Below w.heap.size w w1) := ((Below.refl _ _).alloc (Nat.le_refl _) _).trans (b1.mono (by simp))
    clear b1
    go_wp2
    go_ret2
    exact ⟨_, rfl, jbown_nil _ _ _ _ _, B1.out⟩
  | true =>
    rw [hg, Bool.true_and] at hn
    have HG := hid hg
    obtain ⟨b, hb⟩ : ∃ b, jobB x = b := ⟨_, rfl⟩
    have HX := hid hb
    have HN : Hid (b = true → xs.length = 8) := fun h => by rw [hb, h, Bool.true_and, decide_eq_false_iff_not] at hn; omega
    clear hn hg hb
    go_enter Try.func13, Try.ntmps13
    go_wp2_with fail
    refine (sgoodJobs_eq _ xs true HG.out _ (HR.out.below (by go_grown))).mono ?_
    rintro e w1 ⟨rfl, b1⟩
    have B1 : Hid (Below w.heap.size w w1) := ((Below.refl _ _).alloc (Nat.le_refl _) _).trans (b1.mono (by simp))
    have x0 : w1.cell? ⟨w.heap.size, 0, none⟩ = some (.int .i64 x.1) := (b1.cell (by simp)).trans (by simp)
    have x1 : w1.cell? ⟨w.heap.size, 1, none⟩ = some (.int .i64 x.2.1) := (b1.cell (by simp)).trans (by simp)
    have x2 : w1.cell? ⟨w.heap.size, 2, none⟩ = some (.int .i64 x.2.2) := (b1.cell (by simp)).trans (by simp)
    have hs1 : w.heap.size < w1.heap.size := lt_of_cell x0
    clear b1
    go_wp2_with fail
    refine (l4Job_eq x b HX.out _).mono ?_
    rintro e w3 ⟨rfl, b3⟩
    have B3 : Hid (Below w.heap.size w w3) := B1.out.trans (b3.mono (by omega))
    clear b3 B1 x0 x1 x2
    cases b
    · go_wp2
      go_ret2
      exact ⟨_, rfl, jbown_nil _ _ _ _ _, B3.out⟩
    · have h8 := HN.out rfl
      have hd8 : ((xs.length : Int) == 8) = true := by rw [h8]; rfl
      clear h8
      go_wp2
      go_ret2
      exact ⟨_, rfl, jbown_nil _ _ _ _ _, B3.out⟩
theorem sadm_any (v : Value) (xs : List JbEl) (x : JbEl) (w : World) (hr : JbReads w v xs) :
    Calls Try.prog 13 #[v, .agg #[.int .i64 x.1, .int .i64 x.2.1, .int .i64 x.2.2]] w fun e w' => ∃ v', e = .returned (.tuple #[v', .bool (admB xs x)]) ∧ JbOwn w.heap.size w'.heap.size w' v' (admL xs x) ∧ Below w.heap.size w w' := by
  cases hg : goodJ (xs ++ [x]) with
  | false =>
    have h1 : admB xs x = false := by unfold admB; rw [hg]; rfl
    have h2 : admL xs x = [] := by unfold admL; rw [h1]; rfl
    rw [h1, h2]
    exact sadm_no v xs x w hr hg
  | true =>
    have hh := hg
    rw [goodJ_app, Bool.and_eq_true, Bool.and_eq_true, decide_eq_true_eq] at hh
    have hl := goodJ_len hh.1
    have h1 : admB xs x = meetB (xs ++ [x]) := by unfold admB; rw [hg, Bool.true_and]
    have h2 : admL xs x = admY (meetB (xs ++ [x])) (xs ++ [x]) := by
      unfold admL
      rw [h1]
      cases meetB (xs ++ [x]) <;> rfl
    rw [h1, h2]
    have hr' := hr
    obtain ⟨a, ca, rfl, _, hxa⟩ := hr
    by_cases h0 : xs = []
    · subst h0
      exact sadm_none a ca x w hr' hh.2.1 hg _ rfl
    · obtain ⟨ga, oa, rfl, hca⟩ := hxa.resolve_left h0
      exact sadm_some ga oa ca xs x xs.length (xs.length + 1) (xs ++ [x]) rfl rfl rfl w hr' hca (by omega) (List.length_pos_iff.2 h0) hh.1 hh.2.1 hg _ rfl
end Go.Proofs.Ytobkockikpgcoab

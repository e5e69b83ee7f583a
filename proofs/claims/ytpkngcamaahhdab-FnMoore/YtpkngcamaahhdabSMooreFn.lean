/-
  spec.MooreOrder: Moore's order, in memory of its own, and how many are in time. Nothing old is written.
-/
import Derived.Test.YtpkngcamaahhdabSTask
import Derived.Test.YtpkngcamaahhdabSMoore
import Derived.OwnWalk
namespace Go.Proofs.Ytpkngcamaahhdab
open Go.RowKit

set_option maxHeartbeats 1000000 in
theorem smoorefn_no (v : Value) (xs : List TkEl) (w : World) (hr : TkReads w v xs) (hg : goodT xs = false) :
    Calls Try.prog 21 #[v] w fun e w' => ∃ u0, e = .returned (.tuple #[u0, .int .i64 0, .bool false]) ∧ KOwn w.heap.size w'.heap.size w' u0 [] ∧ Below w.heap.size w w' := by
  have HR := hid hr
  clear hr
  go_enter Try.func21, Try.ntmps21
  go_wp2_with fail
  refine (sgoodTasks_eq _ xs false hg _ HR.out).mono ?_
  rintro e w1 ⟨rfl, b1⟩
  have B1 := hid b1
  clear b1
  go_wp2
  go_ret3
  exact ⟨_, rfl, kown_nil _ _ _ _ _, B1.out⟩
theorem kown_news {lo hi : Nat} {w w' : World} {g cap n : Nat} {xs : List Int} (h : KOwn lo hi w (.slice (some ⟨g, 0, none⟩) n cap) xs) (hb : Below w.heap.size w w') : ∀ j u, (kflat xs)[j]? = some u → w'.cell? ((⟨g, 0, none⟩ : Addr).add j) = some u := by
  refine kflat_cells (off := 0) ?_
  intro i hi
  rw [Nat.zero_add]
  exact (kcells_of (h.below hb).reads).2 i hi
set_option maxRecDepth 100000 in
set_option maxHeartbeats 8000000 in
theorem smoorefn_yes (v : Value) (xs : List TkEl) (w : World) (hr : TkReads w v xs) (hg : goodT xs = true) :
    Calls Try.prog 21 #[v] w fun e w' => ∃ u0, e = .returned (.tuple #[u0, .int .i64 ((mooreL xs).1.length : Nat), .bool true]) ∧ KOwn w.heap.size w'.heap.size w' u0 (ofN ((mooreL xs).1 ++ (mooreL xs).2)) ∧ Below w.heap.size w w' := by
  have HR := hid hr
  have HG := hid hg
  have hlen := goodT_len hg
  have hml := (mooreL_perm hg).length_eq
  rw [List.length_append, List.length_range] at hml
  obtain ⟨i0, hi, hz0, hz1, hz2⟩ := info_parts info_int
  obtain ⟨A, B, hAB⟩ : ∃ A B, mooreL xs = (A, B) := ⟨_, _, rfl⟩
  rw [hAB] at hml ⊢
  simp only at hml ⊢
  have HAB := hid hAB
  clear hr hg hAB
  go_enter Try.func21, Try.ntmps21
  go_wp2_with fail
  refine (sgoodTasks_eq _ xs true HG.out _ HR.out).mono ?_
  rintro e w1 ⟨rfl, b1⟩
  have B1 := hid b1
  clear b1
  go_wp2_with fail
  refine (smoore_any _ xs _ (HR.out.below B1.out) HG.out).mono ?_
  rintro e w2 ⟨va, vb, rfl, hka, hkb, b2⟩
  have B2 : Hid (Below w.heap.size w w2) := B1.out.trans (b2.mono B1.out.size)
  have hs2 := B2.out.size
  clear b2
  rw [HAB.out] at hka hkb
  simp only at hka hkb
  have hA : A.length ≤ 10 := by omega
  have hB : B.length ≤ 10 := by omega
  have HY : Hid ((w2.alloc (.cells #[] 3)).ownsRow w2.heap.size 3 1 (.slice (some ⟨w2.heap.size, 0, none⟩) 0 0) 0 []) := World.ownsRow_made w2 #[] 0 (Nat.le_refl _) (by unfold maxLen; omega) rfl
  have HE : Hid (ofN (A ++ B) = ofN A ++ ofN B) := by show _ = _; simp [ofN]
  have HKA := hid hka
  have HKB := hid hkb
  have L0 : Hid (Below w2.heap.size w2 (w2.alloc (.cells #[] 3))) := (Below.refl _ _).alloc (Nat.le_refl _) _
  clear hml
  rcases hka.2 with ⟨aa, capa, rfl, hA0⟩ | ⟨ga, capa, hva, _, _⟩
  · rcases hkb.2 with ⟨ab, capb, rfl, hB0⟩ | ⟨gb, capb, hvb, _, _⟩
    · clear hka hkb
      have HA0 : Hid (A = []) := by
        have := congrArg List.length hA0
        rw [ofN, List.length_map] at this
        exact List.eq_nil_of_length_eq_zero this
      have HB0 : Hid (B = []) := by
        have := congrArg List.length hB0
        rw [ofN, List.length_map] at this
        exact List.eq_nil_of_length_eq_zero this
      clear hA0 hB0
      go_wp2_with (at_builtin; refine Lib.wpList_append_run_sl _ rfl _ _ 42 rfl _ _ rfl rfl (knothing hi hz1 _ _ _ _ (Nat.le_refl _) _ _) ?_)
      go_ret3
      refine ⟨_, by rw [HA0.out]; rfl, ?_, B2.out.trans (L0.out.mono hs2)⟩
      rw [HA0.out, HB0.out]
      exact kown_nil _ _ _ _ _
    · rw [ofN, List.length_map] at hvb
      subst hvb
      clear hka hkb
      have HA0 : Hid (A = []) := by
        have := congrArg List.length hA0
        rw [ofN, List.length_map] at this
        exact List.eq_nil_of_length_eq_zero this
      clear hA0
      have HN2 := hid (kown_news HKB.out L0.out)
      go_wp2_with (at_builtin; first | refine wpList_append_own _ rfl _ _ 42 rfl w2.heap.size 3 i0 (.int .i64 0) 1 8 Try.underlying42 hi hz0 hz1 hz2 rfl (by decide) _ 0 [] rfl HY.out ⟨gb, 0, none⟩ B.length capb (kflat (ofN B)) rfl (by rw [length_kflat, ofN, List.length_map, Nat.mul_one]) HN2.out (kflat_one _) (by unfold maxLen; omega) (by omega) (by first | omega | (simp; omega) | simp) ?_ | refine Lib.wpList_append_run_sl _ rfl _ _ 42 rfl _ _ rfl rfl (knothing hi hz1 _ _ _ _ (Nat.le_refl _) _ _) ?_)
      intro v3 w3 hown3 hgr3 _
      have O3 : Hid (w3.ownsRow w.heap.size 3 1 v3 B.length (kflat (ofN B))) := by
        refine owns_mono5 (base := w2.heap.size) ?_ hs2
        first | exact hown3 | (have := hown3; rw [Nat.zero_add, List.nil_append] at this; exact this)
      have B3 : Hid (Below w.heap.size w w3) := B2.out.trans (((L0.out.mono hs2)).grown hgr3 (by simp; omega) (by intro m hm; simp [Value.ownBlock] at hm; omega))
      clear hown3 hgr3
      go_wp2
      go_ret3
      refine ⟨_, by rw [HA0.out]; rfl, ?_, B3.out⟩
      rw [HA0.out, List.nil_append]
      exact KOwn.of_owns O3.out (by rw [ofN, List.length_map]; omega)
  · rw [ofN, List.length_map] at hva
    subst hva
    rcases hkb.2 with ⟨ab, capb, rfl, hB0⟩ | ⟨gb, capb, hvb, _, _⟩
    · clear hka hkb
      have HB0 : Hid (B = []) := by
        have := congrArg List.length hB0
        rw [ofN, List.length_map] at this
        exact List.eq_nil_of_length_eq_zero this
      have HN1 := hid (kown_news HKA.out L0.out)
      clear hB0
      go_wp2_with (at_builtin; refine wpList_append_own _ rfl _ _ 42 rfl w2.heap.size 3 i0 (.int .i64 0) 1 8 Try.underlying42 hi hz0 hz1 hz2 rfl (by decide) _ 0 [] rfl HY.out ⟨ga, 0, none⟩ A.length capa (kflat (ofN A)) rfl (by rw [length_kflat, ofN, List.length_map, Nat.mul_one]) HN1.out (kflat_one _) (by unfold maxLen; omega) (by omega) (by first | omega | (simp; omega) | simp) ?_)
      intro v3 w3 hown3 hgr3 hnil3
      have O3 : Hid (w3.ownsRow w2.heap.size 3 1 v3 A.length (kflat (ofN A))) := by
        first | exact hown3 | (have := hown3; rw [Nat.zero_add, List.nil_append] at this; exact this)
      have L3 : Hid (Below w2.heap.size w2 w3) := L0.out.grown hgr3 (by simp) (by intro m hm; simp [Value.ownBlock] at hm; omega)
      have hs3 := L3.out.size
      obtain ⟨b3, c3, rfl, hle3⟩ : ∃ b c, v3 = .slice (some ⟨b, 0, none⟩) A.length c ∧ A.length ≤ c := by
        rcases O3.out.2 with ⟨h, h'⟩ | ⟨b, c, _, h, _, _, h2, _⟩
        · first | exact (hnil3 h).elim | exact absurd (hnil3.1 h).1 (by simp)
        · exact ⟨b, c, h, h2⟩
      clear hown3 hgr3 hnil3
      go_wp2_with (at_builtin; refine Lib.wpList_append_run_sl _ rfl _ _ 42 rfl _ _ rfl rfl (knothing hi hz1 _ _ _ _ hle3 _ _) ?_)
      go_ret3
      refine ⟨_, rfl, ?_, B2.out.trans (L3.out.mono hs2)⟩
      rw [HB0.out, List.append_nil]
      exact KOwn.of_owns (owns_mono5 O3.out hs2) (by rw [ofN, List.length_map]; omega)
    · rw [ofN, List.length_map] at hvb
      subst hvb
      clear hka hkb
      have HN1 := hid (kown_news HKA.out L0.out)
      go_wp2_with (at_builtin; refine wpList_append_own _ rfl _ _ 42 rfl w2.heap.size 3 i0 (.int .i64 0) 1 8 Try.underlying42 hi hz0 hz1 hz2 rfl (by decide) _ 0 [] rfl HY.out ⟨ga, 0, none⟩ A.length capa (kflat (ofN A)) rfl (by rw [length_kflat, ofN, List.length_map, Nat.mul_one]) HN1.out (kflat_one _) (by unfold maxLen; omega) (by omega) (by first | omega | (simp; omega) | simp) ?_)
      intro v3 w3 hown3 hgr3 hnil3
      have O3 : Hid (w3.ownsRow w2.heap.size 3 1 v3 A.length (kflat (ofN A))) := by
        first | exact hown3 | (have := hown3; rw [Nat.zero_add, List.nil_append] at this; exact this)
      have L3 : Hid (Below w2.heap.size w2 w3) := L0.out.grown hgr3 (by simp) (by intro m hm; simp [Value.ownBlock] at hm; omega)
      have hs3 := L3.out.size
      obtain ⟨b3, c3, rfl, hle3⟩ : ∃ b c, v3 = .slice (some ⟨b, 0, none⟩) A.length c ∧ A.length ≤ c := by
        rcases O3.out.2 with ⟨h, h'⟩ | ⟨b, c, _, h, _, _, h2, _⟩
        · first | exact (hnil3 h).elim | exact absurd (hnil3.1 h).1 (by simp)
        · exact ⟨b, c, h, h2⟩
      clear hown3 hgr3 hnil3
      have HN2 := hid (kown_news HKB.out L3.out)
      go_wp2_with (at_builtin; refine wpList_append_own _ rfl _ _ 42 rfl w2.heap.size 3 i0 (.int .i64 0) 1 8 Try.underlying42 hi hz0 hz1 hz2 rfl (by decide) _ _ _ rfl O3.out ⟨gb, 0, none⟩ B.length capb (kflat (ofN B)) rfl (by rw [length_kflat, ofN, List.length_map, Nat.mul_one]) HN2.out (kflat_one _) (by unfold maxLen; omega) (by omega) (by first | omega | (simp; omega) | simp) ?_)
      intro v4 w4 hown4 hgr4 _
      have O4 : Hid (w4.ownsRow w.heap.size 3 1 v4 (A.length + B.length) (kflat (ofN A ++ ofN B))) := by
        refine owns_mono5 (base := w2.heap.size) ?_ hs2
        rw [kflat_append]
        exact hown4
      have B4 : Hid (Below w.heap.size w w4) := B2.out.trans ((L3.out.mono hs2).grown hgr4 (by omega) (fun m hm => by have := owns_base O3.out m hm; omega))
      clear hown4 hgr4
      go_wp2
      go_ret3
      refine ⟨_, rfl, ?_, B4.out⟩
      rw [HE.out]
      exact KOwn.of_owns O4.out (by rw [List.length_append, ofN, ofN, List.length_map, List.length_map]; omega)
end Go.Proofs.Ytpkngcamaahhdab

/-
  spec.NewTurns: turns with nothing waiting, in memory of their own. Nothing old is written.
-/
import Derived.Test.YtepnhbicmlfnhacInfoII
import Derived.Test.YtepnhbicmlfnhacSIn
import Derived.Test.YtepnhbicmlfnhacInts
import Derived.Deep.RegionLawGrows
namespace Go.Proofs.Ytepnhbicmlfnhac
open Go.RowKit

set_option maxRecDepth 100000 in
set_option maxHeartbeats 16000000 in
theorem snewT_yes (v : Value) (xs : List Int) (w : World) (hr : KReads w v xs) (h : newOk xs = true) :
    Calls Try.prog 47 #[v] w fun e w' => ∃ u0, e = .returned (.tuple #[u0, .bool true]) ∧ TuOwn (Iv w.heap.size w'.heap.size) w' u0 (newT xs) ∧ Below w.heap.size w w' := by
  unfold newOk at h
  rw [Bool.and_eq_true] at h
  have E1 := hid h.1
  have E2 := hid h.2
  have hn : 1 ≤ xs.length ∧ xs.length ≤ 4 := by have := h.1; rw [decide_eq_true_eq] at this; omega
  clear h
  have HR := hid hr
  obtain ⟨g, off, cap, rfl, hc⟩ := hr.cells 0 (by omega)
  have HC := hid hc
  have hcap : xs.length ≤ cap := by obtain ⟨_, _, e, h, _⟩ := hr; cases e; exact h.2
  obtain ⟨i0, hi, hz0, hz1, hz2⟩ := info_parts info_int
  have mkQ := run_make_row' (P := Try.prog) 53 23 (.slice none 0 0) 24 Try.underlying53 info_ints rfl .i64 .i64 xs.length (by omega) (by omega)
  have mkI := run_make_row' (P := Try.prog) 23 3 (.int .i64 0) 8 Try.underlying23 info_int rfl .i64 .i64 xs.length (by omega) (by omega)
  have PB := hid (boxL_new w [.slice none 0 0, .slice none 0 0, .slice none 0 0, .slice none 0 0, .int .i64 0] 55)
  have B : Hid (Below w.heap.size w (w.alloc (.cells #[.slice none 0 0, .slice none 0 0, .slice none 0 0, .slice none 0 0, .int .i64 0] 55))) := (Below.refl _ _).alloc (Nat.le_refl _) _
  clear hr hc
  go_enter Try.func47, Try.ntmps47
  go_wp2_with fail
  refine (l1In_eq (xs.length : Int) 1 4 true E1.out _).mono ?_
  rintro e w' ⟨rfl, hw⟩; obtain rfl := hw.symm
  go_wp2_with fail
  refine (l1All7_eq _ xs 20 100 true E2.out _ (HR.out.below B.out)).mono ?_
  rintro e w' ⟨rfl, hw⟩; obtain rfl := hw.symm
  go_wp2_with fail
  refine wp_region_inv (fun l a wr => ∃ (s3 s16 s17 s18 s19 s20 s21 s22 s23 s24 s25 : Value) (c2 c4 c6 c8 : Nat × Nat), l.size = 12 ∧ a = { tmps := #[.slice (some ⟨g, off, none⟩) xs.length cap, undef, .pointer (some ⟨w.heap.size, 0, none⟩), s3, .int .i64 (xs.length : Nat), .slice (some ⟨g, off, none⟩) xs.length cap, .int .i64 (xs.length : Nat), .int .i64 (xs.length : Nat), .bool true, .bool false, .bool false, .slice (some ⟨g, off, none⟩) xs.length cap, .bool true, .bool false, .bool false, undef, s16, s17, s18, s19, s20, s21, s22, s23, s24, s25], defers := [] } ∧ (up l 10 → ∀ j, j < 10 → up l j) ∧ (¬ up l 10 → (Below w.heap.size w wr ∧ w.heap.size + 1 ≤ wr.heap.size ∧ BoxL wr w.heap.size [.slice none 0 0, .slice none 0 0, .slice none 0 0, .slice none 0 0, .int .i64 0] ∧ (up l 0 → ∃ b, s16 = .slice (some ⟨b, 0, none⟩) 0 0) ∧ (up l 1 → s17 = .slice (some ⟨g, off, none⟩) xs.length cap) ∧ (up l 2 → KOwn c2.1 c2.2 wr s18 xs ∧ (w.heap.size < c2.1 ∧ c2.1 ≤ c2.2 ∧ c2.2 ≤ wr.heap.size) ∧ ∃ a n k, s18 = .slice a n k) ∧ (up l 3 → s19 = .int .i64 (xs.length : Nat)) ∧ (up l 4 → QRow wr c4 s20 (List.replicate xs.length []) (fun _ => (c4.2, c4.2)) ∧ (w.heap.size < c4.1 ∧ c4.1 ≤ c4.2 ∧ c4.2 ≤ wr.heap.size) ∧ ∃ a n k, s20 = .slice a n k) ∧ (up l 5 → s21 = .int .i64 (xs.length : Nat)) ∧ (up l 6 → KOwn c6.1 c6.2 wr s22 (List.replicate xs.length 0) ∧ (w.heap.size < c6.1 ∧ c6.1 ≤ c6.2 ∧ c6.2 ≤ wr.heap.size) ∧ ∃ a n k, s22 = .slice a n k) ∧ (up l 7 → s23 = .int .i64 (xs.length : Nat)) ∧ (up l 8 → KOwn c8.1 c8.2 wr s24 (List.replicate xs.length 0) ∧ (w.heap.size < c8.1 ∧ c8.1 ≤ c8.2 ∧ c8.2 ≤ wr.heap.size) ∧ ∃ a n k, s24 = .slice a n k) ∧ (up l 9 → s25 = .agg #[s18, s20, s22, s24, .int .i64 0] ∧ up l 2 ∧ up l 4 ∧ up l 6 ∧ up l 8) ∧ (up l 2 → up l 4 → Dj c2 c4) ∧ (up l 2 → up l 6 → Dj c2 c6) ∧ (up l 2 → up l 8 → Dj c2 c8) ∧ (up l 4 → up l 6 → Dj c4 c6) ∧ (up l 4 → up l 8 → Dj c4 c8) ∧ (up l 6 → up l 8 → Dj c6 c8))) ∧ (up l 10 → (∃ u0 u1 u2 u3, TuOwn (Iv w.heap.size wr.heap.size) wr (.agg #[u0, u1, u2, u3, .int .i64 0]) (newT xs) ∧ Below w.heap.size w wr ∧ BoxL wr w.heap.size [u0, u1, u2, u3, .int .i64 0])) ∧ (up l 11 → up l 10 ∧ s3 = .bool true)) (by kernel_rfl) ?_ ?_ ?_
  · refine ⟨_, _, _, _, _, _, _, _, _, _, _, (0, 0), (0, 0), (0, 0), (0, 0), by simp, rfl, fun h => absurd h (fun h => up_none h), fun _ => ⟨B.out.drew, ?_, PB.out, fun h => absurd h (fun h => up_none h), fun h => absurd h (fun h => up_none h), fun h => absurd h (fun h => up_none h), fun h => absurd h (fun h => up_none h), fun h => absurd h (fun h => up_none h), fun h => absurd h (fun h => up_none h), fun h => absurd h (fun h => up_none h), fun h => absurd h (fun h => up_none h), fun h => absurd h (fun h => up_none h), fun h => absurd h (fun h => up_none h), fun h => absurd h (fun h => up_none h), fun h => absurd h (fun h => up_none h), fun h => absurd h (fun h => up_none h), fun h => absurd h (fun h => up_none h), fun h => absurd h (fun h => up_none h), fun h => absurd h (fun h => up_none h)⟩, fun h => absurd h (fun h => up_none h), fun h => absurd h (fun h => up_none h)⟩
    show w.heap.size + 1 ≤ (World.alloc _ _).heap.size
    rw [World.size_alloc]
    exact Nat.le_refl _
  · rintro l a wr ⟨s3, s16, s17, s18, s19, s20, s21, s22, s23, s24, s25, c2, c4, c6, c8, hsz, rfl, h10, _, hpost, h11⟩ hrd
    have hall := up_all hrd (hsz.trans rfl) (by kernel_rfl)
    obtain ⟨u10, rfl⟩ := h11 (hall 11 (by decide))
    obtain ⟨u0, u1, u2, u3, ht, hb, hbx⟩ := hpost u10
    have HT := hid ht
    have HB := hid hb
    obtain ⟨e0, e1, e2, e3, e4⟩ := hbx.five
    clear ht hb hbx hpost h10 h11 hall u10 hrd
    go_wp2
    exact bodyPost_ret (v := .tuple #[.agg #[u0, u1, u2, u3, .int .i64 0], .bool true]) (by simp [results, Try.results47, go_sem, e0, e1, e2, e3, e4]) rfl ⟨_, rfl, HT.out, HB.out⟩
  · rintro l a wr i ⟨s3, s16, s17, s18, s19, s20, s21, s22, s23, s24, s25, c2, c4, c6, c8, hsz, rfl, h10, hpre, hpost, h11⟩ hi
    obtain ⟨hun, o, ho, hall⟩ := mem_ready.1 hi
    have hlt : i < 12 := (Array.getElem?_eq_some_iff.1 ho).1
    have hno : ¬ up l i := up_not hun
    clear hi hun
    have hi : i = 0 ∨ i = 1 ∨ i = 2 ∨ i = 3 ∨ i = 4 ∨ i = 5 ∨ i = 6 ∨ i = 7 ∨ i = 8 ∨ i = 9 ∨ i = 10 ∨ i = 11 := by omega
    rcases hi with rfl | rfl | rfl | rfl | rfl | rfl | rfl | rfl | rfl | rfl | rfl | rfl
    · have ho' : some _ = some o := ho
      injection ho' with ho'
      subst ho'
      clear hall ho hlt
      have n10 : ¬ up l 10 := fun h => hno (h10 h 0 (by decide))
      obtain ⟨hB, hZ, hX, f0, f1, f2, f3, f4, f5, f6, f7, f8, f9, d2_4, d2_6, d2_8, d4_6, d4_8, d6_8⟩ := hpre n10
      clear hpre hpost h10
      refine wpOp_step rfl (fun K hK => ?_)
      go_simp
      refine hK _ _ ?_
      have b : Below wr.heap.size wr (wr.alloc (.cells #[] 3)) := (Below.refl _ _).alloc (Nat.le_refl _) _
      exact ⟨_, _, _, _, _, _, _, _, _, _, _, c2, c4, c6, c8, by rw [Array.size_setIfInBounds]; exact hsz, rfl, fun h => absurd (up_old h (by decide)) n10, fun _ => ⟨hB.trans (b.mono hB.size), Nat.le_trans hZ b.size, hX.below b hX.lt, fun _ => ⟨_, rfl⟩, fun h => f1 (up_old h (by decide)), fun h => by have h := f2 (up_old h (by decide)); exact ⟨h.1.below b, ⟨h.2.1.1, h.2.1.2.1, Nat.le_trans h.2.1.2.2 b.size⟩, h.2.2⟩, fun h => f3 (up_old h (by decide)), fun h => by have h := f4 (up_old h (by decide)); exact ⟨h.1.below b, ⟨h.2.1.1, h.2.1.2.1, Nat.le_trans h.2.1.2.2 b.size⟩, h.2.2⟩, fun h => f5 (up_old h (by decide)), fun h => by have h := f6 (up_old h (by decide)); exact ⟨h.1.below b, ⟨h.2.1.1, h.2.1.2.1, Nat.le_trans h.2.1.2.2 b.size⟩, h.2.2⟩, fun h => f7 (up_old h (by decide)), fun h => by have h := f8 (up_old h (by decide)); exact ⟨h.1.below b, ⟨h.2.1.1, h.2.1.2.1, Nat.le_trans h.2.1.2.2 b.size⟩, h.2.2⟩, fun h => by have h := f9 (up_old h (by decide)); exact ⟨h.1, getD_set_true h.2.1, getD_set_true h.2.2.1, getD_set_true h.2.2.2.1, getD_set_true h.2.2.2.2⟩, fun h1 h2 => d2_4 (up_old h1 (by decide)) (up_old h2 (by decide)), fun h1 h2 => d2_6 (up_old h1 (by decide)) (up_old h2 (by decide)), fun h1 h2 => d2_8 (up_old h1 (by decide)) (up_old h2 (by decide)), fun h1 h2 => d4_6 (up_old h1 (by decide)) (up_old h2 (by decide)), fun h1 h2 => d4_8 (up_old h1 (by decide)) (up_old h2 (by decide)), fun h1 h2 => d6_8 (up_old h1 (by decide)) (up_old h2 (by decide))⟩, fun h => absurd (up_old h (by decide)) n10, fun h => absurd (h11 (up_old h (by decide))).1 n10⟩
    · have ho' : some _ = some o := ho
      injection ho' with ho'
      subst ho'
      clear hall ho hlt
      have n10 : ¬ up l 10 := fun h => hno (h10 h 1 (by decide))
      obtain ⟨hB, hZ, hX, f0, f1, f2, f3, f4, f5, f6, f7, f8, f9, d2_4, d2_6, d2_8, d4_6, d4_8, d6_8⟩ := hpre n10
      clear hpre hpost h10
      refine wpOp_step rfl (fun K hK => ?_)
      go_simp
      refine hK _ _ ?_
      exact ⟨_, _, _, _, _, _, _, _, _, _, _, c2, c4, c6, c8, by rw [Array.size_setIfInBounds]; exact hsz, rfl, fun h => absurd (up_old h (by decide)) n10, fun _ => ⟨hB, hZ, hX, fun h => f0 (up_old h (by decide)), fun _ => rfl, fun h => f2 (up_old h (by decide)), fun h => f3 (up_old h (by decide)), fun h => f4 (up_old h (by decide)), fun h => f5 (up_old h (by decide)), fun h => f6 (up_old h (by decide)), fun h => f7 (up_old h (by decide)), fun h => f8 (up_old h (by decide)), fun h => by have h := f9 (up_old h (by decide)); exact ⟨h.1, getD_set_true h.2.1, getD_set_true h.2.2.1, getD_set_true h.2.2.2.1, getD_set_true h.2.2.2.2⟩, fun h1 h2 => d2_4 (up_old h1 (by decide)) (up_old h2 (by decide)), fun h1 h2 => d2_6 (up_old h1 (by decide)) (up_old h2 (by decide)), fun h1 h2 => d2_8 (up_old h1 (by decide)) (up_old h2 (by decide)), fun h1 h2 => d4_6 (up_old h1 (by decide)) (up_old h2 (by decide)), fun h1 h2 => d4_8 (up_old h1 (by decide)) (up_old h2 (by decide)), fun h1 h2 => d6_8 (up_old h1 (by decide)) (up_old h2 (by decide))⟩, fun h => absurd (up_old h (by decide)) n10, fun h => absurd (h11 (up_old h (by decide))).1 n10⟩
    · have ho' : some _ = some o := ho
      injection ho' with ho'
      subst ho'
      have u0 : up l 0 := hall ⟨0, .data⟩ (by simp) rfl
      have u1 : up l 1 := hall ⟨1, .data⟩ (by simp) rfl
      clear hall ho hlt
      have n10 : ¬ up l 10 := fun h => hno (h10 h 2 (by decide))
      obtain ⟨hB, hZ, hX, f0, f1, f2, f3, f4, f5, f6, f7, f8, f9, d2_4, d2_6, d2_8, d4_6, d4_8, d6_8⟩ := hpre n10
      clear hpre hpost h10
      obtain ⟨b16, rfl⟩ := f0 u0
      obtain rfl := f1 u1
      refine wpOp_step rfl (fun K hK => ?_)
      refine step_append_grows (by rfl) _ _ _ (by rfl) 3 i0 (.int .i64 0) 1 8 Try.underlying23 hi hz0 hz1 hz2 (by rfl) (by decide) (some ⟨b16, 0, none⟩) 0 0 [] (by rfl) (by intro h; cases h) (by rfl) (by intro b0 _ j u h; simp at h) ⟨g, off, none⟩ xs.length cap (kflat xs) (by rfl) (by rw [length_kflat, Nat.mul_one]) (kflat_cells (fun i hi => (HC.out i hi).below hB (HC.out i hi).lt)) (kflat_one _) (by omega) (by unfold maxLen; omega) (by omega) ?_
      intro u2 w2 hown hgrow
      have b : Below wr.heap.size wr w2 := (Below.refl _ _).grown hgrow (Nat.le_refl _) (by intro k h; cases h)
      rw [Nat.zero_add, List.nil_append] at hown
      have k2 := KOwn.of_owns hown (by omega)
      refine hK _ _ ?_
      exact ⟨_, _, _, _, _, _, _, _, _, _, _, (wr.heap.size, w2.heap.size), c4, c6, c8, by rw [Array.size_setIfInBounds]; exact hsz, rfl, fun h => absurd (up_old h (by decide)) n10, fun _ => ⟨hB.trans (b.mono hB.size), Nat.le_trans hZ b.size, hX.below b hX.lt, fun h => f0 (up_old h (by decide)), fun h => f1 (up_old h (by decide)), fun _ => ⟨k2, ⟨by simp only; omega, b.size, Nat.le_refl _⟩, k2.sform⟩, fun h => f3 (up_old h (by decide)), fun h => by have h := f4 (up_old h (by decide)); exact ⟨h.1.below b, ⟨h.2.1.1, h.2.1.2.1, Nat.le_trans h.2.1.2.2 b.size⟩, h.2.2⟩, fun h => f5 (up_old h (by decide)), fun h => by have h := f6 (up_old h (by decide)); exact ⟨h.1.below b, ⟨h.2.1.1, h.2.1.2.1, Nat.le_trans h.2.1.2.2 b.size⟩, h.2.2⟩, fun h => f7 (up_old h (by decide)), fun h => by have h := f8 (up_old h (by decide)); exact ⟨h.1.below b, ⟨h.2.1.1, h.2.1.2.1, Nat.le_trans h.2.1.2.2 b.size⟩, h.2.2⟩, fun h => absurd (f9 (up_old h (by decide))).2.1 hno, fun _ h2 => by have h := (f4 (up_old h2 (by decide))).2.1; show _ ≤ _ ∨ _ ≤ _; have hz := b.size; simp only; omega, fun _ h2 => by have h := (f6 (up_old h2 (by decide))).2.1; show _ ≤ _ ∨ _ ≤ _; have hz := b.size; simp only; omega, fun _ h2 => by have h := (f8 (up_old h2 (by decide))).2.1; show _ ≤ _ ∨ _ ≤ _; have hz := b.size; simp only; omega, fun h1 h2 => d4_6 (up_old h1 (by decide)) (up_old h2 (by decide)), fun h1 h2 => d4_8 (up_old h1 (by decide)) (up_old h2 (by decide)), fun h1 h2 => d6_8 (up_old h1 (by decide)) (up_old h2 (by decide))⟩, fun h => absurd (up_old h (by decide)) n10, fun h => absurd (h11 (up_old h (by decide))).1 n10⟩
    · have ho' : some _ = some o := ho
      injection ho' with ho'
      subst ho'
      clear hall ho hlt
      have n10 : ¬ up l 10 := fun h => hno (h10 h 3 (by decide))
      obtain ⟨hB, hZ, hX, f0, f1, f2, f3, f4, f5, f6, f7, f8, f9, d2_4, d2_6, d2_8, d4_6, d4_8, d6_8⟩ := hpre n10
      clear hpre hpost h10
      refine wpOp_step rfl (fun K hK => ?_)
      go_simp
      refine hK _ _ ?_
      exact ⟨_, _, _, _, _, _, _, _, _, _, _, c2, c4, c6, c8, by rw [Array.size_setIfInBounds]; exact hsz, rfl, fun h => absurd (up_old h (by decide)) n10, fun _ => ⟨hB, hZ, hX, fun h => f0 (up_old h (by decide)), fun h => f1 (up_old h (by decide)), fun h => f2 (up_old h (by decide)), fun _ => rfl, fun h => f4 (up_old h (by decide)), fun h => f5 (up_old h (by decide)), fun h => f6 (up_old h (by decide)), fun h => f7 (up_old h (by decide)), fun h => f8 (up_old h (by decide)), fun h => by have h := f9 (up_old h (by decide)); exact ⟨h.1, getD_set_true h.2.1, getD_set_true h.2.2.1, getD_set_true h.2.2.2.1, getD_set_true h.2.2.2.2⟩, fun h1 h2 => d2_4 (up_old h1 (by decide)) (up_old h2 (by decide)), fun h1 h2 => d2_6 (up_old h1 (by decide)) (up_old h2 (by decide)), fun h1 h2 => d2_8 (up_old h1 (by decide)) (up_old h2 (by decide)), fun h1 h2 => d4_6 (up_old h1 (by decide)) (up_old h2 (by decide)), fun h1 h2 => d4_8 (up_old h1 (by decide)) (up_old h2 (by decide)), fun h1 h2 => d6_8 (up_old h1 (by decide)) (up_old h2 (by decide))⟩, fun h => absurd (up_old h (by decide)) n10, fun h => absurd (h11 (up_old h (by decide))).1 n10⟩
    · have ho' : some _ = some o := ho
      injection ho' with ho'
      subst ho'
      have u3 : up l 3 := hall ⟨3, .data⟩ (by simp) rfl
      clear hall ho hlt
      have n10 : ¬ up l 10 := fun h => hno (h10 h 4 (by decide))
      obtain ⟨hB, hZ, hX, f0, f1, f2, f3, f4, f5, f6, f7, f8, f9, d2_4, d2_6, d2_8, d4_6, d4_8, d6_8⟩ := hpre n10
      clear hpre hpost h10
      obtain rfl := f3 u3
      refine wpOp_step rfl (fun K hK => ?_)
      go_simp
      refine hK _ _ ?_
      have b : Below wr.heap.size wr (wr.alloc (.cells (madeCells #[.slice none 0 0] xs.length) 23)) := (Below.refl _ _).alloc (Nat.le_refl _) _
      have k4 := qmade wr xs.length (List.replicate xs.length []) (by simp) (by omega)
      rw [qpart_nil, List.length_replicate] at k4
      exact ⟨_, _, _, _, _, _, _, _, _, _, _, c2, (wr.heap.size, wr.heap.size + 1), c6, c8, by rw [Array.size_setIfInBounds]; exact hsz, rfl, fun h => absurd (up_old h (by decide)) n10, fun _ => ⟨hB.trans (b.mono hB.size), Nat.le_trans hZ b.size, hX.below b hX.lt, fun h => f0 (up_old h (by decide)), fun h => f1 (up_old h (by decide)), fun h => by have h := f2 (up_old h (by decide)); exact ⟨h.1.below b, ⟨h.2.1.1, h.2.1.2.1, Nat.le_trans h.2.1.2.2 b.size⟩, h.2.2⟩, fun h => f3 (up_old h (by decide)), fun _ => ⟨k4, ⟨by simp only; omega, by simp, by simp⟩, ⟨_, _, _, rfl⟩⟩, fun h => f5 (up_old h (by decide)), fun h => by have h := f6 (up_old h (by decide)); exact ⟨h.1.below b, ⟨h.2.1.1, h.2.1.2.1, Nat.le_trans h.2.1.2.2 b.size⟩, h.2.2⟩, fun h => f7 (up_old h (by decide)), fun h => by have h := f8 (up_old h (by decide)); exact ⟨h.1.below b, ⟨h.2.1.1, h.2.1.2.1, Nat.le_trans h.2.1.2.2 b.size⟩, h.2.2⟩, fun h => absurd (f9 (up_old h (by decide))).2.2.1 hno, fun h1 _ => by have h := (f2 (up_old h1 (by decide))).2.1; show _ ≤ _ ∨ _ ≤ _; have hz := b.size; simp only; omega, fun h1 h2 => d2_6 (up_old h1 (by decide)) (up_old h2 (by decide)), fun h1 h2 => d2_8 (up_old h1 (by decide)) (up_old h2 (by decide)), fun _ h2 => by have h := (f6 (up_old h2 (by decide))).2.1; show _ ≤ _ ∨ _ ≤ _; have hz := b.size; simp only; omega, fun _ h2 => by have h := (f8 (up_old h2 (by decide))).2.1; show _ ≤ _ ∨ _ ≤ _; have hz := b.size; simp only; omega, fun h1 h2 => d6_8 (up_old h1 (by decide)) (up_old h2 (by decide))⟩, fun h => absurd (up_old h (by decide)) n10, fun h => absurd (h11 (up_old h (by decide))).1 n10⟩
    · have ho' : some _ = some o := ho
      injection ho' with ho'
      subst ho'
      clear hall ho hlt
      have n10 : ¬ up l 10 := fun h => hno (h10 h 5 (by decide))
      obtain ⟨hB, hZ, hX, f0, f1, f2, f3, f4, f5, f6, f7, f8, f9, d2_4, d2_6, d2_8, d4_6, d4_8, d6_8⟩ := hpre n10
      clear hpre hpost h10
      refine wpOp_step rfl (fun K hK => ?_)
      go_simp
      refine hK _ _ ?_
      exact ⟨_, _, _, _, _, _, _, _, _, _, _, c2, c4, c6, c8, by rw [Array.size_setIfInBounds]; exact hsz, rfl, fun h => absurd (up_old h (by decide)) n10, fun _ => ⟨hB, hZ, hX, fun h => f0 (up_old h (by decide)), fun h => f1 (up_old h (by decide)), fun h => f2 (up_old h (by decide)), fun h => f3 (up_old h (by decide)), fun h => f4 (up_old h (by decide)), fun _ => rfl, fun h => f6 (up_old h (by decide)), fun h => f7 (up_old h (by decide)), fun h => f8 (up_old h (by decide)), fun h => by have h := f9 (up_old h (by decide)); exact ⟨h.1, getD_set_true h.2.1, getD_set_true h.2.2.1, getD_set_true h.2.2.2.1, getD_set_true h.2.2.2.2⟩, fun h1 h2 => d2_4 (up_old h1 (by decide)) (up_old h2 (by decide)), fun h1 h2 => d2_6 (up_old h1 (by decide)) (up_old h2 (by decide)), fun h1 h2 => d2_8 (up_old h1 (by decide)) (up_old h2 (by decide)), fun h1 h2 => d4_6 (up_old h1 (by decide)) (up_old h2 (by decide)), fun h1 h2 => d4_8 (up_old h1 (by decide)) (up_old h2 (by decide)), fun h1 h2 => d6_8 (up_old h1 (by decide)) (up_old h2 (by decide))⟩, fun h => absurd (up_old h (by decide)) n10, fun h => absurd (h11 (up_old h (by decide))).1 n10⟩
    · have ho' : some _ = some o := ho
      injection ho' with ho'
      subst ho'
      have u5 : up l 5 := hall ⟨5, .data⟩ (by simp) rfl
      clear hall ho hlt
      have n10 : ¬ up l 10 := fun h => hno (h10 h 6 (by decide))
      obtain ⟨hB, hZ, hX, f0, f1, f2, f3, f4, f5, f6, f7, f8, f9, d2_4, d2_6, d2_8, d4_6, d4_8, d6_8⟩ := hpre n10
      clear hpre hpost h10
      obtain rfl := f5 u5
      refine wpOp_step rfl (fun K hK => ?_)
      go_simp
      refine hK _ _ ?_
      have b : Below wr.heap.size wr (wr.alloc (.cells (madeCells #[.int .i64 0] xs.length) 3)) := (Below.refl _ _).alloc (Nat.le_refl _) _
      have k6 := (IRow.made wr xs.length (by omega)).own (by omega) (Nat.le_refl _) (Nat.lt_succ_self _)
      exact ⟨_, _, _, _, _, _, _, _, _, _, _, c2, c4, (wr.heap.size, wr.heap.size + 1), c8, by rw [Array.size_setIfInBounds]; exact hsz, rfl, fun h => absurd (up_old h (by decide)) n10, fun _ => ⟨hB.trans (b.mono hB.size), Nat.le_trans hZ b.size, hX.below b hX.lt, fun h => f0 (up_old h (by decide)), fun h => f1 (up_old h (by decide)), fun h => by have h := f2 (up_old h (by decide)); exact ⟨h.1.below b, ⟨h.2.1.1, h.2.1.2.1, Nat.le_trans h.2.1.2.2 b.size⟩, h.2.2⟩, fun h => f3 (up_old h (by decide)), fun h => by have h := f4 (up_old h (by decide)); exact ⟨h.1.below b, ⟨h.2.1.1, h.2.1.2.1, Nat.le_trans h.2.1.2.2 b.size⟩, h.2.2⟩, fun h => f5 (up_old h (by decide)), fun _ => ⟨k6, ⟨by simp only; omega, by simp, by simp⟩, ⟨_, _, _, rfl⟩⟩, fun h => f7 (up_old h (by decide)), fun h => by have h := f8 (up_old h (by decide)); exact ⟨h.1.below b, ⟨h.2.1.1, h.2.1.2.1, Nat.le_trans h.2.1.2.2 b.size⟩, h.2.2⟩, fun h => absurd (f9 (up_old h (by decide))).2.2.2.1 hno, fun h1 h2 => d2_4 (up_old h1 (by decide)) (up_old h2 (by decide)), fun h1 _ => by have h := (f2 (up_old h1 (by decide))).2.1; show _ ≤ _ ∨ _ ≤ _; have hz := b.size; simp only; omega, fun h1 h2 => d2_8 (up_old h1 (by decide)) (up_old h2 (by decide)), fun h1 _ => by have h := (f4 (up_old h1 (by decide))).2.1; show _ ≤ _ ∨ _ ≤ _; have hz := b.size; simp only; omega, fun h1 h2 => d4_8 (up_old h1 (by decide)) (up_old h2 (by decide)), fun _ h2 => by have h := (f8 (up_old h2 (by decide))).2.1; show _ ≤ _ ∨ _ ≤ _; have hz := b.size; simp only; omega⟩, fun h => absurd (up_old h (by decide)) n10, fun h => absurd (h11 (up_old h (by decide))).1 n10⟩
    · have ho' : some _ = some o := ho
      injection ho' with ho'
      subst ho'
      clear hall ho hlt
      have n10 : ¬ up l 10 := fun h => hno (h10 h 7 (by decide))
      obtain ⟨hB, hZ, hX, f0, f1, f2, f3, f4, f5, f6, f7, f8, f9, d2_4, d2_6, d2_8, d4_6, d4_8, d6_8⟩ := hpre n10
      clear hpre hpost h10
      refine wpOp_step rfl (fun K hK => ?_)
      go_simp
      refine hK _ _ ?_
      exact ⟨_, _, _, _, _, _, _, _, _, _, _, c2, c4, c6, c8, by rw [Array.size_setIfInBounds]; exact hsz, rfl, fun h => absurd (up_old h (by decide)) n10, fun _ => ⟨hB, hZ, hX, fun h => f0 (up_old h (by decide)), fun h => f1 (up_old h (by decide)), fun h => f2 (up_old h (by decide)), fun h => f3 (up_old h (by decide)), fun h => f4 (up_old h (by decide)), fun h => f5 (up_old h (by decide)), fun h => f6 (up_old h (by decide)), fun _ => rfl, fun h => f8 (up_old h (by decide)), fun h => by have h := f9 (up_old h (by decide)); exact ⟨h.1, getD_set_true h.2.1, getD_set_true h.2.2.1, getD_set_true h.2.2.2.1, getD_set_true h.2.2.2.2⟩, fun h1 h2 => d2_4 (up_old h1 (by decide)) (up_old h2 (by decide)), fun h1 h2 => d2_6 (up_old h1 (by decide)) (up_old h2 (by decide)), fun h1 h2 => d2_8 (up_old h1 (by decide)) (up_old h2 (by decide)), fun h1 h2 => d4_6 (up_old h1 (by decide)) (up_old h2 (by decide)), fun h1 h2 => d4_8 (up_old h1 (by decide)) (up_old h2 (by decide)), fun h1 h2 => d6_8 (up_old h1 (by decide)) (up_old h2 (by decide))⟩, fun h => absurd (up_old h (by decide)) n10, fun h => absurd (h11 (up_old h (by decide))).1 n10⟩
    · have ho' : some _ = some o := ho
      injection ho' with ho'
      subst ho'
      have u7 : up l 7 := hall ⟨7, .data⟩ (by simp) rfl
      clear hall ho hlt
      have n10 : ¬ up l 10 := fun h => hno (h10 h 8 (by decide))
      obtain ⟨hB, hZ, hX, f0, f1, f2, f3, f4, f5, f6, f7, f8, f9, d2_4, d2_6, d2_8, d4_6, d4_8, d6_8⟩ := hpre n10
      clear hpre hpost h10
      obtain rfl := f7 u7
      refine wpOp_step rfl (fun K hK => ?_)
      go_simp
      refine hK _ _ ?_
      have b : Below wr.heap.size wr (wr.alloc (.cells (madeCells #[.int .i64 0] xs.length) 3)) := (Below.refl _ _).alloc (Nat.le_refl _) _
      have k8 := (IRow.made wr xs.length (by omega)).own (by omega) (Nat.le_refl _) (Nat.lt_succ_self _)
      exact ⟨_, _, _, _, _, _, _, _, _, _, _, c2, c4, c6, (wr.heap.size, wr.heap.size + 1), by rw [Array.size_setIfInBounds]; exact hsz, rfl, fun h => absurd (up_old h (by decide)) n10, fun _ => ⟨hB.trans (b.mono hB.size), Nat.le_trans hZ b.size, hX.below b hX.lt, fun h => f0 (up_old h (by decide)), fun h => f1 (up_old h (by decide)), fun h => by have h := f2 (up_old h (by decide)); exact ⟨h.1.below b, ⟨h.2.1.1, h.2.1.2.1, Nat.le_trans h.2.1.2.2 b.size⟩, h.2.2⟩, fun h => f3 (up_old h (by decide)), fun h => by have h := f4 (up_old h (by decide)); exact ⟨h.1.below b, ⟨h.2.1.1, h.2.1.2.1, Nat.le_trans h.2.1.2.2 b.size⟩, h.2.2⟩, fun h => f5 (up_old h (by decide)), fun h => by have h := f6 (up_old h (by decide)); exact ⟨h.1.below b, ⟨h.2.1.1, h.2.1.2.1, Nat.le_trans h.2.1.2.2 b.size⟩, h.2.2⟩, fun h => f7 (up_old h (by decide)), fun _ => ⟨k8, ⟨by simp only; omega, by simp, by simp⟩, ⟨_, _, _, rfl⟩⟩, fun h => absurd (f9 (up_old h (by decide))).2.2.2.2 hno, fun h1 h2 => d2_4 (up_old h1 (by decide)) (up_old h2 (by decide)), fun h1 h2 => d2_6 (up_old h1 (by decide)) (up_old h2 (by decide)), fun h1 _ => by have h := (f2 (up_old h1 (by decide))).2.1; show _ ≤ _ ∨ _ ≤ _; have hz := b.size; simp only; omega, fun h1 h2 => d4_6 (up_old h1 (by decide)) (up_old h2 (by decide)), fun h1 _ => by have h := (f4 (up_old h1 (by decide))).2.1; show _ ≤ _ ∨ _ ≤ _; have hz := b.size; simp only; omega, fun h1 _ => by have h := (f6 (up_old h1 (by decide))).2.1; show _ ≤ _ ∨ _ ≤ _; have hz := b.size; simp only; omega⟩, fun h => absurd (up_old h (by decide)) n10, fun h => absurd (h11 (up_old h (by decide))).1 n10⟩
    · have ho' : some _ = some o := ho
      injection ho' with ho'
      subst ho'
      have u2 : up l 2 := hall ⟨2, .data⟩ (by simp) rfl
      have u4 : up l 4 := hall ⟨4, .data⟩ (by simp) rfl
      have u6 : up l 6 := hall ⟨6, .data⟩ (by simp) rfl
      have u8 : up l 8 := hall ⟨8, .data⟩ (by simp) rfl
      clear hall ho hlt
      have n10 : ¬ up l 10 := fun h => hno (h10 h 9 (by decide))
      obtain ⟨hB, hZ, hX, f0, f1, f2, f3, f4, f5, f6, f7, f8, f9, d2_4, d2_6, d2_8, d4_6, d4_8, d6_8⟩ := hpre n10
      clear hpre hpost h10
      obtain ⟨a2, m2, p2, e2⟩ := (f2 u2).2.2
      subst e2
      obtain ⟨a4, m4, p4, e4⟩ := (f4 u4).2.2
      subst e4
      obtain ⟨a6, m6, p6, e6⟩ := (f6 u6).2.2
      subst e6
      obtain ⟨a8, m8, p8, e8⟩ := (f8 u8).2.2
      subst e8
      refine wpOp_step rfl (fun K hK => ?_)
      go_simp
      refine hK _ _ ?_
      exact ⟨_, _, _, _, _, _, _, _, _, _, _, c2, c4, c6, c8, by rw [Array.size_setIfInBounds]; exact hsz, rfl, fun h => absurd (up_old h (by decide)) n10, fun _ => ⟨hB, hZ, hX, fun h => f0 (up_old h (by decide)), fun h => f1 (up_old h (by decide)), fun h => f2 (up_old h (by decide)), fun h => f3 (up_old h (by decide)), fun h => f4 (up_old h (by decide)), fun h => f5 (up_old h (by decide)), fun h => f6 (up_old h (by decide)), fun h => f7 (up_old h (by decide)), fun h => f8 (up_old h (by decide)), fun _ => ⟨rfl, getD_set_true u2, getD_set_true u4, getD_set_true u6, getD_set_true u8⟩, fun h1 h2 => d2_4 (up_old h1 (by decide)) (up_old h2 (by decide)), fun h1 h2 => d2_6 (up_old h1 (by decide)) (up_old h2 (by decide)), fun h1 h2 => d2_8 (up_old h1 (by decide)) (up_old h2 (by decide)), fun h1 h2 => d4_6 (up_old h1 (by decide)) (up_old h2 (by decide)), fun h1 h2 => d4_8 (up_old h1 (by decide)) (up_old h2 (by decide)), fun h1 h2 => d6_8 (up_old h1 (by decide)) (up_old h2 (by decide))⟩, fun h => absurd (up_old h (by decide)) n10, fun h => absurd (h11 (up_old h (by decide))).1 n10⟩
    · have ho' : some _ = some o := ho
      injection ho' with ho'
      subst ho'
      have u0 : up l 0 := hall ⟨0, .phase⟩ (by simp) rfl
      have u1 : up l 1 := hall ⟨1, .phase⟩ (by simp) rfl
      have u2 : up l 2 := hall ⟨2, .phase⟩ (by simp) rfl
      have u3 : up l 3 := hall ⟨3, .phase⟩ (by simp) rfl
      have u4 : up l 4 := hall ⟨4, .phase⟩ (by simp) rfl
      have u5 : up l 5 := hall ⟨5, .phase⟩ (by simp) rfl
      have u6 : up l 6 := hall ⟨6, .phase⟩ (by simp) rfl
      have u7 : up l 7 := hall ⟨7, .phase⟩ (by simp) rfl
      have u8 : up l 8 := hall ⟨8, .phase⟩ (by simp) rfl
      have u9 : up l 9 := hall ⟨9, .phase⟩ (by simp) rfl
      clear hall ho hlt
      obtain ⟨hB, hZ, hX, f0, f1, f2, f3, f4, f5, f6, f7, f8, f9, d2_4, d2_6, d2_8, d4_6, d4_8, d6_8⟩ := hpre hno
      obtain ⟨rfl, _⟩ := f9 u9
      obtain ⟨k2, r2, a2, m2, p2, rfl⟩ := f2 u2
      obtain ⟨k4, r4, a4, m4, p4, rfl⟩ := f4 u4
      obtain ⟨k6, r6, a6, m6, p6, rfl⟩ := f6 u6
      obtain ⟨k8, r8, a8, m8, p8, rfl⟩ := f8 u8
      have LF := snew_leaf (c0 := c2) (c1 := c4) (c2 := c6) (c3 := c8) hX hB k2 k4 k6 k8 ⟨r2, r4, r6, r8⟩ ⟨d2_4 u2 u4, d2_6 u2 u6, d2_8 u2 u8, d4_6 u4 u6, d4_8 u4 u8, d6_8 u6 u8⟩
      obtain ⟨q0, q1, q2, q3, q4⟩ := hX.five
      have x0 := (hX.cell 0 (by simp)).2
      have x1 := (hX.cell 1 (by simp)).2
      have x2 := (hX.cell 2 (by simp)).2
      have x3 := (hX.cell 3 (by simp)).2
      have x4 := (hX.cell 4 (by simp)).2
      refine wpOp_step rfl (fun K hK => ?_)
      go_simp
      refine hK _ _ ?_
      refine ⟨_, _, _, _, _, _, _, _, _, _, _, c2, c4, c6, c8, by rw [Array.size_setIfInBounds]; exact hsz, rfl, fun _ j hj => ?_, fun h => absurd ?_ h, fun _ => ⟨_, _, _, _, LF.1, LF.2.1, LF.2.2⟩, fun h => absurd (h11 (up_old h (by decide))).1 hno⟩
      · have hj' : j = 0 ∨ j = 1 ∨ j = 2 ∨ j = 3 ∨ j = 4 ∨ j = 5 ∨ j = 6 ∨ j = 7 ∨ j = 8 ∨ j = 9 := by omega
        rcases hj' with rfl | rfl | rfl | rfl | rfl | rfl | rfl | rfl | rfl | rfl
        · exact getD_set_true u0
        · exact getD_set_true u1
        · exact getD_set_true u2
        · exact getD_set_true u3
        · exact getD_set_true u4
        · exact getD_set_true u5
        · exact getD_set_true u6
        · exact getD_set_true u7
        · exact getD_set_true u8
        · exact getD_set_true u9
      · exact up_set (by rw [hsz]; decide)
    · have ho' : some _ = some o := ho
      injection ho' with ho'
      subst ho'
      have u10 : up l 10 := hall ⟨10, .chain⟩ (by simp) rfl
      clear hall ho hlt
      refine wpOp_step rfl (fun K hK => ?_)
      go_simp
      refine hK _ _ ?_
      exact ⟨_, _, _, _, _, _, _, _, _, _, _, c2, c4, c6, c8, by rw [Array.size_setIfInBounds]; exact hsz, rfl, fun _ j hj => getD_set_true (h10 u10 j hj), fun h => absurd (getD_set_true u10) h, fun _ => hpost u10, fun _ => ⟨getD_set_true u10, rfl⟩⟩
end Go.Proofs.Ytepnhbicmlfnhac

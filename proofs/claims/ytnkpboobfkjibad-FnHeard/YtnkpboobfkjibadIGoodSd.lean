/-
  impl.GoodSender: whether a sender is as said. Nothing old is written.
  impl.NewSender: a sender of so many letters. Nothing old is written.
-/
import Derived.Test.YtnkpboobfkjibadKSpanConv
import Derived.Test.YtnkpboobfkjibadFlowFns
import Derived.Test.YtnkpboobfkjibadISet
import Derived.Test.YtnkpboobfkjibadIPutS
import Derived.Test.YtnkpboobfkjibadLenFacts
import Derived.Deep.RegionWith
import Derived.Test.YtnkpboobfkjibadSdBox
namespace Go.Proofs.Ytnkpboobfkjibad
open Go.RowKit

theorem noneU_any (h : List Sp) (l : List Int) : ∀ k, k ≤ l.length → noneU h l k = !((l.take k).any (fun x => hasL h x))
  | 0, _ => by simp [noneU]
  | k + 1, hk => by
    rw [any_take _ _ _ (by omega)]
    show (noneU h l k && !hasL h (fl l k)) = _
    rw [noneU_any h l k (by omega), Bool.not_or]
    rfl
theorem noneU_all (h : List Sp) (l : List Int) : noneU h l l.length = !(l.any (fun x => hasL h x)) := by rw [noneU_any h l _ (Nat.le_refl _), List.take_length]
set_option maxRecDepth 100000 in
set_option maxHeartbeats 8000000 in
theorem igoodSd_eq (v : Value) (D : SdD) (t : Bool) (h : goodSd D = t) (w : World) (hr : SdReads w v D) :
    Calls Try.prog 37 #[v] w fun e w' => e = .returned (.bool t) ∧ Below w.heap.size w w' := by
  obtain ⟨v1, v2, rfl, r1, r2⟩ := hr
  have R1 := hid r1
  have R2 := hid r2
  obtain ⟨a1, p1, rfl, l1, _⟩ := r1
  obtain ⟨a2, p2, rfl, l2, _⟩ := r2
  unfold goodSd at h
  obtain ⟨z, hz⟩ : ∃ z, z = D.f0 := ⟨_, rfl⟩
  rw [← hz] at h ⊢
  have PB := hid (boxL_new w [.int .i64 z, .slice a1 D.f1.length p1, .slice a2 D.f2.length p2] 49)
  have BW : Hid (Below w.heap.size w (w.alloc (.cells #[.int .i64 z, .slice a1 D.f1.length p1, .slice a2 D.f2.length p2] 49))) := (Below.refl _ _).alloc (Nat.le_refl _) _
  obtain ⟨b1, e1⟩ : ∃ b, decide (0 ≤ z ∧ z ≤ 60) = b := ⟨_, rfl⟩
  obtain ⟨b2, e2⟩ : ∃ b, belB D.f1 z = b := ⟨_, rfl⟩
  obtain ⟨b3, e3⟩ : ∃ b, risB D.f2 z = b := ⟨_, rfl⟩
  rw [e1, e2, e3] at h
  have HT := hid h
  have E1 := hid e1
  have E2 := hid e2
  have E3 := hid e3
  clear h e1 e2 e3 hz
  obtain ⟨q0, q1, q2⟩ := PB.out.three
  by_cases hz0 : z < 0
  · have d0 : decide (z < 0) = true := by rw [decide_eq_true_eq]; exact hz0
    have HV : Hid (t = false) := by show _ = _; rw [← HT.out, ← E1.out, decide_eq_false (by omega)]; rfl
    clear hz0
    go_enter Try.func37, Try.ntmps37
    go_wp2
    go_ret
    exact ⟨by rw [HV.out]; rfl, BW.out⟩
  have d0 : decide (z < 0) = false := by rw [decide_eq_false_iff_not]; exact hz0
  by_cases hz1 : 60 < z
  · have d1 : decide (60 < z) = true := by rw [decide_eq_true_eq]; exact hz1
    have HV : Hid (t = false) := by show _ = _; rw [← HT.out, ← E1.out, decide_eq_false (by omega)]; rfl
    clear hz0 hz1
    go_enter Try.func37, Try.ntmps37
    go_wp2
    go_ret
    exact ⟨by rw [HV.out]; rfl, BW.out⟩
  have d1 : decide (60 < z) = false := by rw [decide_eq_false_iff_not]; exact hz1
  have hz60 : 0 ≤ z ∧ z ≤ 60 := by omega
  obtain rfl : true = b1 := by rw [← E1.out, decide_eq_true hz60]
  have HZ := hid hz60
  clear hz0 hz1 hz60
  go_enter Try.func37, Try.ntmps37
  go_wp2_with fail
  refine (ibel_eq _ D.f1 z b2 E2.out HZ.out.1 _ (R1.out.below BW.out)).mono ?_
  rintro e w1 ⟨rfl, bb⟩
  replace BW := hid (BW.out.trans (bb.mono BW.out.size))
  replace PB := hid (PB.out.below bb PB.out.lt)
  clear q0 q1 q2 bb
  obtain ⟨q0, q1, q2⟩ := PB.out.three
  cases b2
  · have HV : Hid (t = false) := HT.out.symm
    go_wp2
    go_ret
    exact ⟨by rw [HV.out]; rfl, BW.out⟩
  go_wp2_with fail
  refine (iris_eq _ D.f2 z b3 E3.out _ (R2.out.below BW.out)).mono ?_
  rintro e w' ⟨rfl, hw⟩; obtain rfl := hw.symm
  cases b3
  · have HV : Hid (t = false) := HT.out.symm
    go_wp2
    go_ret
    exact ⟨by rw [HV.out]; rfl, BW.out⟩
  obtain ⟨t1, ht1⟩ : ∃ t1, D.f2.any (fun x => hasL D.f1 x) = t1 := ⟨_, rfl⟩
  have HT1 := hid ht1
  have HT2 : Hid (t = !t1) := by show _ = _; rw [← HT.out, ← ht1, ← noneU_all]; rfl
  clear HT ht1
  have HG : Hid (goodL D.f1 = true) := by have h := E2.out; unfold belB at h; rw [Bool.and_eq_true] at h; exact h.1
  have HI := hid (bel_in E2.out HZ.out)
  have HN := hid (good_len HG.out)
  have HW : Hid (∀ x ∈ D.f2, inW x) := fun x hx => by
    have := risB_mem E3.out x hx
    have := HZ.out
    exact inW_small (by omega) (by omega)
  go_wp2_with fail
  go_region_with (first
    | (go_at_call 117; refine (iletters_any _ D.f1 _ ((R1.out.below BW.out).below ((Below.refl _ _).drew)).s (by have := HN.out; omega) HI.out).mono ?_; rintro e w2 ⟨rfl, ⟨m, hm, hs⟩, b2⟩; have HS2 := hid hs; have BB2 : Hid (Below w1.heap.size w1 w2) := (Below.refl _ _).drew.trans b2; clear hm hs b2; obtain ⟨s0, s1, s2⟩ := (PB.out.below BB2.out PB.out.lt).three)
    | (go_at_call 101; refine (scontains_any _ m _ _ D.f2 t1 HT1.out _ ((R2.out.below BW.out).below BB2.out) HS2.out HW.out).mono ?_; rintro e w3 ⟨rfl, b3⟩; have BB3 : Hid (Below w1.heap.size w1 w3) := BB2.out.trans (b3.mono BB2.out.size); clear b3))
  all_goals
    go_wp2
    go_ret
    exact ⟨by rw [HT2.out]; rfl, BW.out.trans (BB3.out.mono BW.out.size)⟩
end Go.Proofs.Ytnkpboobfkjibad
namespace Go.Proofs.Ytnkpboobfkjibad
open Go.RowKit

theorem goodSd_new (n : Int) : goodSd ⟨n, [], []⟩ = newSdB n := by
  show (newSdB n && (belB [] n && (risB [] n && noneU [] [] 0))) = _
  rw [show belB [] n = true from rfl, show risB [] n = true from rfl, show noneU [] [] 0 = true from rfl]
  simp
set_option maxRecDepth 100000 in
set_option maxHeartbeats 4000000 in
theorem inewSd_any (n : Int) (w : World) (X : SdD) (t : Bool) (hX : newSd n = X) (ht : newSdB n = t) :
    Calls Try.prog 44 #[.int .i64 n] w fun e w' => ∃ u0, e = .returned (.tuple #[u0, .bool t]) ∧ SdOwn (Iv w.heap.size w'.heap.size) w' u0 X ∧ Below w.heap.size w w' := by
  have HX := hid hX
  have HT := hid ht
  obtain ⟨PR, BR, hsR⟩ := box_three (w := w) (.int .i64 0) (.slice none 0 0) (.slice none 0 0) 49
  obtain ⟨PS, BS, hsS⟩ := box_three (w := w.alloc (.cells #[.int .i64 0, .slice none 0 0, .slice none 0 0] 49)) (.int .i64 n) (.slice none 0 0) (.slice none 0 0) 49
  have PR2 := PR.below BS PR.lt
  rw [hsR] at PS hsS
  obtain ⟨q0, q1, q2⟩ := PS.three
  obtain ⟨W, hW⟩ : ∃ W, W = (w.alloc (.cells #[.int .i64 0, .slice none 0 0, .slice none 0 0] 49)).alloc (.cells #[.int .i64 n, .slice none 0 0, .slice none 0 0] 49) := ⟨_, rfl⟩
  have HB : Hid (Below w.heap.size w W) := by rw [hW]; exact BR.trans (BS.mono BR.size)
  rw [← hW] at PS PR2 hsS
  have HR := hid PR2
  have HP := hid PS
  have HW := hid hW
  have HS := hid hsS
  have HRD : Hid (SdReads W (.agg #[.int .i64 n, .slice none 0 0, .slice none 0 0]) ⟨n, [], []⟩) := (sdOwn_bare (Iv 0 0) W n).reads
  clear hX ht PR BR BS hW hsR hsS PS PR2
  go_enter Try.func44, Try.ntmps44
  go_wp2_with fail
  rw [← HW.out]
  clear HW q0 q1 q2
  refine (igoodSd_eq _ ⟨n, [], []⟩ t ((goodSd_new n).trans HT.out) _ HRD.out).mono ?_
  rintro e w1 ⟨rfl, b1⟩
  have hs0 := HS.out
  have hs1 := b1.size
  have HR1 := hid (HR.out.below b1 HR.out.lt)
  have HP1 := hid (HP.out.below b1 HP.out.lt)
  have HB1 := hid (HB.out.trans (b1.mono HB.out.size))
  clear b1 HR HP HB
  obtain ⟨⟨y0, f0⟩, ⟨y1, f1⟩, y2, f2⟩ := HR1.out.form3
  obtain ⟨q0, q1, q2⟩ := HP1.out.three
  cases t
  · have HV : Hid (X = ⟨0, [], []⟩) := by show _ = _; rw [← HX.out]; unfold newSd; rw [HT.out]; rfl
    have LF := sd_leaf HR1.out HB1.out (Nat.le_refl _) (sdOwn_bare (Iv (w.heap.size + 1) (w.heap.size + 1)) w1 0) (by omega) (by omega) (by omega)
    have HO := hid LF.1
    have HBB := hid LF.2.1
    obtain ⟨t0, t1, t2⟩ := LF.2.2
    clear LF
    go_wp2
    exact bodyPost_ret (v := .tuple #[.agg #[.int .i64 0, .slice none 0 0, .slice none 0 0], .bool false]) (by simp [results, Try.results44, go_sem, t0, t1, t2]) rfl ⟨_, rfl, by rw [HV.out]; exact HO.out, HBB.out⟩
  · have HV : Hid (X = ⟨n, [], []⟩) := by show _ = _; rw [← HX.out]; unfold newSd; rw [HT.out]; rfl
    have LF := sd_leaf HR1.out HB1.out (Nat.le_refl _) (sdOwn_bare (Iv (w.heap.size + 1) (w.heap.size + 1)) w1 n) (by omega) (by omega) (by omega)
    have HO := hid LF.1
    have HBB := hid LF.2.1
    obtain ⟨t0, t1, t2⟩ := LF.2.2
    clear LF
    go_wp2
    exact bodyPost_ret (v := .tuple #[.agg #[.int .i64 n, .slice none 0 0, .slice none 0 0], .bool true]) (by simp [results, Try.results44, go_sem, t0, t1, t2]) rfl ⟨_, rfl, by rw [HV.out]; exact HO.out, HBB.out⟩
end Go.Proofs.Ytnkpboobfkjibad

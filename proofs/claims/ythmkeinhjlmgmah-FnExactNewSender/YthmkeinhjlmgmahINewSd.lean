/-
  impl.NewSender: a sender of so many letters. Nothing old is written.
-/
import Derived.Test.YthmkeinhjlmgmahIGoodSd
import Derived.Test.YthmkeinhjlmgmahSdBox
namespace Go.Proofs.Ythmkeinhjlmgmah
open Go.RowKit

theorem goodSd_new (n : Int) : goodSd ⟨n, [], []⟩ = newSdB n := by
  show (newSdB n && (belB [] n && (risB [] n && noneU [] [] 0))) = _
  rw [show belB [] n = true from rfl, show risB [] n = true from rfl, show noneU [] [] 0 = true from rfl]
  simp
set_option maxRecDepth 100000 in
set_option maxHeartbeats 4000000 in
theorem inewSd_any (n : Int) (w : World) (X : SdD) (t : Bool) (hX : newSd n = X) (ht : newSdB n = t) :
    Calls Try.prog 15 #[.int .i64 n] w fun e w' => ∃ u0, e = .returned (.tuple #[u0, .bool t]) ∧ SdOwn (Iv w.heap.size w'.heap.size) w' u0 X ∧ Below w.heap.size w w' := by
  have HX := hid hX
  have HT := hid ht
  obtain ⟨PR, BR, hsR⟩ := box_three (w := w) (.int .i64 0) (.slice none 0 0) (.slice none 0 0) 34
  obtain ⟨PS, BS, hsS⟩ := box_three (w := w.alloc (.cells #[.int .i64 0, .slice none 0 0, .slice none 0 0] 34)) (.int .i64 n) (.slice none 0 0) (.slice none 0 0) 34
  have PR2 := PR.below BS PR.lt
  rw [hsR] at PS hsS
  obtain ⟨q0, q1, q2⟩ := PS.three
  obtain ⟨W, hW⟩ : ∃ W, W = (w.alloc (.cells #[.int .i64 0, .slice none 0 0, .slice none 0 0] 34)).alloc (.cells #[.int .i64 n, .slice none 0 0, .slice none 0 0] 34) := ⟨_, rfl⟩
  have HB : Hid (Below w.heap.size w W) := by rw [hW]; exact BR.trans (BS.mono BR.size)
  rw [← hW] at PS PR2 hsS
  have HR := hid PR2
  have HP := hid PS
  have HW := hid hW
  have HS := hid hsS
  have HRD : Hid (SdReads W (.agg #[.int .i64 n, .slice none 0 0, .slice none 0 0]) ⟨n, [], []⟩) := (sdOwn_bare (Iv 0 0) W n).reads
  clear hX ht PR BR BS hW hsR hsS PS PR2
  go_enter Try.func15, Try.ntmps15
  go_wp2_with fail
  rw [← HW.out]
  clear HW q0 q1 q2
  refine (igoodSd_eq _ ⟨n, [], []⟩ t ((goodSd_new n).trans HT.out) _ HRD.out).mono ?_
  rintro e w1 ⟨rfl, b1⟩
  have hs0 := HS.out
  have hs1 := b1.size
  have HR1 := hid (HR.out.below b1 HR.out.lt)
  have HP1 := hid (HP.out.below b1 HP.out.lt)
  have HB1 := hid (HB.out.trans (b1.mono HB.out.size))
  clear b1 HR HP HB
  obtain ⟨⟨y0, f0⟩, ⟨y1, f1⟩, y2, f2⟩ := HR1.out.form3
  obtain ⟨q0, q1, q2⟩ := HP1.out.three
  cases t
  · have HV : Hid (X = ⟨0, [], []⟩) := by show _ = _; rw [← HX.out]; unfold newSd; rw [HT.out]; rfl
    have LF := sd_leaf HR1.out HB1.out (Nat.le_refl _) (sdOwn_bare (Iv (w.heap.size + 1) (w.heap.size + 1)) w1 0) (by omega) (by omega) (by omega)
    have HO := hid LF.1
    have HBB := hid LF.2.1
    obtain ⟨t0, t1, t2⟩ := LF.2.2
    clear LF
    go_wp2
    exact bodyPost_ret (v := .tuple #[.agg #[.int .i64 0, .slice none 0 0, .slice none 0 0], .bool false]) (by simp [results, Try.results15, go_sem, t0, t1, t2]) rfl ⟨_, rfl, by rw [HV.out]; exact HO.out, HBB.out⟩
  · have HV : Hid (X = ⟨n, [], []⟩) := by show _ = _; rw [← HX.out]; unfold newSd; rw [HT.out]; rfl
    have LF := sd_leaf HR1.out HB1.out (Nat.le_refl _) (sdOwn_bare (Iv (w.heap.size + 1) (w.heap.size + 1)) w1 n) (by omega) (by omega) (by omega)
    have HO := hid LF.1
    have HBB := hid LF.2.1
    obtain ⟨t0, t1, t2⟩ := LF.2.2
    clear LF
    go_wp2
    exact bodyPost_ret (v := .tuple #[.agg #[.int .i64 n, .slice none 0 0, .slice none 0 0], .bool true]) (by simp [results, Try.results15, go_sem, t0, t1, t2]) rfl ⟨_, rfl, by rw [HV.out]; exact HO.out, HBB.out⟩
end Go.Proofs.Ythmkeinhjlmgmah

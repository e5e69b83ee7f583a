/-
  spec.NewSender: a sender that has sent so many letters. Nothing old is written.
-/
import Derived.Test.YthmkeinhjlmgmahSdBox
import Derived.Test.YthmkeinhjlmgmahSIn
namespace Go.Proofs.Ythmkeinhjlmgmah
open Go.RowKit

set_option maxRecDepth 100000 in
set_option maxHeartbeats 4000000 in
theorem snewSd_any (n : Int) (w : World) (X : SdD) (t : Bool) (hX : newSd n = X) (ht : newSdB n = t) :
    Calls Try.prog 14 #[.int .i64 n] w fun e w' => ∃ u0, e = .returned (.tuple #[u0, .bool t]) ∧ SdOwn (Iv w.heap.size w'.heap.size) w' u0 X ∧ Below w.heap.size w w' := by
  have HX := hid hX
  have HT := hid ht
  obtain ⟨PR, BR, hsR⟩ := box_three (w := w) (.int .i64 0) (.slice none 0 0) (.slice none 0 0) 34
  obtain ⟨W, hW⟩ : ∃ W, W = w.alloc (.cells #[.int .i64 0, .slice none 0 0, .slice none 0 0] 34) := ⟨_, rfl⟩
  rw [← hW] at PR BR hsR
  have HR := hid PR
  have HB := hid BR
  have HW := hid hW
  clear hX ht PR BR hW
  go_enter Try.func14, Try.ntmps14
  go_wp2_with fail
  rw [← HW.out]
  clear HW
  refine (l1In_eq n 0 60 t HT.out _).mono ?_
  rintro e w' ⟨rfl, hw⟩; obtain rfl := hw.symm
  obtain ⟨⟨y0, f0⟩, ⟨y1, f1⟩, y2, f2⟩ := HR.out.form3
  cases t
  · have HV : Hid (X = ⟨0, [], []⟩) := by show _ = _; rw [← HX.out]; unfold newSd; rw [HT.out]; rfl
    have LF := sd_leaf HR.out HB.out (Nat.le_refl _) (sdOwn_bare (Iv (w.heap.size + 1) (w.heap.size + 1)) W 0) (by omega) (by omega) (by omega)
    have HO := hid LF.1
    have HBB := hid LF.2.1
    obtain ⟨t0, t1, t2⟩ := LF.2.2
    clear LF
    go_wp2
    exact bodyPost_ret (v := .tuple #[.agg #[.int .i64 0, .slice none 0 0, .slice none 0 0], .bool false]) (by simp [results, Try.results14, go_sem, t0, t1, t2]) rfl ⟨_, rfl, by rw [HV.out]; exact HO.out, HBB.out⟩
  · have HV : Hid (X = ⟨n, [], []⟩) := by show _ = _; rw [← HX.out]; unfold newSd; rw [HT.out]; rfl
    have LF := sd_leaf HR.out HB.out (Nat.le_refl _) (sdOwn_bare (Iv (w.heap.size + 1) (w.heap.size + 1)) W n) (by omega) (by omega) (by omega)
    have HO := hid LF.1
    have HBB := hid LF.2.1
    obtain ⟨t0, t1, t2⟩ := LF.2.2
    clear LF
    go_wp2
    exact bodyPost_ret (v := .tuple #[.agg #[.int .i64 n, .slice none 0 0, .slice none 0 0], .bool true]) (by simp [results, Try.results14, go_sem, t0, t1, t2]) rfl ⟨_, rfl, by rw [HV.out]; exact HO.out, HBB.out⟩
end Go.Proofs.Ythmkeinhjlmgmah

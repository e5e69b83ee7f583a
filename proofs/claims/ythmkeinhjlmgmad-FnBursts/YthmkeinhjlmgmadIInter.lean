/-
  impl.Interleave answers with the bytes written into rows and read column by column, or with the zero answer; nothing old is written.
-/
import Derived.Test.YthmkeinhjlmgmadIDeep
import Derived.Test.YthmkeinhjlmgmadICols
namespace Go.Proofs.Ythmkeinhjlmgmad
open Go.RowKit

set_option maxHeartbeats 2000000 in
theorem iinter_any (s : ByteArray) (deep : Int) (w : World) (T : ByteArray) (t : Bool) (hT : ilvT s deep = T) (ht : deepB s.size deep = t) :
    Calls Try.prog 55 #[.string s, .int .i64 deep] w fun e w' => e = .returned (.tuple #[.string T, .bool t]) ∧ Below w.heap.size w w' := by
  have HT := hid hT
  have Ht := hid ht
  clear hT ht
  cases t
  · have HE : Hid (T = ByteArray.empty) := by show _ = _; rw [← HT.out]; unfold ilvT; rw [Ht.out]; rfl
    go_enter Try.func55, Try.ntmps55
    go_wp2_with fail
    refine (ideep_eq _ _ false Ht.out _).mono ?_
    rintro e w' ⟨rfl, hw⟩; obtain rfl := hw.symm
    go_wp2
    go_ret2
    exact ⟨by rw [HE.out]; rfl, Below.refl _ _⟩
  obtain ⟨d, c, rfl, h1, h2, h3, h4, h5, h6⟩ := deepB_parts Ht.out
  have HE : Hid (T = ⟨(colsL s d c).toArray⟩) := by show _ = _; rw [← HT.out]; unfold ilvT; rw [Ht.out, if_pos rfl]; simp [h5]
  clear HT
  have hne : ¬ (d : Int) = 0 := by omega
  have hc : c ≤ 120 := by
    have := Nat.le_mul_of_pos_right c h1
    omega
  have hq : ((s.size : Int).tdiv (d : Int)) = (c : Int) := by rw [Int.tdiv_eq_ediv_of_nonneg (by omega), ← h5]; rfl
  have hq2 : ((s.size : Int) / (d : Int)) = (c : Int) := by rw [← h5]; rfl
  have H4 := hid h4
  clear h5 h6 h4
  go_enter Try.func55, Try.ntmps55
  go_wp2_with fail
  refine (ideep_eq _ _ true Ht.out _).mono ?_
  rintro e w' ⟨rfl, hw⟩; obtain rfl := hw.symm
  go_wp2_with fail
  refine (icols_any s d c _ H4.out h3 (by omega) hc).mono ?_
  rintro e w1 ⟨rfl, b1⟩
  go_wp2
  go_ret2
  exact ⟨by rw [HE.out]; rfl, b1⟩
end Go.Proofs.Ythmkeinhjlmgmad

/-
  The law FnExactHearSpans answers true at any sender and any spans.
-/
import Derived.Test.YthmkeinhjlmgmahHearSpansLaw
import Derived.Test.YthmkeinhjlmgmahSHear
import Derived.Test.YthmkeinhjlmgmahIHear
namespace Go.Proofs.Ythmkeinhjlmgmah
open Go.RowKit

theorem hear_tot (D : SdD) (l : List Sp) : sdTot (hearSd D l) ≤ 1048576 ∧ (hearFr D l).length ≤ 1048576 ∧ (hearLa D l).length ≤ 1048576 := by
  unfold hearSd hearFr hearLa
  cases h : hearB D l
  · exact ⟨by show (0 : Nat) + 0 ≤ _; omega, Nat.zero_le _, Nat.zero_le _⟩
  · unfold hearB at h
    rw [Bool.and_eq_true, Bool.and_eq_true, decide_eq_true_eq] at h
    have h1 := goodSd_few h.1
    have a := selU_len (lostF (joinL D.f1 l) D.f2) D.f0.toNat
    have b := selU_len (freshF (joinL D.f1 l) D.f1) D.f0.toNat
    have c := selU_len (lateF (joinL D.f1 l) D.f2) D.f0.toNat
    have d := h.2.2
    have e : D.f0.toNat ≤ 60 := by omega
    refine ⟨?_, ?_, ?_⟩
    · show (joinL D.f1 l).length + (selU (lostF (joinL D.f1 l) D.f2) D.f0.toNat).length ≤ _
      omega
    · show (selU (freshF (joinL D.f1 l) D.f1) D.f0.toNat).length ≤ _
      omega
    · show (selU (lateF (joinL D.f1 l) D.f2) D.f0.toNat).length ≤ _
      omega
theorem FnExactHearSpans_walk (v0 : Value) (D0 : SdD) (b1 : Option Addr) (len1 cap1 : Nat) (D1 : List SpEl) (w : World) (h0 : SdArg w v0 D0) (h1 : SpArg w b1 len1 cap1 D1) :
    Calls Try.prog 7 #[v0, .slice b1 len1 cap1] w fun e w' => e = .returned (.bool true) ∧ Below w.heap.size w w' :=
  FnExactHearSpans_law v0 D0 b1 len1 cap1 D1 w h0 h1 (hearSd D0 D1) (hear_tot D0 D1).1 (hearFr D0 D1) (hear_tot D0 D1).2.1 (hearLa D0 D1) (hear_tot D0 D1).2.2 (hearB D0 D1)
    (fun v vl w r rl => shear_any v vl D0 D1 w r rl _ _ _ _ rfl rfl rfl rfl) (fun v vl w r rl => ihear_any v vl D0 D1 w r rl _ _ _ _ rfl rfl rfl rfl)
end Go.Proofs.Ythmkeinhjlmgmah

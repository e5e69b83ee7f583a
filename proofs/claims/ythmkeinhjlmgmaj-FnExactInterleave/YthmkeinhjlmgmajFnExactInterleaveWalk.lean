/-
  The law FnExactInterleave answers true at every text and number.
-/
import Derived.Test.YthmkeinhjlmgmajSInter
import Derived.Test.YthmkeinhjlmgmajIInter
namespace Go.Proofs.Ythmkeinhjlmgmaj
open Go.RowKit

set_option maxHeartbeats 2000000 in
theorem FnExactInterleave_walk (s : ByteArray) (a : Int) (w : World) (_hs : s.size ≤ maxLen) :
    Calls Try.prog 4 #[.string s, .int .i64 a] w fun e w' => e = .returned (.bool true) ∧ Below w.heap.size w w' := by
  by_cases hl : (1048576 : Int) < (s.size : Int)
  · go_enter Try.func4, Try.ntmps4
    go_wp2
    go_ret
    exact ⟨rfl, Below.refl _ _⟩
  obtain ⟨T, hT⟩ : ∃ T, ilvT s a = T := ⟨_, rfl⟩
  obtain ⟨t, ht⟩ : ∃ t, deepB s.size a = t := ⟨_, rfl⟩
  have HT := hid hT
  have Ht := hid ht
  clear hT ht
  go_enter Try.func4, Try.ntmps4
  go_wp2_with fail
  refine (sinter_any s a _ T t HT.out Ht.out).mono ?_
  rintro e w1 ⟨rfl, b1⟩
  go_wp2_with fail
  refine (iinter_any s a _ T t HT.out Ht.out).mono ?_
  rintro e w2 ⟨rfl, b2⟩
  cases t
  all_goals go_wp2
  all_goals go_ret
  all_goals exact ⟨rfl, b1.trans (b2.mono b1.size)⟩
end Go.Proofs.Ythmkeinhjlmgmaj

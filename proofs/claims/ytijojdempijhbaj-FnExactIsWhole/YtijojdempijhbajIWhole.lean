/-
  impl.IsWhole: whether the parity of pieces is of noughts alone, or the zero answer; nothing old is written.
-/
import Derived.Test.YtijojdempijhbajIZero
import Derived.Test.YtijojdempijhbajIParity
namespace Go.Proofs.Ytijojdempijhbaj
open Go.RowKit

set_option maxHeartbeats 4000000 in
theorem iwhole_any (v : Value) (xs : List XEl) (b t : Bool) (hb : wholeB xs = b) (ht : goodP xs = t) (w : World) (hr : XReads w v xs) :
    Calls Try.prog 12 #[v] w fun e w' => e = .returned (.tuple #[.bool b, .bool t]) ∧ Below w.heap.size w w' := by
  have HR := hid hr
  have HV := hid hb
  have Ht := hid ht
  obtain ⟨T, hT⟩ : ∃ T, parT xs = T := ⟨_, rfl⟩
  have HT := hid hT
  clear hb ht hr hT
  cases t
  · have HE : Hid (b = false) := by show _ = _; rw [← HV.out]; unfold wholeB; rw [Ht.out]; rfl
    go_enter Try.func12, Try.ntmps12
    go_wp2_with fail
    refine (iparity_any _ xs T false HT.out Ht.out _ HR.out).mono ?_
    rintro e w1 ⟨rfl, b1⟩
    go_wp2
    go_ret2
    exact ⟨by rw [HE.out]; rfl, b1⟩
  have HE : Hid (zeroB T = b) := by show _ = _; rw [← HV.out]; unfold wholeB; rw [Ht.out, HT.out]; rfl
  go_enter Try.func12, Try.ntmps12
  go_wp2_with fail
  refine (iparity_any _ xs T true HT.out Ht.out _ HR.out).mono ?_
  rintro e w1 ⟨rfl, b1⟩
  go_wp2_with fail
  refine (izero_any T b HE.out _).mono ?_
  rintro e w2 ⟨rfl, b2⟩
  go_wp2
  go_ret2
  exact ⟨rfl, b1.trans (b2.mono b1.size)⟩
end Go.Proofs.Ytijojdempijhbaj

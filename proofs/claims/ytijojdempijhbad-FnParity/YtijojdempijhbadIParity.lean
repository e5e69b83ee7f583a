/-
  impl.ParityOf: pieces together, bit for bit unlike, or the zero answer; nothing old is written.
  impl.IsWhole: whether the parity of pieces is of noughts alone, or the zero answer; nothing old is written.
-/
import Derived.Test.YtijojdempijhbadIPieces
import Derived.Test.YtijojdempijhbadIUnlike
import Derived.Test.YtijojdempijhbadXFirst
import Derived.Test.YtijojdempijhbadZeroMath
namespace Go.Proofs.Ytijojdempijhbad
open Go.RowKit

set_option maxHeartbeats 4000000 in
theorem iparity_any (v : Value) (xs : List XEl) (T : ByteArray) (t : Bool) (hT : parT xs = T) (ht : goodP xs = t) (w : World) (hr : XReads w v xs) :
    Calls Try.prog 58 #[v] w fun e w' => e = .returned (.tuple #[.string T, .bool t]) ∧ Below w.heap.size w w' := by
  have HR := hid hr
  have HT := hid hT
  have Ht := hid ht
  clear hT ht
  cases t
  · have HE : Hid (T = ByteArray.empty) := by show _ = _; rw [← HT.out]; exact parT_no Ht.out
    clear hr
    go_enter Try.func58, Try.ntmps58
    go_wp2_with fail
    refine (ipieces_eq _ xs false Ht.out _ HR.out).mono ?_
    rintro e w' ⟨rfl, hw⟩; obtain rfl := hw.symm
    go_wp2
    go_ret2
    exact ⟨by rw [HE.out]; rfl, Below.refl _ _⟩
  obtain ⟨n, h1, h2, h3, h4, hs⟩ := goodP_parts Ht.out
  have HE : Hid (T = ⟨(xorL xs n).toArray⟩) := by show _ = _; rw [← HT.out]; exact parT_yes Ht.out h1
  have HN := hid hs
  obtain ⟨b, off, cap, rfl, c1⟩ := xfirst hr h3
  obtain ⟨z, hz⟩ : ∃ z, xs.getD 0 xz = z := ⟨_, rfl⟩
  rw [hz] at c1 h1
  have hzi : (z.size : Int) = (n : Int) := by rw [h1]
  have hlt0 : (0 : Int) < (xs.length : Int) := by omega
  have hlt1 : 0 < xs.length := by omega
  clear hs HT hr hz h1
  go_enter Try.func58, Try.ntmps58
  go_wp2_with fail
  refine (ipieces_eq _ xs true Ht.out _ HR.out).mono ?_
  rintro e w' ⟨rfl, hw⟩; obtain rfl := hw.symm
  go_wp2_with fail
  refine (iunlike_any _ xs n _ HR.out h2 HN.out).mono ?_
  rintro e w1 ⟨rfl, b1⟩
  go_wp2
  go_ret2
  exact ⟨by rw [HE.out]; rfl, b1⟩
end Go.Proofs.Ytijojdempijhbad
namespace Go.Proofs.Ytijojdempijhbad
open Go.RowKit

set_option maxHeartbeats 4000000 in
theorem iwhole_any (v : Value) (xs : List XEl) (b t : Bool) (hb : wholeB xs = b) (ht : goodP xs = t) (w : World) (hr : XReads w v xs) :
    Calls Try.prog 61 #[v] w fun e w' => e = .returned (.tuple #[.bool b, .bool t]) ∧ Below w.heap.size w w' := by
  have HR := hid hr
  have HV := hid hb
  have Ht := hid ht
  obtain ⟨T, hT⟩ : ∃ T, parT xs = T := ⟨_, rfl⟩
  have HT := hid hT
  clear hb ht hr hT
  cases t
  · have HE : Hid (b = false) := by show _ = _; rw [← HV.out]; unfold wholeB; rw [Ht.out]; rfl
    go_enter Try.func61, Try.ntmps61
    go_wp2_with fail
    refine (iparity_any _ xs T false HT.out Ht.out _ HR.out).mono ?_
    rintro e w1 ⟨rfl, b1⟩
    go_wp2
    go_ret2
    exact ⟨by rw [HE.out]; rfl, b1⟩
  have HE : Hid (zeroB T = b) := by show _ = _; rw [← HV.out]; unfold wholeB; rw [Ht.out, HT.out]; rfl
  go_enter Try.func61, Try.ntmps61
  go_wp2_with fail
  refine (iparity_any _ xs T true HT.out Ht.out _ HR.out).mono ?_
  rintro e w1 ⟨rfl, b1⟩
  go_wp2_with fail
  refine (izero_any T b HE.out _).mono ?_
  rintro e w2 ⟨rfl, b2⟩
  go_wp2
  go_ret2
  exact ⟨rfl, b1.trans (b2.mono b1.size)⟩
end Go.Proofs.Ytijojdempijhbad

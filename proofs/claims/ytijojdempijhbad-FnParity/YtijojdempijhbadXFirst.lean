/-
  The first of texts: a plain fact on the memory.
  spec.ParityOf: pieces together, bit for bit unlike, or the zero answer; nothing old is written.
-/
import Derived.Test.YtijojdempijhbadXRows
import Derived.Test.YtijojdempijhbadSIn
import Derived.Test.YtijojdempijhbadSXor
namespace Go.Proofs.Ytijojdempijhbad
open Go.RowKit

theorem xfirst {w : World} {v : Value} {xs : List XEl} (hr : XReads w v xs) (h : 1 ≤ xs.length) : ∃ b off cap, v = .slice (some ⟨b, off, none⟩) xs.length cap ∧ w.cell? ⟨b, off, none⟩ = some (.string (xs.getD 0 xz)) := by
  obtain ⟨b, off, cap, rfl, hc⟩ := hr.cells 0 h
  exact ⟨b, off, cap, rfl, hc 0 h⟩
end Go.Proofs.Ytijojdempijhbad
namespace Go.Proofs.Ytijojdempijhbad
open Go.RowKit

set_option maxHeartbeats 4000000 in
theorem sparity_any (v : Value) (xs : List XEl) (T : ByteArray) (t : Bool) (hT : parT xs = T) (ht : goodP xs = t) (w : World) (hr : XReads w v xs) :
    Calls Try.prog 59 #[v] w fun e w' => e = .returned (.tuple #[.string T, .bool t]) ∧ Below w.heap.size w w' := by
  have HR := hid hr
  have HT := hid hT
  have Ht := hid ht
  clear hT ht
  cases t
  · have HE : Hid (T = ByteArray.empty) := by show _ = _; rw [← HT.out]; exact parT_no Ht.out
    clear hr
    go_enter Try.func59, Try.ntmps59
    go_wp2_with fail
    refine (spieces_eq _ xs false Ht.out _ HR.out).mono ?_
    rintro e w' ⟨rfl, hw⟩; obtain rfl := hw.symm
    go_wp2
    go_ret2
    exact ⟨by rw [HE.out]; rfl, Below.refl _ _⟩
  obtain ⟨n, h1, h2, h3, h4, hs⟩ := goodP_parts Ht.out
  have HE : Hid (T = ⟨(xorL xs n).toArray⟩) := by show _ = _; rw [← HT.out]; exact parT_yes Ht.out h1
  have HN := hid hs
  obtain ⟨b, off, cap, rfl, c1⟩ := xfirst hr h3
  obtain ⟨z, hz⟩ : ∃ z, xs.getD 0 xz = z := ⟨_, rfl⟩
  rw [hz] at c1 h1
  have hzi : (z.size : Int) = (n : Int) := by rw [h1]
  have hlt0 : (0 : Int) < (xs.length : Int) := by omega
  have hlt1 : 0 < xs.length := by omega
  clear hs HT hr hz h1
  go_enter Try.func59, Try.ntmps59
  go_wp2_with fail
  refine (spieces_eq _ xs true Ht.out _ HR.out).mono ?_
  rintro e w' ⟨rfl, hw⟩; obtain rfl := hw.symm
  go_wp2_with fail
  refine (sxor_any _ xs n _ HR.out h2 HN.out).mono ?_
  rintro e w1 ⟨rfl, b1⟩
  go_wp2
  go_ret2
  exact ⟨by rw [HE.out]; rfl, b1⟩
end Go.Proofs.Ytijojdempijhbad

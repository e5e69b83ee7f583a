/-
  impl.byEnd: the order by ends, in memory of its own. Nothing old is written.
-/
import Derived.Test.YtpkngcamaahhdabINums
import Derived.Test.YtpkngcamaahhdabISort
import Derived.Test.YtpkngcamaahhdabICmpE
namespace Go.Proofs.Ytpkngcamaahhdab
open Go.RowKit

set_option maxRecDepth 100000 in
set_option maxHeartbeats 8000000 in
theorem ibyend_any (v : Value) (xs : List TkEl) (w : World) (hr : TkReads w v xs) (hg : goodT xs = true) :
    Calls Try.prog 65 #[v] w fun e w' => ∃ g, e = .returned (.slice (some ⟨g, 0, none⟩) xs.length xs.length) ∧ IRow w' g xs.length xs.length (ofN (byEndL xs)) ∧ w.heap.size ≤ g ∧ Below w.heap.size w w' := by
  have HR := hid hr
  have hlen := goodT_len hg
  obtain ⟨a, cap, rfl, _, _⟩ := hr
  clear hg
  have HR0 : Hid (∀ w', Below w.heap.size w w' → TkReads w' (.slice a xs.length cap) xs) := fun w' hb => HR.out.below hb
  go_enter Try.func65, Try.ntmps65
  go_wp2_with fail
  refine (inums_any xs.length _ (by omega)).mono ?_
  rintro e w1 ⟨rfl, hrow, hsz, b1⟩
  rw [World.size_alloc] at hsz hrow b1
  have B0 : Hid (Below w.heap.size w (w.alloc (.cells #[.slice a xs.length cap] 41))) := (Below.refl _ _).alloc (Nat.le_refl _) _
  have B1 : Hid (Below w.heap.size w w1) := B0.out.trans (b1.mono (by omega))
  have C1 : Hid (w1.cell? ⟨w.heap.size, 0, none⟩ = some (.slice a xs.length cap)) := by
    show _ = _
    rw [b1.cell (p := ⟨w.heap.size, 0, none⟩) (by show w.heap.size < w.heap.size + 1; omega)]
    exact cell_of_row _ _ _ _ _ (0, 0) (heap_alloc_new w _)
  have R1 := hid hrow
  have Z1 := hid hsz
  clear hrow hsz b1
  go_wp2_with fail
  refine (comparing_any _ _ _).mono ?_
  rintro e w2 ⟨rfl, hw2⟩
  have B2 : Hid (Below w1.heap.size w1 w2) := by rw [hw2]; exact (Below.refl _ _).alloc (Nat.le_refl _) _
  have C2 : Hid (w2.cell? ⟨w1.heap.size, 0, none⟩ = some (.func (.func 90) #[] #[.pointer (some ⟨w.heap.size, 0, none⟩)])) := by
    show _ = _
    rw [hw2]
    exact cell_of_row _ _ _ _ _ (0, 0) (heap_alloc_new w1 _)
  have hz := Z1.out
  have L2 : Hid (Below w.heap.size w w2) := B1.out.trans (B2.out.mono (by omega))
  have R2 : Hid (IRow w2 (w.heap.size + 1) xs.length xs.length (ofN (List.range xs.length))) := R1.out.whole B2.out
  have HKey : Hid (KeyIn (w.heap.size + 1) w2 w1.heap.size xs.length (endT xs)) :=
    keyInE (w.heap.size + 1) w1.heap.size w.heap.size a xs.length cap xs w2 rfl (by omega) (by omega) C2.out ((B2.out.cell (p := ⟨w.heap.size, 0, none⟩) (by show w.heap.size < _; omega)).trans C1.out)
      (fun w' hb => HR.out.below (L2.out.trans (hb.to (by have := L2.out.size; omega) (fun k hk => by omega))))
  clear hw2 hz
  go_wp2_with fail
  refine (sortStable_any (w.heap.size + 1) xs.length xs.length w1.heap.size (endT xs) _ hlen R2.out HKey.out).mono ?_
  rintro e w3 ⟨rfl, hr3, b3⟩
  have R3 := hid hr3
  have B3 : Hid (Below w.heap.size w w3) := L2.out.trans (b3.to (by have := L2.out.size; omega) (fun k hk => by omega))
  clear hr3 b3
  go_wp2
  go_ret
  exact ⟨_, rfl, R3.out, by omega, B3.out⟩
end Go.Proofs.Ytpkngcamaahhdab

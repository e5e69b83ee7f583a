/-
  impl.ByRate: the order by how often tasks come, in memory of its own. Nothing old is written.
-/
import Derived.Test.YtmcmkobdkkibkabIAgain
import Derived.Test.YtmcmkobdkkibkabINums6
import Derived.Test.YtmcmkobdkkibkabIStable6
import Derived.Test.YtmcmkobdkkibkabICmpR
namespace Go.Proofs.Ytmcmkobdkkibkab
open Go.RowKit

set_option maxHeartbeats 1000000 in
theorem ibyrate_no (v : Value) (xs : List AgEl) (w : World) (hr : AgReads w v xs) (hg : goodA xs = false) :
    Calls Try.prog 49 #[v] w fun e w' => ∃ u0, e = .returned (.tuple #[u0, .bool false]) ∧ KOwn w.heap.size w'.heap.size w' u0 [] ∧ Below w.heap.size w w' := by
  have HR := hid hr
  have B0 : Hid (∀ ob, Below w.heap.size w (w.alloc ob)) := fun ob => (Below.refl _ _).alloc (Nat.le_refl _) _
  obtain ⟨a, cap, rfl, _, _⟩ := hr
  go_enter Try.func49, Try.ntmps49
  go_wp2_with fail
  refine (igoodAgain_eq _ xs false hg _ (HR.out.below (B0.out _))).mono ?_
  rintro e w1 ⟨rfl, b1⟩
  have B1 : Hid (Below w.heap.size w w1) := (B0.out _).trans (b1.mono (by simp))
  clear b1
  go_wp2
  go_ret2
  exact ⟨_, rfl, kown_nil _ _ _ _ _, B1.out⟩
set_option maxRecDepth 100000 in
set_option maxHeartbeats 8000000 in
theorem ibyrate_yes (v : Value) (xs : List AgEl) (w : World) (hr : AgReads w v xs) (hg : goodA xs = true) :
    Calls Try.prog 49 #[v] w fun e w' => ∃ u0, e = .returned (.tuple #[u0, .bool true]) ∧ KOwn w.heap.size w'.heap.size w' u0 (ofN (byRateL xs)) ∧ Below w.heap.size w w' := by
  have HR := hid hr
  have HG := hid hg
  have hlen := goodA_len hg
  obtain ⟨a, cap, rfl, _, _⟩ := hr
  clear hg
  have B0 : Hid (∀ ob, Below w.heap.size w (w.alloc ob)) := fun ob => (Below.refl _ _).alloc (Nat.le_refl _) _
  go_enter Try.func49, Try.ntmps49
  go_wp2_with fail
  refine (igoodAgain_eq _ xs true HG.out _ (HR.out.below (B0.out _))).mono ?_
  rintro e wg ⟨rfl, bg⟩
  have BG : Hid (Below w.heap.size w wg) := (B0.out _).trans (bg.mono (by simp))
  have cg : wg.cell? ⟨w.heap.size, 0, none⟩ = some (.slice a xs.length cap) := by
    rw [bg.cell (p := ⟨w.heap.size, 0, none⟩) (by simp)]
    exact cell_of_row _ _ _ _ _ (0, 0) (heap_alloc_new w _)
  have hwg : w.heap.size < wg.heap.size := by have := bg.size; simp at this; omega
  clear bg
  go_wp2_with fail
  refine (inums_any xs.length _ (by omega)).mono ?_
  rintro e w1 ⟨rfl, hrow, hsz, b1⟩
  have B1 : Hid (Below w.heap.size w w1) := BG.out.trans (b1.mono (by omega))
  have c1 : w1.cell? ⟨w.heap.size, 0, none⟩ = some (.slice a xs.length cap) := (b1.cell (p := ⟨w.heap.size, 0, none⟩) hwg).trans cg
  have C1 := hid c1
  have R1 := hid hrow
  have Z1 := hid hsz
  clear hrow hsz b1 cg c1
  go_wp2_with fail
  refine (comparing_any _ _ _).mono ?_
  rintro e w2 ⟨rfl, hw2⟩
  have B2 : Hid (Below w1.heap.size w1 w2) := by rw [hw2]; exact (Below.refl _ _).alloc (Nat.le_refl _) _
  have C2 : Hid (w2.cell? ⟨w1.heap.size, 0, none⟩ = some (.func (.func 103) #[] #[.pointer (some ⟨w.heap.size, 0, none⟩)])) := by
    show _ = _
    rw [hw2]
    exact cell_of_row _ _ _ _ _ (0, 0) (heap_alloc_new w1 _)
  have hz := Z1.out
  have L2 : Hid (Below w.heap.size w w2) := B1.out.trans (B2.out.mono (by omega))
  have R2 : Hid (IRow w2 wg.heap.size xs.length xs.length (ofN (List.range xs.length))) := R1.out.whole B2.out
  have HKey : Hid (KeyIn wg.heap.size w2 w1.heap.size xs.length (everyA xs)) :=
    keyInR wg.heap.size w1.heap.size w.heap.size a xs.length cap xs w2 rfl (by omega) (by omega) C2.out ((B2.out.cell (p := ⟨w.heap.size, 0, none⟩) (by show w.heap.size < _; omega)).trans C1.out)
      (fun w' hb => HR.out.below (L2.out.trans (hb.to (by have := L2.out.size; omega) (fun k hk => by omega))))
  clear hw2 hz
  go_wp2_with fail
  refine (sortStable_any wg.heap.size xs.length xs.length w1.heap.size (everyA xs) _ (by omega) R2.out HKey.out).mono ?_
  rintro e w3 ⟨rfl, hr3, b3⟩
  have O3 : Hid (KOwn w.heap.size w3.heap.size w3 (.slice (some ⟨wg.heap.size, 0, none⟩) xs.length xs.length) (ofN (byRateL xs))) := hr3.own (by omega) (by omega) hr3.caps.2.2
  have B3 : Hid (Below w.heap.size w w3) := L2.out.trans (b3.to (by have := L2.out.size; omega) (fun k hk => by omega))
  clear hr3 b3
  go_wp2
  go_ret2
  exact ⟨_, rfl, O3.out, B3.out⟩
end Go.Proofs.Ytmcmkobdkkibkab

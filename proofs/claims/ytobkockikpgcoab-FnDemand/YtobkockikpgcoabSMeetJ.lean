/-
  spec.l4Meet: whether nothing is late where the nearest end comes first. Nothing old is written.
-/
import Derived.Test.YtobkockikpgcoabSEarl
import Derived.Test.YtobkockikpgcoabSLate
namespace Go.Proofs.Ytobkockikpgcoab
open Go.RowKit

theorem l4Meet_eq (v : Value) (xs : List JbEl) (t : Bool) (ht : meetB xs = t) (w : World) (hr : JbReads w v xs) (hg : goodJ xs = true) :
    Calls Try.prog 29 #[v] w fun e w' => e = .returned (.bool t) ∧ Below w.heap.size w w' := by
  have HR := hid hr
  have HG := hid hg
  have HT := hid ht
  clear hr hg ht
  go_enter Try.func29, Try.ntmps29
  go_wp2_with fail
  refine (searl_any v xs _ (HR.out.below (Below.refl w.heap.size w)) HG.out).mono ?_
  rintro e w2 ⟨u2, rfl, o2, b2⟩
  have B2 : Hid (Below w.heap.size w w2) := (Below.refl w.heap.size w).trans (b2.mono (Below.refl w.heap.size w).size)
  have O2 := hid o2.reads
  clear o2 b2
  go_wp2_with fail
  refine (slate_any v u2 xs (earl xs 24) _ (HR.out.below B2.out) O2.out HG.out (length_earl xs 24)).mono ?_
  rintro e w3 ⟨u3, rfl, o3, b3⟩
  have B3 : Hid (Below w.heap.size w w3) := B2.out.trans (b3.mono B2.out.size)
  obtain ⟨a3, cap3, rfl, _, _⟩ := o3.reads
  clear o3 b3 B2 O2
  obtain ⟨n, hn⟩ : ∃ n, n = (lateL xs (earl xs 24)).length := ⟨_, rfl⟩
  rw [← hn]
  have hb : ((n : Int) == 0) = t := by
    rw [← HT.out, hn]
    unfold meetB
    rw [Bool.eq_iff_iff, beq_iff_eq, decide_eq_true_eq, ← List.length_eq_zero_iff]
    omega
  clear hn
  go_wp2
  go_ret
  exact ⟨rfl, B3.out⟩
end Go.Proofs.Ytobkockikpgcoab

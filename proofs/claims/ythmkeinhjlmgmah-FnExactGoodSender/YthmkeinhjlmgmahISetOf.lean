/-
  impl.setOf: a set of numbers. Nothing old is written.
-/
import Derived.Test.YthmkeinhjlmgmahIPutS
namespace Go.Proofs.Ythmkeinhjlmgmah
open Go.RowKit

theorem below_put {w w' w1 : World} {b : Nat} (h : Below w.heap.size w w1) (hg : w1.grownBy w' (some b)) (hb : w.heap.size ≤ b) : Below w.heap.size w w' := h.grown hg h.size (fun k e => by cases e; exact hb)
set_option maxRecDepth 100000 in
set_option maxHeartbeats 2000000 in
theorem isetof_any (v : Value) (xs : List Int) (w : World) (hr : KReads w v xs) (hw : ∀ x ∈ xs, inW x) (hn : xs.length ≤ 1000000) :
    Calls Try.prog 58 #[v] w fun e w' => e = .returned (.map (some w.heap.size)) ∧ MSet w' w.heap.size xs.length (fun x => xs.contains x) ∧ Below w.heap.size w w' := by
  have HR := hid hr
  have HW := hid hw
  have hmm := @run_makeMap Try.prog
  have HB : Hid (Below w.heap.size w (w.alloc (.map #[] 0))) := (Below.refl _ _).alloc (Nat.le_refl _) _
  have HM := hid (MSet.made w)
  clear hr hw
  go_enter Try.func58, Try.ntmps58
  go_wp2_with fail
  refine (iputs_any w.heap.size 0 _ v xs _ HM.out (HR.out.below HB.out) HW.out (by omega)).mono ?_
  rintro e w' ⟨rfl, hm, hg⟩
  have HM2 : Hid (MSet w' w.heap.size xs.length (fun x => xs.contains x)) := (hm.mono (by omega)).congr (fun x => by simp)
  have HB2 : Hid (Below w.heap.size w w') := below_put HB.out hg (Nat.le_refl _)
  clear hm hg
  go_wp2
  go_ret
  exact ⟨rfl, HM2.out, HB2.out⟩
end Go.Proofs.Ythmkeinhjlmgmah

/-
  (set).has: whether a number is in a set. Nothing old is written.
-/
import Derived.Test.YthmkeinhjlmgmahISet
namespace Go.Proofs.Ythmkeinhjlmgmah
open Go.RowKit

set_option maxRecDepth 100000 in
set_option maxHeartbeats 2000000 in
theorem ihass_eq (b n : Nat) (f : Int → Bool) (x : Int) (t : Bool) (ht : f x = t) (w : World) (hm : MSet w b n f) (hx : inW x) :
    Calls Try.prog 50 #[.map (some b), .int .i64 x] w fun e w' => e = .returned (.bool t) ∧ Below w.heap.size w w' := by
  obtain ⟨D, hD, hf⟩ := hm
  have HT : Hid (Maps.has D (.int .i64 x) = t) := by show _ = _; rw [hf, ht]
  have HD := hid hD
  have HX := hid hx
  clear hD hx hf ht
  go_enter Try.func50, Try.ntmps50
  go_wp2_with (at_lookup; refine wpList_lookup_own_unit _ rfl _ _ 71 rfl 3 95 setLaw Try.underlying71 (zeroU _) b n _ rfl HD.out _ _ rfl (Maps.keyOf_int_mk Try.underlying3 HX.out) ?_; rw [HT.out])
  go_wp2
  go_ret
  exact ⟨rfl, (Below.refl _ _).alloc (Nat.le_refl _) _⟩
end Go.Proofs.Ythmkeinhjlmgmah

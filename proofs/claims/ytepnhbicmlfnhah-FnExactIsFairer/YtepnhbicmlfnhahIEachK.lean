/-
  A list, each one's put into its place. Plain arithmetic.
-/
import Derived.Test.YtepnhbicmlfnhahShMath
import Derived.Test.YtepnhbicmlfnhahIRows
namespace Go.Proofs.Ytepnhbicmlfnhah
open Go.RowKit

theorem map_part (f : Int → Int) (xs : List Int) (k : Nat) (hk : k < xs.length) : ((xs.map f).take k ++ List.replicate (xs.length - k) 0).set k (f (fl xs k)) = (xs.map f).take (k + 1) ++ List.replicate (xs.length - (k + 1)) 0 := by
  rw [List.set_append_right _ _ (by simp; omega)]
  rw [List.take_succ_eq_append_getElem (by simpa using hk), List.append_assoc]
  congr 1
  have e : k - (List.take k (List.map f xs)).length = 0 := by simp; omega
  rw [e, show xs.length - k = (xs.length - (k + 1)) + 1 by omega, List.replicate_succ]
  simp [fl, List.getD_eq_getElem?_getD, hk]
end Go.Proofs.Ytepnhbicmlfnhah

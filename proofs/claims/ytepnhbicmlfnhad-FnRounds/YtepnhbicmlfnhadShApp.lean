/-
  A number appended to a row that lies in a box: plain facts on the memory.
-/
import Derived.Test.YtepnhbicmlfnhadShBox
import Derived.Test.YtepnhbicmlfnhadKAppN
import Derived.Test.YtepnhbicmlfnhadStepApp
namespace Go.Proofs.Ytepnhbicmlfnhad
open Go.RowKit

theorem map_snoc (f : Int → Int) (xs : List Int) (k : Nat) (hk : k < xs.length) : (xs.map f).take (k + 1) = (xs.map f).take k ++ [f (fl xs k)] := by
  rw [List.take_succ_eq_append_getElem (by simpa using hk)]
  simp [fl, List.getD_eq_getElem?_getD, hk]
theorem app_box {wr w6 : World} {b base n : Nat} {la : Option Addr} {lc : Nat} {z : Value} {xs ys : List Int} {O : Obj} (hbox : BoxL wr b [.slice la n lc, z]) (hown : wr.ownsRow base 3 1 (.slice la n lc) n (kflat xs)) (v6 : Value) (hown6 : w6.ownsRow base 3 1 v6 (n + 1) (kflat ys)) (hgr : (wr.alloc O).grownBy w6 (Value.slice la n lc).ownBlock) (hb : b < base) (hbw : base ≤ wr.heap.size) :
    ∃ la6 lc6, v6 = .slice la6 (n + 1) lc6 ∧ BoxL w6 b [.slice la n lc, z] ∧ BoxL (w6.setCell ⟨b, 0, none⟩ (.slice la6 (n + 1) lc6)) b [.slice la6 (n + 1) lc6, z] ∧ (w6.setCell ⟨b, 0, none⟩ (.slice la6 (n + 1) lc6)).ownsRow base 3 1 (.slice la6 (n + 1) lc6) (n + 1) (kflat ys) ∧ Below b wr (w6.setCell ⟨b, 0, none⟩ (.slice la6 (n + 1) lc6)) ∧ Below base wr w6 := by
  have b6 : Below base wr w6 := ((Below.refl _ _).alloc hbw _).grown hgr (by simp; omega) (fun m hm => (hown.lt m hm).1)
  have P6 := hbox.below b6 hb
  obtain ⟨la6, lc6, rfl⟩ := sform_of_owns hown6
  refine ⟨la6, lc6, rfl, P6, P6.set 0 (by simp) _, owns_stay hown6 (fun g e => ?_), (b6.mono (Nat.le_of_lt hb)).setCell (by show b ≤ b; omega) _, b6⟩
  have := (hown6.lt g e).1
  exact (onlyP_set w6 b 0 _).2.1 g (by omega)
theorem app_box0 {wr w6 : World} {b base n : Nat} {la : Option Addr} {lc : Nat} {z : Value} {xs ys : List Int} (hbox : BoxL wr b [.slice la n lc, z]) (hown : wr.ownsRow base 3 1 (.slice la n lc) n (kflat xs)) (v6 : Value) (hown6 : w6.ownsRow base 3 1 v6 (n + 1) (kflat ys)) (hgr : wr.grownBy w6 (Value.slice la n lc).ownBlock) (hb : b < base) (hbw : base ≤ wr.heap.size) :
    ∃ la6 lc6, v6 = .slice la6 (n + 1) lc6 ∧ BoxL w6 b [.slice la n lc, z] ∧ BoxL (w6.setCell ⟨b, 0, none⟩ (.slice la6 (n + 1) lc6)) b [.slice la6 (n + 1) lc6, z] ∧ (w6.setCell ⟨b, 0, none⟩ (.slice la6 (n + 1) lc6)).ownsRow base 3 1 (.slice la6 (n + 1) lc6) (n + 1) (kflat ys) ∧ Below b wr (w6.setCell ⟨b, 0, none⟩ (.slice la6 (n + 1) lc6)) ∧ Below base wr w6 := by
  have b6 : Below base wr w6 := (Below.refl _ _).grown hgr hbw (fun m hm => (hown.lt m hm).1)
  have P6 := hbox.below b6 hb
  obtain ⟨la6, lc6, rfl⟩ := sform_of_owns hown6
  refine ⟨la6, lc6, rfl, P6, P6.set 0 (by simp) _, owns_stay hown6 (fun g e => ?_), (b6.mono (Nat.le_of_lt hb)).setCell (by show b ≤ b; omega) _, b6⟩
  have := (hown6.lt g e).1
  exact (onlyP_set w6 b 0 _).2.1 g (by omega)
end Go.Proofs.Ytepnhbicmlfnhad

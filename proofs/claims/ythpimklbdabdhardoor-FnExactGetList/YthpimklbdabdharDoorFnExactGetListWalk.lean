/-
  The law FnExactGetList answers true at every text.
-/
import Derived.Test.YthpimklbdabdharDoorSGetList
import Derived.Test.YthpimklbdabdharDoorGetList
import Derived.Test.YthpimklbdabdharDoorIntsEq
import Derived.Test.YthpimklbdabdharDoorIntsMark
namespace Go.Proofs.YthpimklbdabdharDoor
open Go.RowKit

/-- What GetList tells of any text. -/
def listA (s : ByteArray) : Option (List Int) := if s.size ≤ 600 then listR s else none
theorem own_nil (base : Nat) (w : World) : Own base w (.slice none 0 0) [] := ⟨by simp, .inl ⟨rfl, rfl⟩⟩
theorem sgetList_all (s : ByteArray) (w : World) (hs : s.size ≤ maxLen) :
    Calls Tryd.prog 17 #[.string s] w fun e w' => ∃ v, e = .returned (.tuple #[v, .bool (listA s).isSome]) ∧ Own w.heap.size w' v ((listA s).getD []) ∧ Below w.heap.size w w' := by
  by_cases h : s.size ≤ 600
  · have e : listA s = listR s := by unfold listA; rw [if_pos h]
    rw [e]; exact sgetList_any s w hs h
  · have e : listA s = none := by unfold listA; rw [if_neg h]
    rw [e]; exact (sgetList_long s w (by omega)).mono fun _ _ ⟨a, b⟩ => ⟨_, a, own_nil _ _, by rw [b]; exact Below.refl _ _⟩
theorem getList_all (s : ByteArray) (w : World) (hT : Tab w) (hs : s.size ≤ maxLen) :
    Calls Tryd.prog 18 #[.string s] w fun e w' => ∃ v, e = .returned (.tuple #[v, .bool (listA s).isSome]) ∧ Own w.heap.size w' v ((listA s).getD []) ∧ Below w.heap.size w w' := by
  by_cases h : s.size ≤ 600
  · have e : listA s = listR s := by unfold listA; rw [if_pos h]
    rw [e]; exact getList_any s w hT hs h
  · have e : listA s = none := by unfold listA; rw [if_neg h]
    rw [e]; exact (getList_long s w (by omega)).mono fun _ _ ⟨a, b⟩ => ⟨_, a, own_nil _ _, by rw [b]; exact Below.refl _ _⟩

set_option maxHeartbeats 1000000 in
theorem FnExactGetList_walk (s : ByteArray) (w : World) (hT : Tab w) (hs : s.size ≤ maxLen) :
    Calls Tryd.prog 6 #[.string s] w fun e w' => e = .returned (.bool true) ∧ Below w.heap.size w w' := by
  have HT : Hid (Tab w) := hT
  have h0 := hT.lt
  have hs' := hs
  unfold maxLen at hs'
  clear hT
  by_cases hl : (1048576 : Int) < (s.size : Int)
  · go_enter Tryd.func6, Tryd.ntmps6
    go_wp2
    go_ret
    exact ⟨rfl, Below.refl _ _⟩
  generalize hL : (listA s).getD [] = L
  generalize hok : (listA s).isSome = ok
  have c1 : Hid (∀ w, Calls Tryd.prog 17 #[.string s] w fun e w' => ∃ v, e = .returned (.tuple #[v, .bool ok]) ∧ Own w.heap.size w' v L ∧ Below w.heap.size w w') := fun w => by
    have := sgetList_all s w hs; rw [hL, hok] at this; exact this
  have c2 : Hid (∀ w, Tab w → Calls Tryd.prog 18 #[.string s] w fun e w' => ∃ v, e = .returned (.tuple #[v, .bool ok]) ∧ Own w.heap.size w' v L ∧ Below w.heap.size w w') := fun w hT => by
    have := getList_all s w hT hs; rw [hL, hok] at this; exact this
  clear hL hok
  go_enter Tryd.func6, Tryd.ntmps6
  go_wp2_with fail
  refine (c1.out _).mono ?_
  rintro e w1 ⟨v0, rfl, o0, b1⟩
  have hlen := o0.1
  have O0 := hid o0; have B1 := hid b1; clear o0 b1
  go_wp2_with fail
  refine (c2.out _ (HT.out.below B1.out h0)).mono ?_
  rintro e w2 ⟨v1, rfl, o1, b2⟩
  have O1 := hid o1; have B2 := hid b2; clear o1 b2
  go_wp2_with fail
  refine (eqIntS_same _ _ L _ O1.out.reads (O0.out.reads.below B2.out)).mono ?_
  rintro e w3 ⟨rfl, b3⟩
  have B3 := hid b3; clear b3
  go_wp2_with fail
  refine (markIntS_any w1.heap.size _ L _ _ (O1.out.below B3.out) (by omega) (by omega)).mono ?_
  rintro e w4 ⟨rfl, o4, b4⟩
  have O4 := hid o4; have B4 := hid b4; clear o4 b4
  have B14 : Hid (Below w1.heap.size w1 w4) := (B2.out.trans (B3.out.mono B2.out.size)).trans B4.out
  have T4 : Hid (Tab w4) := (HT.out.below B1.out h0).below B14.out (by have := B1.out.size; omega)
  go_wp2_with fail
  refine (heldIntS_any _ L.length _ _ O4.out.reads (by omega) (by omega)).mono ?_
  rintro e w4' ⟨rfl, hw⟩
  obtain rfl := hw.symm
  go_wp2_with fail
  refine (c2.out _ T4.out).mono ?_
  rintro e w5 ⟨v5, rfl, o5, b5⟩
  have O5 := hid o5; have B5 := hid b5; clear o5 b5
  go_wp2_with fail
  refine (eqIntS_same _ _ L _ O5.out.reads ((O0.out.reads.below B14.out).below B5.out)).mono ?_
  rintro e w6 ⟨rfl, b6⟩
  have B6 := hid b6; clear b6
  go_wp2_with fail
  refine (heldIntS_any _ L.length _ _ ((O4.out.below B5.out).below B6.out).reads (by omega) (by omega)).mono ?_
  rintro e w6' ⟨rfl, hw⟩
  obtain rfl := hw.symm
  go_wp2
  go_ret
  have s1 := B1.out.size
  have s4 := B14.out.size
  have s5 := B5.out.size
  exact ⟨rfl, ((B1.out.trans (B14.out.mono s1)).trans (B5.out.mono (by omega))).trans (B6.out.mono (by omega))⟩
end Go.Proofs.YthpimklbdabdharDoor

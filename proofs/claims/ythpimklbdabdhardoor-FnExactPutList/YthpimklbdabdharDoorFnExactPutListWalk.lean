/-
  The law FnExactPutList answers true at every list.
-/
import Derived.Test.YthpimklbdabdharDoorPutList
import Derived.Test.YthpimklbdabdharDoorIntsEq
import Derived.Test.YthpimklbdabdharDoorIntsTo
import Derived.Test.YthpimklbdabdharDoorLaid
namespace Go.Proofs.YthpimklbdabdharDoor
open Go.RowKit

theorem putList_yes (v : Value) (xs : List Int) (w : World) (hT : Tab w) (hr : Reads w v xs) (h60 : xs.length ≤ 60) (ha : allIn xs 0 1152921504606846975) :
    Calls Tryd.prog 15 #[v] w fun e w' => e = .returned (.tuple #[.string (catB xs), .bool true]) ∧ Below w.heap.size w w' :=
  (putList_any v xs w hT hr h60).mono fun _ _ ⟨x, _, z⟩ => ⟨x ha, z⟩
theorem putList_no (v : Value) (xs : List Int) (w : World) (hT : Tab w) (hr : Reads w v xs) (h : ¬ (xs.length ≤ 60 ∧ allIn xs 0 1152921504606846975)) :
    Calls Tryd.prog 15 #[v] w fun e w' => e = .returned (.tuple #[.string ⟨#[]⟩, .bool false]) ∧ Below w.heap.size w w' := by
  by_cases h60 : xs.length ≤ 60
  · exact (putList_any v xs w hT hr h60).mono fun _ _ ⟨_, y, z⟩ => ⟨y (fun ha => h ⟨h60, ha⟩), z⟩
  · exact (putList_long v xs w hr h60).mono fun _ _ ⟨x, y⟩ => ⟨x, by rw [y]; exact Below.refl _ _⟩

/-- An argument of a law reads as a list. -/
theorem reads_of_row {w : World} {a : Option Addr} {len cap : Nat} {zs : List Int} (h : IsRow .i64 w a len cap zs) (hl : len ≤ 1048576) : ∃ xs, xs.length = len ∧ Reads w (.slice a len cap) xs := by
  rcases h with ⟨rfl, rfl, rfl, rfl⟩ | ⟨x, rfl, hlc, hcm, hz, hcell, _⟩
  · exact ⟨[], rfl, none, 0, rfl, by simp, .inl rfl⟩
  · have hlen : (zs.take len).length = len := by simp; omega
    refine ⟨zs.take len, hlen, some x, cap, by rw [hlen], by omega, ?_⟩
    by_cases h0 : len = 0
    · left; rw [h0]; simp
    · right
      obtain ⟨b, off, spot⟩ := x
      have hspot : spot = none := by simpa [Addr.add] using World.cell?_spot (hcell 0 (by omega))
      subst hspot
      refine ⟨b, off, rfl, fun i hi => ?_⟩
      rw [hlen] at hi
      have := hcell i (by omega)
      rw [show (zs.take len).getD i 0 = zs.getD i 0 by simp [List.getD_eq_getElem?_getD, hi]]
      rcases i with _ | i <;> simpa [Addr.add] using this

set_option maxHeartbeats 1000000 in
theorem FnExactPutList_walk (a : Option Addr) (len cap : Nat) (zs : List Int) (w : World) (hT : Tab w) (hrow : IsRow .i64 w a len cap zs) :
    Calls Tryd.prog 5 #[.slice a len cap] w fun e w' => e = .returned (.bool true) ∧ Below w.heap.size w w' := by
  have h0 := hT.lt
  have HT := hid hT
  clear hT
  by_cases hl : (1048576 : Int) < (len : Int)
  · clear hrow
    go_enter Tryd.func5, Tryd.ntmps5
    go_wp2
    go_ret
    exact ⟨rfl, Below.refl _ _⟩
  obtain ⟨xs, hxl, hr⟩ := reads_of_row hrow (by omega)
  have hx : xs.length ≤ 1048576 := by omega
  have HR := hid hr
  clear hr hrow hxl
  by_cases hy : xs.length ≤ 60 ∧ allIn xs 0 1152921504606846975
  · obtain ⟨h60, ha⟩ := hy
    have HA := hid ha
    clear ha
    go_enter Tryd.func5, Tryd.ntmps5
    go_wp2_with fail
    refine (toIntS_any _ xs _ HR.out hx).mono ?_
    rintro e w1 ⟨v1, rfl, o1, b1⟩
    have O1 := hid o1; have B1 := hid b1; clear o1 b1
    go_wp2_with fail
    refine (sputList_yes _ xs _ O1.out.reads h60 HA.out).mono ?_
    rintro e w2 ⟨rfl, b2⟩
    have B2 : Hid (Below w.heap.size w w2) := B1.out.trans (b2.mono B1.out.size)
    clear b2
    go_wp2_with fail
    refine (toIntS_any _ xs _ (HR.out.below B2.out) hx).mono ?_
    rintro e w3 ⟨v3, rfl, o3, b3⟩
    have O3 := hid o3
    have B3 : Hid (Below w.heap.size w w3) := B2.out.trans (b3.mono B2.out.size)
    clear o3 b3
    go_wp2_with fail
    refine (putList_yes _ xs _ (HT.out.below B3.out h0) O3.out.reads h60 HA.out).mono ?_
    rintro e w4 ⟨rfl, b4⟩
    have B34 := hid b4
    have B4 : Hid (Below w.heap.size w w4) := B3.out.trans (b4.mono B3.out.size)
    clear b4
    go_wp2_with fail
    refine (toIntS_any _ xs _ (HR.out.below B4.out) hx).mono ?_
    rintro e w5 ⟨v5, rfl, o5, b5⟩
    have O5 := hid o5
    have B45 := hid b5
    have B5 : Hid (Below w.heap.size w w5) := B4.out.trans (b5.mono B4.out.size)
    clear o5 b5
    go_wp2_with fail
    refine (eqIntS_same _ _ xs _ ((O3.out.below B34.out).below B45.out).reads O5.out.reads).mono ?_
    rintro e w6 ⟨rfl, b6⟩
    go_wp2
    go_ret
    exact ⟨rfl, B5.out.trans (b6.mono B5.out.size)⟩
  · have HA := hid hy
    clear hy
    go_enter Tryd.func5, Tryd.ntmps5
    go_wp2_with fail
    refine (toIntS_any _ xs _ HR.out hx).mono ?_
    rintro e w1 ⟨v1, rfl, o1, b1⟩
    have O1 := hid o1; have B1 := hid b1; clear o1 b1
    go_wp2_with fail
    refine (sputList_no _ xs _ O1.out.reads HA.out).mono ?_
    rintro e w2 ⟨rfl, hw⟩
    obtain rfl := hw.symm
    have B2 := B1
    go_wp2_with fail
    refine (toIntS_any _ xs _ (HR.out.below B2.out) hx).mono ?_
    rintro e w3 ⟨v3, rfl, o3, b3⟩
    have O3 := hid o3
    have B3 : Hid (Below w.heap.size w w3) := B2.out.trans (b3.mono B2.out.size)
    clear o3 b3
    go_wp2_with fail
    refine (putList_no _ xs _ (HT.out.below B3.out h0) O3.out.reads HA.out).mono ?_
    rintro e w4 ⟨rfl, b4⟩
    have B34 := hid b4
    have B4 : Hid (Below w.heap.size w w4) := B3.out.trans (b4.mono B3.out.size)
    clear b4
    go_wp2_with fail
    refine (toIntS_any _ xs _ (HR.out.below B4.out) hx).mono ?_
    rintro e w5 ⟨v5, rfl, o5, b5⟩
    have O5 := hid o5
    have B45 := hid b5
    have B5 : Hid (Below w.heap.size w w5) := B4.out.trans (b5.mono B4.out.size)
    clear o5 b5
    go_wp2_with fail
    refine (eqIntS_same _ _ xs _ ((O3.out.below B34.out).below B45.out).reads O5.out.reads).mono ?_
    rintro e w6 ⟨rfl, b6⟩
    go_wp2
    go_ret
    exact ⟨rfl, B5.out.trans (b6.mono B5.out.size)⟩
end Go.Proofs.YthpimklbdabdharDoor

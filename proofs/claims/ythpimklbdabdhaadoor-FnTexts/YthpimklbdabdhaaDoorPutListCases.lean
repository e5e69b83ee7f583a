/-
  impl.PutList, case by case; nothing old is written.
-/
import Derived.Test.YthpimklbdabdhaaDoorPutList
namespace Go.Proofs.YthpimklbdabdhaaDoor
open Go.RowKit

theorem putList_yes (v : Value) (xs : List Int) (w : World) (hT : Tab w) (hr : Reads w v xs) (h60 : xs.length ≤ 60) (ha : allIn xs 0 1152921504606846975) :
    Calls Tryd.prog 17 #[v] w fun e w' => e = .returned (.tuple #[.string (catB xs), .bool true]) ∧ Below w.heap.size w w' :=
  (putList_any v xs w hT hr h60).mono fun _ _ ⟨x, _, z⟩ => ⟨x ha, z⟩
theorem putList_no (v : Value) (xs : List Int) (w : World) (hT : Tab w) (hr : Reads w v xs) (h : ¬ (xs.length ≤ 60 ∧ allIn xs 0 1152921504606846975)) :
    Calls Tryd.prog 17 #[v] w fun e w' => e = .returned (.tuple #[.string ⟨#[]⟩, .bool false]) ∧ Below w.heap.size w w' := by
  by_cases h60 : xs.length ≤ 60
  · exact (putList_any v xs w hT hr h60).mono fun _ _ ⟨_, y, z⟩ => ⟨y (fun ha => h ⟨h60, ha⟩), z⟩
  · exact (putList_long v xs w hr h60).mono fun _ _ ⟨x, y⟩ => ⟨x, by rw [y]; exact Below.refl _ _⟩

end Go.Proofs.YthpimklbdabdhaaDoor

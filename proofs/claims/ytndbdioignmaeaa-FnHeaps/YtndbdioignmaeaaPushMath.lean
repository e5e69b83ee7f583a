/-
  What is told of work that comes to a heap or goes from it. Plain functions, no program.
-/
import Derived.Test.YtndbdioignmaeaaHeapLaws
namespace Go.Proofs.Ytndbdioignmaeaa

def pushB (xs : List WkEl) (x : WkEl) : Bool := (goodW xs && heapB xs) && (wkB x && !decide (xs.length = 40))
def pushY (xs : List WkEl) (x : WkEl) : List WkEl := if pushB xs x = true then (upL xs.length (xs ++ [x]) xs.length).1 else []
theorem pushY_no {xs : List WkEl} {x : WkEl} (h : pushB xs x = false) : pushY xs x = [] := by unfold pushY; rw [h]; rfl
theorem pushY_yes {xs : List WkEl} {x : WkEl} (h : pushB xs x = true) : pushY xs x = (upL xs.length (xs ++ [x]) xs.length).1 := by unfold pushY; rw [if_pos h]
theorem pushY_len (xs : List WkEl) (x : WkEl) : (pushY xs x).length ≤ 1048576 := by
  unfold pushY
  split
  · rename_i h
    unfold pushB at h
    simp only [Bool.and_eq_true] at h
    have := goodW_len h.1.1
    rw [upL_len, List.length_append]
    simp
    omega
  · simp
def popB (xs : List WkEl) : Bool := (goodW xs && heapB xs) && !decide (xs.length = 0)
def popY (xs : List WkEl) : List WkEl := if popB xs = true then removeL xs 0 else []
def popX (xs : List WkEl) : WkEl := if popB xs = true then xs.getD 0 wz else wz
theorem popY_no {xs : List WkEl} (h : popB xs = false) : popY xs = [] ∧ popX xs = wz := by unfold popY popX; rw [h]; exact ⟨rfl, rfl⟩
theorem popY_yes {xs : List WkEl} (h : popB xs = true) : popY xs = removeL xs 0 ∧ popX xs = xs.getD 0 wz := by unfold popY popX; rw [if_pos h, if_pos h]; exact ⟨rfl, rfl⟩
theorem popY_len (xs : List WkEl) : (popY xs).length ≤ 1048576 := by
  unfold popY
  split
  · rename_i h
    unfold popB at h
    simp only [Bool.and_eq_true] at h
    have := goodW_len h.1.1
    rw [length_removeL]
    omega
  · simp
def remB (xs : List WkEl) (k : Int) : Bool := (goodW xs && heapB xs) && (decide (0 ≤ k) && decide (k < xs.length))
def remY (xs : List WkEl) (k : Int) : List WkEl := if remB xs k = true then removeL xs k.toNat else []
theorem remY_no {xs : List WkEl} {k : Int} (h : remB xs k = false) : remY xs k = [] := by unfold remY; rw [h]; rfl
theorem remY_yes {xs : List WkEl} {k : Int} (h : remB xs k = true) : remY xs k = removeL xs k.toNat := by unfold remY; rw [if_pos h]
theorem remY_len (xs : List WkEl) (k : Int) : (remY xs k).length ≤ 1048576 := by
  unfold remY
  split
  · rename_i h
    unfold remB at h
    simp only [Bool.and_eq_true] at h
    have := goodW_len h.1.1
    rw [length_removeL]
    omega
  · simp
def sortY (xs : List WkEl) : List WkEl := if goodW xs = true then sortL xs else []
theorem sortY_len (xs : List WkEl) : (sortY xs).length ≤ 1048576 := by
  unfold sortY
  split
  · rename_i h
    have := goodW_len h
    rw [sortL_len]
    omega
  · simp
end Go.Proofs.Ytndbdioignmaeaa

/-
  impl.numbersBelow: the numbers from nought on, in memory of their own. Nothing old is written.
-/
import Derived.Test.YtflhlinkolbbiaeIRows
import Derived.Test.YtflhlinkolbbiaeByMath
namespace Go.Proofs.Ytflhlinkolbbiae
open Go.RowKit

def numsU (n k : Nat) : List Int := (List.range n).map fun i => if i < k then (i : Int) else 0
theorem numsU_zero (n : Nat) : numsU n 0 = List.replicate n 0 := by
  apply List.ext_getElem
  · simp [numsU]
  · intro i h1 h2
    simp [numsU]
theorem numsU_all (n : Nat) : numsU n n = ofN (List.range n) := by
  unfold numsU ofN
  refine List.map_congr_left fun i hi => ?_
  rw [if_pos (List.mem_range.1 hi)]
theorem numsU_succ (n k : Nat) : numsU n (k + 1) = (numsU n k).set k (k : Int) := by
  apply List.ext_getElem
  · simp [numsU]
  · intro i h1 h2
    simp only [numsU, List.getElem_map, List.getElem_range, List.getElem_set]
    by_cases e : k = i
    · subst e; simp
    · rw [if_neg e]
      by_cases hi : i < k
      · rw [if_pos hi, if_pos (by omega)]
      · rw [if_neg hi, if_neg (by omega)]
set_option maxHeartbeats 4000000 in
theorem inums_any (n : Nat) (w : World) (hn : n ≤ 1000) :
    Calls Try.prog 78 #[.int .i64 (n : Nat)] w fun e w' => e = .returned (.slice (some ⟨w.heap.size, 0, none⟩) n n) ∧ IRow w' w.heap.size n n (ofN (List.range n)) ∧ w'.heap.size = w.heap.size + 1 ∧ Below w.heap.size w w' := by
  obtain ⟨i0, hi, hz0, hz1, hz2⟩ := info_parts info_int
  go_enter Try.func78, Try.ntmps78
  go_wp2_with (at_make; refine wpList_make_row _ rfl _ _ 48 rfl 3 i0 (.int .i64 0) Try.underlying48 hi hz0 hz1 rfl .i64 .i64 n rfl rfl (by rw [hz2]; omega) (by omega) ?_)
  have O0 : Hid (IRow (w.alloc (.cells (madeCells #[.int .i64 0] n) 3)) w.heap.size n n (numsU n 0)) := by
    show IRow _ _ _ _ _
    rw [numsU_zero]
    exact IRow.made w _ (by omega)
  go_loopw [9] (fun i wr => ∃ k : Nat, k ≤ n ∧ i = .int .i64 k ∧ IRow wr w.heap.size n n (numsU n k) ∧ wr.heap.size = w.heap.size + 1 ∧ Below w.heap.size w wr) (fun i _ => n - (intOf i).toNat)
  case atStart => exact ⟨0, by omega, rfl, O0.out, by simp, (Below.refl _ _).alloc (Nat.le_refl _) _⟩
  case round =>
    obtain ⟨k, hk, rfl, hown, hsz, hbel⟩ := hrel
    have HO := hid hown
    have HB := hid hbel
    have HZ := hid hsz
    clear hown hbel O0 hsz
    by_cases hlt : k < n
    · have cs : wr.cell? ⟨w.heap.size, k, none⟩ = some (.int .i64 ((numsU n k).getD k 0)) := HO.out.cell hlt
      have fs : wr.frozen? ⟨w.heap.size, k, none⟩ = false := HO.out.free k
      have HN := hid (numsU_succ n k)
      have n0 : (0 : Int) ≤ (k : Int) := by omega
      have n1 : (k : Int) < (n : Int) := by omega
      go_wp2
      go_roundw
      case rel =>
        refine ⟨k + 1, by omega, by go_num, ?_, by simpa using HZ.out, HB.out.setCell (by show w.heap.size ≤ w.heap.size; exact Nat.le_refl _) _⟩
        rw [HN.out]
        exact HO.out.set k _
      case measure => simp [intOf]; omega
    · obtain rfl : k = n := by omega
      have HE : Hid (IRow wr w.heap.size k k (ofN (List.range k))) := by have := HO.out; rw [numsU_all] at this; exact this
      go_wp2
      go_ret
      exact ⟨rfl, HE.out, HZ.out, HB.out⟩
end Go.Proofs.Ytflhlinkolbbiae

/-
  What the functions on the sizes of numbers answer, as contracts: impl.SizeOf, impl.classOfSize (over the table sizeRows as it is laid), spec.l1Number, spec.l1Size, spec.l1Mark. No conditions but the table's eight cells.
-/
import Derived.Test.YthpimklbdabdhaaDoorProg
import Derived.WalkKit
import Derived.Handy
namespace Go.Proofs.YthpimklbdabdhaaDoor
open Go.RowKit

/-- The table's eight cells. -/
def Tab (w : World) : Prop :=
  w.cell? ⟨0, 0, none⟩ = some (.int .i64 1) ∧ w.cell? ⟨0, 1, none⟩ = some (.int .i64 64) ∧ w.cell? ⟨0, 2, none⟩ = some (.int .i64 2) ∧ w.cell? ⟨0, 3, none⟩ = some (.int .i64 16384) ∧
  w.cell? ⟨0, 4, none⟩ = some (.int .i64 4) ∧ w.cell? ⟨0, 5, none⟩ = some (.int .i64 1073741824) ∧ w.cell? ⟨0, 6, none⟩ = some (.int .i64 8) ∧ w.cell? ⟨0, 7, none⟩ = some (.int .i64 1152921504606846976)

theorem Tab.below {B : Nat} {w w' : World} (h : Tab w) (hb : Below B w w') (hB : 0 < B) : Tab w' := by
  obtain ⟨h0, h1, h2, h3, h4, h5, h6, h7⟩ := h
  exact ⟨(hb.cell (p := ⟨0, 0, none⟩) hB).trans h0, (hb.cell (p := ⟨0, 1, none⟩) hB).trans h1, (hb.cell (p := ⟨0, 2, none⟩) hB).trans h2, (hb.cell (p := ⟨0, 3, none⟩) hB).trans h3,
    (hb.cell (p := ⟨0, 4, none⟩) hB).trans h4, (hb.cell (p := ⟨0, 5, none⟩) hB).trans h5, (hb.cell (p := ⟨0, 6, none⟩) hB).trans h6, (hb.cell (p := ⟨0, 7, none⟩) hB).trans h7⟩

theorem Tab.lt {w : World} (h : Tab w) : 0 < w.heap.size := by
  have h0 := h.1
  by_cases hz : 0 < w.heap.size
  · exact hz
  · exfalso
    have : w.heap[0]? = none := Array.getElem?_eq_none (by omega)
    simp [World.cell?, this] at h0

/-- The size of a number of the document. -/
def szI (n : Int) : Int := if n < 64 then 1 else if n < 16384 then 2 else if n < 1073741824 then 4 else 8

/-- impl.SizeOf, a number. -/
theorem size_yes (n : Int) (w : World) (hT : Tab w) (h0 : 0 ≤ n) (h1 : n ≤ 1152921504606846975) :
    Calls Tryd.prog 8 #[.int .i64 n] w fun e w' => e = .returned (.tuple #[.int .i64 (szI n), .bool true]) ∧ w' = w := by
  obtain ⟨t0, t1, t2, t3, t4, t5, t6, t7⟩ := hT
  have hs : szI n = if n < 64 then 1 else if n < 16384 then 2 else if n < 1073741824 then 4 else 8 := rfl
  rcases (by omega : n < 64 ∨ (¬ n < 64 ∧ n < 16384) ∨ (¬ n < 64 ∧ ¬ n < 16384 ∧ n < 1073741824) ∨ (¬ n < 64 ∧ ¬ n < 16384 ∧ ¬ n < 1073741824 ∧ n < 1152921504606846976)) with a | ⟨a, b⟩ | ⟨a, b, c⟩ | ⟨a, b, c, d⟩
  · have hz : szI n = 1 := by rw [hs, if_pos a]
    rw [hz]; clear hs hz
    go_enter Tryd.func8, Tryd.ntmps8
    go_wp2
    go_rounds 4
    all_goals (go_ret2; exact ⟨rfl, rfl⟩)
  · have hz : szI n = 2 := by rw [hs, if_neg a, if_pos b]
    rw [hz]; clear hs hz
    go_enter Tryd.func8, Tryd.ntmps8
    go_wp2
    go_rounds 4
    all_goals (go_ret2; exact ⟨rfl, rfl⟩)
  · have hz : szI n = 4 := by rw [hs, if_neg a, if_neg b, if_pos c]
    rw [hz]; clear hs hz
    go_enter Tryd.func8, Tryd.ntmps8
    go_wp2
    go_rounds 4
    all_goals (go_ret2; exact ⟨rfl, rfl⟩)
  · have hz : szI n = 8 := by rw [hs, if_neg a, if_neg b, if_neg c]
    rw [hz]; clear hs hz
    go_enter Tryd.func8, Tryd.ntmps8
    go_wp2
    go_rounds 4
    all_goals (go_ret2; exact ⟨rfl, rfl⟩)

/-- impl.SizeOf, no number. -/
theorem size_no (n : Int) (w : World) (hT : Tab w) (h : n < 0 ∨ 1152921504606846975 < n) :
    Calls Tryd.prog 8 #[.int .i64 n] w fun e w' => e = .returned (.tuple #[.int .i64 0, .bool false]) ∧ w' = w := by
  obtain ⟨t0, t1, t2, t3, t4, t5, t6, t7⟩ := hT
  rcases h with h | h
  · go_enter Tryd.func8, Tryd.ntmps8
    go_wp2
    go_ret2; exact ⟨rfl, rfl⟩
  · have a : ¬ n < 64 := by omega
    have b : ¬ n < 16384 := by omega
    have c : ¬ n < 1073741824 := by omega
    have d : ¬ n < 1152921504606846976 := by omega
    have f : ¬ n < 0 := by omega
    clear h
    go_enter Tryd.func8, Tryd.ntmps8
    go_wp2
    go_rounds 5
    all_goals (go_ret2; exact ⟨rfl, rfl⟩)

/-- Is it one of the four sizes? -/
def isSz (k : Int) : Bool := k == 1 || k == 2 || k == 4 || k == 8
/-- Its class. -/
def clI (k : Int) : Int := if k = 1 then 0 else if k = 2 then 1 else if k = 4 then 2 else 3

/-- impl.classOfSize, a size. -/
theorem class_yes (k : Int) (w : World) (hT : Tab w) (h : k = 1 ∨ k = 2 ∨ k = 4 ∨ k = 8) :
    Calls Tryd.prog 35 #[.int .i64 k] w fun e w' => e = .returned (.tuple #[.int .i64 (clI k), .bool true]) ∧ w' = w := by
  obtain ⟨t0, t1, t2, t3, t4, t5, t6, t7⟩ := hT
  rcases h with rfl | rfl | rfl | rfl
  all_goals
    go_enter Tryd.func35, Tryd.ntmps35
    go_wp2
    go_rounds 4
    all_goals (go_ret2; exact ⟨rfl, rfl⟩)

/-- impl.classOfSize, no size. -/
theorem class_no (k : Int) (w : World) (hT : Tab w) (h : ¬ (k = 1 ∨ k = 2 ∨ k = 4 ∨ k = 8)) :
    Calls Tryd.prog 35 #[.int .i64 k] w fun e w' => e = .returned (.tuple #[.int .i64 0, .bool false]) ∧ w' = w := by
  obtain ⟨t0, t1, t2, t3, t4, t5, t6, t7⟩ := hT
  have a : ((1 : Int) == k) = false := by rw [beq_eq_false_iff_ne]; omega
  have b : ((2 : Int) == k) = false := by rw [beq_eq_false_iff_ne]; omega
  have c : ((4 : Int) == k) = false := by rw [beq_eq_false_iff_ne]; omega
  have d : ((8 : Int) == k) = false := by rw [beq_eq_false_iff_ne]; omega
  clear h
  go_enter Tryd.func35, Tryd.ntmps35
  go_wp2
  go_rounds 5
  all_goals (go_ret2; exact ⟨rfl, rfl⟩)

/-- spec.l1Number. -/
theorem number_yes (n : Int) (w : World) (h0 : 0 ≤ n) (h1 : n ≤ 1152921504606846975) :
    Calls Tryd.prog 30 #[.int .i64 n] w fun e w' => e = .returned (.bool true) ∧ w' = w := by
  go_enter Tryd.func30, Tryd.ntmps30
  go_wp2
  go_ret; exact ⟨rfl, rfl⟩
theorem number_no (n : Int) (w : World) (h : n < 0 ∨ 1152921504606846975 < n) :
    Calls Tryd.prog 30 #[.int .i64 n] w fun e w' => e = .returned (.bool false) ∧ w' = w := by
  rcases h with h | h
  · go_enter Tryd.func30, Tryd.ntmps30
    go_wp2
    go_ret; exact ⟨rfl, rfl⟩
  · have h0 : 0 ≤ n := by omega
    have h1 : ¬ n ≤ 1152921504606846975 := by omega
    clear h
    go_enter Tryd.func30, Tryd.ntmps30
    go_wp2
    go_ret; exact ⟨rfl, rfl⟩

/-- spec.l1Size. -/
theorem l1Size_any (n : Int) (w : World) :
    Calls Tryd.prog 32 #[.int .i64 n] w fun e w' => e = .returned (.int .i64 (szI n)) ∧ w' = w := by
  have hs : szI n = if n < 64 then 1 else if n < 16384 then 2 else if n < 1073741824 then 4 else 8 := rfl
  rcases (by omega : n < 64 ∨ (¬ n < 64 ∧ n < 16384) ∨ (¬ n < 64 ∧ ¬ n < 16384 ∧ n < 1073741824) ∨ (¬ n < 64 ∧ ¬ n < 16384 ∧ ¬ n < 1073741824)) with a | ⟨a, b⟩ | ⟨a, b, c⟩ | ⟨a, b, c⟩
  · have hz : szI n = 1 := by rw [hs, if_pos a]
    rw [hz]; clear hs hz
    go_enter Tryd.func32, Tryd.ntmps32
    go_wp2
    go_ret; exact ⟨rfl, rfl⟩
  · have hz : szI n = 2 := by rw [hs, if_neg a, if_pos b]
    rw [hz]; clear hs hz
    go_enter Tryd.func32, Tryd.ntmps32
    go_wp2
    go_ret; exact ⟨rfl, rfl⟩
  · have hz : szI n = 4 := by rw [hs, if_neg a, if_neg b, if_pos c]
    rw [hz]; clear hs hz
    go_enter Tryd.func32, Tryd.ntmps32
    go_wp2
    go_ret; exact ⟨rfl, rfl⟩
  · have hz : szI n = 8 := by rw [hs, if_neg a, if_neg b, if_neg c]
    rw [hz]; clear hs hz
    go_enter Tryd.func32, Tryd.ntmps32
    go_wp2
    go_ret; exact ⟨rfl, rfl⟩

/-- spec.l1Mark. -/
def mkI (k : Int) : Int := if k = 2 then 64 else if k = 4 then 128 else if k = 8 then 192 else 0
theorem mark_any (k : Int) (w : World) (h : k = 1 ∨ k = 2 ∨ k = 4 ∨ k = 8) :
    Calls Tryd.prog 50 #[.int .i64 k] w fun e w' => e = .returned (.int .i64 (mkI k)) ∧ w' = w := by
  rcases h with rfl | rfl | rfl | rfl
  all_goals
    go_enter Tryd.func50, Tryd.ntmps50
    go_wp2
    go_ret; exact ⟨rfl, rfl⟩
end Go.Proofs.YthpimklbdabdhaaDoor

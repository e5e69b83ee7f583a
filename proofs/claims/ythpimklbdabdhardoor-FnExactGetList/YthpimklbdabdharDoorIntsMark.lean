/-
  laws.markIntS writes k, k + 1, .. into a slice of its own; laws.heldIntS finds them there; nothing else is written.
-/
import Derived.Test.YthpimklbdabdharDoorInts
namespace Go.Proofs.YthpimklbdabdharDoor
open Go.RowKit

/-- n numbers from k on. -/
def marks (k : Int) (n : Nat) : List Int := (List.range n).map fun (i : Nat) => k + (i : Int)
/-- The first j marked, the rest as it was. -/
def marked (xs : List Int) (k : Int) (j : Nat) : List Int := marks k j ++ xs.drop j
theorem length_marks (k : Int) (n : Nat) : (marks k n).length = n := by simp [marks]
theorem marks_get (k : Int) (n i : Nat) (h : i < n) : (marks k n).getD i 0 = k + i := by simp [marks, List.getD_eq_getElem?_getD, h]
theorem length_marked (xs : List Int) (k : Int) (j : Nat) (h : j ≤ xs.length) : (marked xs k j).length = xs.length := by simp [marked, length_marks]; omega
theorem marked_zero (xs : List Int) (k : Int) : marked xs k 0 = xs := by simp [marked, marks]
theorem marked_all (xs : List Int) (k : Int) : marked xs k xs.length = marks k xs.length := by simp [marked]
theorem marked_step (xs : List Int) (k : Int) (j : Nat) (h : j < xs.length) : (marked xs k j).set j (k + j) = marked xs k (j + 1) := by
  have e : xs.drop j = xs[j] :: xs.drop (j + 1) := List.drop_eq_getElem_cons h
  unfold marked
  rw [e, List.set_append_right _ _ (by simp [length_marks])]
  simp [marks, List.range_succ]
  rw [e]
  rfl

set_option maxHeartbeats 1000000 in
theorem markIntS_any (base : Nat) (v : Value) (xs : List Int) (k : Int) (w : World) (ho : Own base w v xs) (h0 : 0 ≤ k) (h1 : k ≤ 1152921504606846975) :
    Calls Tryd.prog 19 #[v, .int .i64 k] w fun e w' => e = .returned (.int .i64 (k + xs.length)) ∧ Own base w' v (marks k xs.length) ∧ Below base w w' := by
  have hl := ho.1
  rcases (show v = .slice none 0 0 ∧ xs = [] ∨ ∃ g cap, v = .slice (some ⟨g, 0, none⟩) xs.length cap from by
    rcases ho.2 with h | ⟨g, cap, f, h, _⟩
    · exact .inl h
    · exact .inr ⟨g, cap, h⟩) with ⟨rfl, rfl⟩ | ⟨g, cap, rfl⟩
  · go_enter Tryd.func19, Tryd.ntmps19
    go_wp2
    go_rounds 1
    all_goals (go_ret; exact ⟨by simp, ho, Below.refl _ _⟩)
  have HO : Hid (Own base w (.slice (some ⟨g, 0, none⟩) xs.length cap) xs) := ho
  clear ho
  go_enter Tryd.func19, Tryd.ntmps19
  go_wp2
  go_loopw [1, 5] (fun m i wr => ∃ j : Nat, j ≤ xs.length ∧ i = .int .i64 j ∧ m = .int .i64 (k + j) ∧ Own base wr (.slice (some ⟨g, 0, none⟩) xs.length cap) (marked xs k j) ∧ Below base w wr) (fun _ i _ => xs.length - (intOf i).toNat)
  case atStart => exact ⟨0, Nat.zero_le _, rfl, by simp, by rw [marked_zero]; exact HO.out, Below.refl _ _⟩
  case round =>
    obtain ⟨j, hj, rfl, rfl, hown, hbel⟩ := hrel
    by_cases hlt : j < xs.length
    · have hl2 := length_marked xs k j hj
      have hset := Own.set (xs := marked xs k j) (by rw [hl2]; exact hown) j (k + j) (by omega)
      rw [marked_step xs k j hlt, hl2] at hset
      obtain ⟨hown2, hgb, hfz, hcl⟩ := hset
      have HO2 : Hid (Own base (wr.setCell ⟨g, j, none⟩ (.int .i64 (k + j))) (.slice (some ⟨g, 0, none⟩) xs.length cap) (marked xs k (j + 1))) := hown2
      have HB : Hid (Below base w wr) := hbel
      clear hown hown2 hl2 hbel
      generalize (marked xs k j).getD j 0 = y at hcl
      go_wp2
      go_roundw
      case rel => exact ⟨j + 1, by omega, by go_num, by go_num, HO2.out, HB.out.setCell hgb _⟩
      case measure => simp [intOf]; omega
    · obtain rfl : j = xs.length := by omega
      rw [marked_all] at hown
      go_wp2
      go_ret
      exact ⟨rfl, hown, hbel⟩

set_option maxHeartbeats 1000000 in
theorem heldIntS_any (v : Value) (n : Nat) (k : Int) (w : World) (hr : Reads w v (marks k n)) (h0 : 0 ≤ k) (h1 : k ≤ 1152921504606846975) :
    Calls Tryd.prog 20 #[v, .int .i64 k] w fun e w' => e = .returned (.int .i64 (k + n)) ∧ w' = w := by
  obtain ⟨a, cap, rfl, hl, hx⟩ := hr
  rw [length_marks] at hl hx ⊢
  rcases hx with hx | ⟨b, off, rfl, hc⟩
  · have hn : n = 0 := by have := length_marks k n; rw [hx] at this; simpa using this.symm
    subst hn
    clear hx
    go_enter Tryd.func20, Tryd.ntmps20
    go_wp2
    go_rounds 1
    all_goals (go_ret; exact ⟨by simp, rfl⟩)
  have HC : Hid (∀ i, i < n → w.cell? ⟨b, off + i, none⟩ = some (.int .i64 (k + i))) := fun i hi => by rw [hc i hi, marks_get k n i hi]
  clear hc
  go_enter Tryd.func20, Tryd.ntmps20
  go_wp2
  go_loopw [1, 5] (fun m i wr => ∃ j : Nat, j ≤ n ∧ i = .int .i64 j ∧ m = .int .i64 (k + j) ∧ w = wr) (fun _ i _ => n - (intOf i).toNat)
  case atStart => exact ⟨0, Nat.zero_le _, rfl, by simp, rfl⟩
  case round =>
    obtain ⟨j, hj, rfl, rfl, rfl⟩ := hrel
    by_cases hlt : j < n
    · have h2 := HC.out j hlt
      go_wp2
      go_roundw
      case rel => exact ⟨j + 1, by omega, by go_num, by go_num, trivial⟩
      case measure => simp [intOf]; omega
    · obtain rfl : j = n := by omega
      go_wp2
      go_ret
      exact ⟨rfl, rfl⟩
end Go.Proofs.YthpimklbdabdharDoor

/-
  laws.markWayS writes k, k + 1, .. into ones of its own; laws.heldWayS finds them there; nothing else is written.
-/
import Derived.Test.YtflhlinkolbbiamKWayRows
namespace Go.Proofs.Ytflhlinkolbbiam
open Go.RowKit

def wymarks (k : Int) (n : Nat) : List WyEl := (List.range n).map fun (i : Nat) => (k + (2 * i : Nat), k + (2 * i + 1 : Nat))
def wymarked (xs : List WyEl) (k : Int) (j : Nat) : List WyEl := wymarks k j ++ xs.drop j
theorem length_wymarks (k : Int) (n : Nat) : (wymarks k n).length = n := by simp [wymarks]
theorem wymarks_get (k : Int) (n i : Nat) (h : i < n) : (wymarks k n).getD i (0, 0) = (k + (2 * i : Nat), k + (2 * i + 1 : Nat)) := by simp [wymarks, List.getD_eq_getElem?_getD, h]
theorem length_wymarked (xs : List WyEl) (k : Int) (j : Nat) (h : j ≤ xs.length) : (wymarked xs k j).length = xs.length := by simp [wymarked, length_wymarks]; omega
theorem wymarked_zero (xs : List WyEl) (k : Int) : wymarked xs k 0 = xs := by simp [wymarked, wymarks]
theorem wymarked_all (xs : List WyEl) (k : Int) : wymarked xs k xs.length = wymarks k xs.length := by simp [wymarked]
theorem wymarked_step (xs : List WyEl) (k : Int) (i : Nat) (h : i < xs.length) : (wymarked xs k i).set i (k + (2 * i : Nat), k + (2 * i + 1 : Nat)) = wymarked xs k (i + 1) := by
  have e : xs.drop i = xs[i] :: xs.drop (i + 1) := List.drop_eq_getElem_cons h
  unfold wymarked
  rw [e, List.set_append_right _ _ (by simp [length_wymarks])]
  have : wymarks k (i + 1) = wymarks k i ++ [(k + (2 * i : Nat), k + (2 * i + 1 : Nat))] := by simp [wymarks, List.range_succ]
  simp only [length_wymarks, Nat.sub_self, List.set_cons_zero]
  rw [this, List.append_assoc]
  rfl

set_option maxHeartbeats 1000000 in
theorem markWayS_any (lo hi : Nat) (v : Value) (xs : List WyEl) (k m : Int) (w : World) (ho : WyOwn lo hi w v xs) (hx : xs.length ≤ 1048576) (h0 : 0 ≤ k) (h1 : k ≤ 1152921504606846975) (hm : m = k + (2 * xs.length : Nat)) :
    Calls Try.prog 21 #[v, .int .i64 k] w fun e w' => e = .returned (.int .i64 m) ∧ WyOwn lo hi w' v (wymarks k xs.length) ∧ Below lo w w' ∧ Only lo hi w w' := by
  subst hm
  rcases (show (∃ a cap, v = .slice a 0 cap ∧ xs = []) ∨ ∃ g cap, v = .slice (some ⟨g, 0, none⟩) xs.length cap from by
    rcases ho.2 with h | ⟨g, cap, h, _⟩
    · exact .inl h
    · exact .inr ⟨g, cap, h⟩) with ⟨a, cap, rfl, rfl⟩ | ⟨g, cap, rfl⟩
  · go_enter Try.func21, Try.ntmps21
    go_wp2
    go_rounds 1
    all_goals (go_ret; exact ⟨by simp, ho, Below.refl _ _, Only.refl _ _ _⟩)
  have HO := hid ho
  clear ho
  go_enter Try.func21, Try.ntmps21
  go_wp2
  go_loopw [1, 5] (fun m i wr => ∃ j : Nat, j ≤ xs.length ∧ i = .int .i64 j ∧ m = .int .i64 (k + (2 * j : Nat)) ∧ WyOwn lo hi wr (.slice (some ⟨g, 0, none⟩) xs.length cap) (wymarked xs k j) ∧ Below lo w wr ∧ Only lo hi w wr) (fun _ i _ => xs.length - (intOf i).toNat)
  case atStart => exact ⟨0, Nat.zero_le _, rfl, by simp, by rw [wymarked_zero]; exact HO.out, Below.refl _ _, Only.refl _ _ _⟩
  case round =>
    obtain ⟨j, hj, rfl, rfl, hown, hbel, hoth⟩ := hrel
    by_cases hlt : j < xs.length
    · have hl2 := length_wymarked xs k j hj
      have hset := WyOwn.set (xs := wymarked xs k j) (by rw [hl2]; exact hown) j (k + (2 * j : Nat), k + (2 * j + 1 : Nat)) (by omega)
      rw [wymarked_step xs k j hlt, hl2] at hset
      obtain ⟨hown2, hgb, ⟨f0, f1⟩, c0, c1⟩ := hset
      have HO2 := hid hown2
      have HB := hid hbel
      have HT := hid hoth
      clear hown hown2 hl2 hbel hoth
      generalize ((wymarked xs k j).getD j (0, 0)).1 = y0 at c0
      generalize ((wymarked xs k j).getD j (0, 0)).2 = y1 at c1
      go_wp2
      go_roundw
      case rel =>
        refine ⟨j + 1, by omega, by go_num, by go_num, ?_, (HB.out.setCell hgb.1 _).setCell hgb.1 _, (HT.out.setCell hgb.1 hgb.2 _).setCell hgb.1 hgb.2 _⟩
        have := HO2.out
        have e1 : k + (2 * j + 1 : Nat) = k + (2 * j : Nat) + 1 := by omega
        simp only [e1] at this
        exact this
      case measure => simp [intOf]; omega
    · obtain rfl : j = xs.length := by omega
      rw [wymarked_all] at hown
      go_wp2
      go_ret
      exact ⟨rfl, hown, hbel, hoth⟩

end Go.Proofs.Ytflhlinkolbbiam

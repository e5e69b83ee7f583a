/-
  laws.markHelloS writes k, k + 1, .. into ones of its own; laws.heldHelloS finds them there; nothing else is written.
-/
import Derived.Test.YtbpbhbflfhfcfaaKHelloRows
namespace Go.Proofs.Ytbpbhbflfhfcfaa
open Go.RowKit

def hemarks (k : Int) (n : Nat) : List HeEl := (List.range n).map fun (i : Nat) => (k + (3 * i : Nat), k + (3 * i + 1 : Nat), k + (3 * i + 2 : Nat))
def hemarked (xs : List HeEl) (k : Int) (j : Nat) : List HeEl := hemarks k j ++ xs.drop j
theorem length_hemarks (k : Int) (n : Nat) : (hemarks k n).length = n := by simp [hemarks]
theorem hemarks_get (k : Int) (n i : Nat) (h : i < n) : (hemarks k n).getD i (0, 0, 0) = (k + (3 * i : Nat), k + (3 * i + 1 : Nat), k + (3 * i + 2 : Nat)) := by simp [hemarks, List.getD_eq_getElem?_getD, h]
theorem length_hemarked (xs : List HeEl) (k : Int) (j : Nat) (h : j ≤ xs.length) : (hemarked xs k j).length = xs.length := by simp [hemarked, length_hemarks]; omega
theorem hemarked_zero (xs : List HeEl) (k : Int) : hemarked xs k 0 = xs := by simp [hemarked, hemarks]
theorem hemarked_all (xs : List HeEl) (k : Int) : hemarked xs k xs.length = hemarks k xs.length := by simp [hemarked]
theorem hemarked_step (xs : List HeEl) (k : Int) (i : Nat) (h : i < xs.length) : (hemarked xs k i).set i (k + (3 * i : Nat), k + (3 * i + 1 : Nat), k + (3 * i + 2 : Nat)) = hemarked xs k (i + 1) := by
  have e : xs.drop i = xs[i] :: xs.drop (i + 1) := List.drop_eq_getElem_cons h
  unfold hemarked
  rw [e, List.set_append_right _ _ (by simp [length_hemarks])]
  have : hemarks k (i + 1) = hemarks k i ++ [(k + (3 * i : Nat), k + (3 * i + 1 : Nat), k + (3 * i + 2 : Nat))] := by simp [hemarks, List.range_succ]
  simp only [length_hemarks, Nat.sub_self, List.set_cons_zero]
  rw [this, List.append_assoc]
  rfl

set_option maxHeartbeats 1000000 in
theorem markHelloS_any (lo hi : Nat) (v : Value) (xs : List HeEl) (k m : Int) (w : World) (ho : HeOwn lo hi w v xs) (hx : xs.length ≤ 1048576) (h0 : 0 ≤ k) (h1 : k ≤ 1152921504606846975) (hm : m = k + (3 * xs.length : Nat)) :
    Calls Try.prog 79 #[v, .int .i64 k] w fun e w' => e = .returned (.int .i64 m) ∧ HeOwn lo hi w' v (hemarks k xs.length) ∧ Below lo w w' ∧ Only lo hi w w' := by
  subst hm
  rcases (show (∃ a cap, v = .slice a 0 cap ∧ xs = []) ∨ ∃ g cap, v = .slice (some ⟨g, 0, none⟩) xs.length cap from by
    rcases ho.2 with h | ⟨g, cap, h, _⟩
    · exact .inl h
    · exact .inr ⟨g, cap, h⟩) with ⟨a, cap, rfl, rfl⟩ | ⟨g, cap, rfl⟩
  · go_enter Try.func79, Try.ntmps79
    go_wp2
    go_rounds 1
    all_goals (go_ret; exact ⟨by simp, ho, Below.refl _ _, Only.refl _ _ _⟩)
  have HO := hid ho
  clear ho
  go_enter Try.func79, Try.ntmps79
  go_wp2
  go_loopw [1, 5] (fun m i wr => ∃ j : Nat, j ≤ xs.length ∧ i = .int .i64 j ∧ m = .int .i64 (k + (3 * j : Nat)) ∧ HeOwn lo hi wr (.slice (some ⟨g, 0, none⟩) xs.length cap) (hemarked xs k j) ∧ Below lo w wr ∧ Only lo hi w wr) (fun _ i _ => xs.length - (intOf i).toNat)
  case atStart => exact ⟨0, Nat.zero_le _, rfl, by simp, by rw [hemarked_zero]; exact HO.out, Below.refl _ _, Only.refl _ _ _⟩
  case round =>
    obtain ⟨j, hj, rfl, rfl, hown, hbel, hoth⟩ := hrel
    by_cases hlt : j < xs.length
    · have hl2 := length_hemarked xs k j hj
      have hset := HeOwn.set (xs := hemarked xs k j) (by rw [hl2]; exact hown) j (k + (3 * j : Nat), k + (3 * j + 1 : Nat), k + (3 * j + 2 : Nat)) (by omega)
      rw [hemarked_step xs k j hlt, hl2] at hset
      obtain ⟨hown2, hgb, ⟨f0, f1, f2⟩, c0, c1, c2⟩ := hset
      have HO2 := hid hown2
      have HB := hid hbel
      have HT := hid hoth
      clear hown hown2 hl2 hbel hoth
      generalize ((hemarked xs k j).getD j (0, 0, 0)).1 = y0 at c0
      generalize ((hemarked xs k j).getD j (0, 0, 0)).2.1 = y1 at c1
      generalize ((hemarked xs k j).getD j (0, 0, 0)).2.2 = y2 at c2
      go_wp2
      go_roundw
      case rel =>
        refine ⟨j + 1, by omega, by go_num, by go_num, ?_, ((HB.out.setCell hgb.1 _).setCell hgb.1 _).setCell hgb.1 _, ((HT.out.setCell hgb.1 hgb.2 _).setCell hgb.1 hgb.2 _).setCell hgb.1 hgb.2 _⟩
        have := HO2.out
        have e1 : k + (3 * j + 1 : Nat) = k + (3 * j : Nat) + 1 := by omega
        have e2 : k + (3 * j + 2 : Nat) = k + (3 * j : Nat) + 1 + 1 := by omega
        simp only [e1, e2] at this
        exact this
      case measure => simp [intOf]; omega
    · obtain rfl : j = xs.length := by omega
      rw [hemarked_all] at hown
      go_wp2
      go_ret
      exact ⟨rfl, hown, hbel, hoth⟩

end Go.Proofs.Ytbpbhbflfhfcfaa

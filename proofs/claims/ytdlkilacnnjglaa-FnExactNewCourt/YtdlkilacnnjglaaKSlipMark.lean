/-
  laws.markSlipS writes k, k + 1, .. into ones of its own; laws.heldSlipS finds them there; nothing else is written.
-/
import Derived.Test.YtdlkilacnnjglaaKSlipRows
namespace Go.Proofs.Ytdlkilacnnjglaa
open Go.RowKit

def slmarks (k : Int) (n : Nat) : List SlEl := (List.range n).map fun (i : Nat) => (k + (3 * i : Nat), k + (3 * i + 1 : Nat), k + (3 * i + 2 : Nat))
def slmarked (xs : List SlEl) (k : Int) (j : Nat) : List SlEl := slmarks k j ++ xs.drop j
theorem length_slmarks (k : Int) (n : Nat) : (slmarks k n).length = n := by simp [slmarks]
theorem slmarks_get (k : Int) (n i : Nat) (h : i < n) : (slmarks k n).getD i (0, 0, 0) = (k + (3 * i : Nat), k + (3 * i + 1 : Nat), k + (3 * i + 2 : Nat)) := by simp [slmarks, List.getD_eq_getElem?_getD, h]
theorem length_slmarked (xs : List SlEl) (k : Int) (j : Nat) (h : j ≤ xs.length) : (slmarked xs k j).length = xs.length := by simp [slmarked, length_slmarks]; omega
theorem slmarked_zero (xs : List SlEl) (k : Int) : slmarked xs k 0 = xs := by simp [slmarked, slmarks]
theorem slmarked_all (xs : List SlEl) (k : Int) : slmarked xs k xs.length = slmarks k xs.length := by simp [slmarked]
theorem slmarked_step (xs : List SlEl) (k : Int) (i : Nat) (h : i < xs.length) : (slmarked xs k i).set i (k + (3 * i : Nat), k + (3 * i + 1 : Nat), k + (3 * i + 2 : Nat)) = slmarked xs k (i + 1) := by
  have e : xs.drop i = xs[i] :: xs.drop (i + 1) := List.drop_eq_getElem_cons h
  unfold slmarked
  rw [e, List.set_append_right _ _ (by simp [length_slmarks])]
  have : slmarks k (i + 1) = slmarks k i ++ [(k + (3 * i : Nat), k + (3 * i + 1 : Nat), k + (3 * i + 2 : Nat))] := by simp [slmarks, List.range_succ]
  simp only [length_slmarks, Nat.sub_self, List.set_cons_zero]
  rw [this, List.append_assoc]
  rfl

set_option maxHeartbeats 1000000 in
theorem markSlipS_any (lo hi : Nat) (v : Value) (xs : List SlEl) (k m : Int) (w : World) (ho : SlOwn lo hi w v xs) (hx : xs.length ≤ 1048576) (h0 : 0 ≤ k) (h1 : k ≤ 1152921504606846975) (hm : m = k + (3 * xs.length : Nat)) :
    Calls Try.prog 45 #[v, .int .i64 k] w fun e w' => e = .returned (.int .i64 m) ∧ SlOwn lo hi w' v (slmarks k xs.length) ∧ Below lo w w' ∧ Only lo hi w w' := by
  subst hm
  rcases (show (∃ a cap, v = .slice a 0 cap ∧ xs = []) ∨ ∃ g cap, v = .slice (some ⟨g, 0, none⟩) xs.length cap from by
    rcases ho.2 with h | ⟨g, cap, h, _⟩
    · exact .inl h
    · exact .inr ⟨g, cap, h⟩) with ⟨a, cap, rfl, rfl⟩ | ⟨g, cap, rfl⟩
  · go_enter Try.func45, Try.ntmps45
    go_wp2
    go_rounds 1
    all_goals (go_ret; exact ⟨by simp, ho, Below.refl _ _, Only.refl _ _ _⟩)
  have HO := hid ho
  clear ho
  go_enter Try.func45, Try.ntmps45
  go_wp2
  go_loopw [1, 5] (fun m i wr => ∃ j : Nat, j ≤ xs.length ∧ i = .int .i64 j ∧ m = .int .i64 (k + (3 * j : Nat)) ∧ SlOwn lo hi wr (.slice (some ⟨g, 0, none⟩) xs.length cap) (slmarked xs k j) ∧ Below lo w wr ∧ Only lo hi w wr) (fun _ i _ => xs.length - (intOf i).toNat)
  case atStart => exact ⟨0, Nat.zero_le _, rfl, by simp, by rw [slmarked_zero]; exact HO.out, Below.refl _ _, Only.refl _ _ _⟩
  case round =>
    obtain ⟨j, hj, rfl, rfl, hown, hbel, hoth⟩ := hrel
    by_cases hlt : j < xs.length
    · have hl2 := length_slmarked xs k j hj
      have hset := SlOwn.set (xs := slmarked xs k j) (by rw [hl2]; exact hown) j (k + (3 * j : Nat), k + (3 * j + 1 : Nat), k + (3 * j + 2 : Nat)) (by omega)
      rw [slmarked_step xs k j hlt, hl2] at hset
      obtain ⟨hown2, hgb, ⟨f0, f1, f2⟩, c0, c1, c2⟩ := hset
      have HO2 := hid hown2
      have HB := hid hbel
      have HT := hid hoth
      clear hown hown2 hl2 hbel hoth
      generalize ((slmarked xs k j).getD j (0, 0, 0)).1 = y0 at c0
      generalize ((slmarked xs k j).getD j (0, 0, 0)).2.1 = y1 at c1
      generalize ((slmarked xs k j).getD j (0, 0, 0)).2.2 = y2 at c2
      go_wp2
      go_roundw
      case rel =>
        refine ⟨j + 1, by omega, by go_num, by go_num, ?_, ((HB.out.setCell hgb.1 _).setCell hgb.1 _).setCell hgb.1 _, ((HT.out.setCell hgb.1 hgb.2 _).setCell hgb.1 hgb.2 _).setCell hgb.1 hgb.2 _⟩
        have := HO2.out
        have e1 : k + (3 * j + 1 : Nat) = k + (3 * j : Nat) + 1 := by omega
        have e2 : k + (3 * j + 2 : Nat) = k + (3 * j : Nat) + 1 + 1 := by omega
        simp only [e1, e2] at this
        exact this
      case measure => simp [intOf]; omega
    · obtain rfl : j = xs.length := by omega
      rw [slmarked_all] at hown
      go_wp2
      go_ret
      exact ⟨rfl, hown, hbel, hoth⟩

end Go.Proofs.Ytdlkilacnnjglaa

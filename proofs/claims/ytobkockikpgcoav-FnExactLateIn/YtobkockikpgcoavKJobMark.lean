/-
  laws.markJobS writes k, k + 1, .. into ones of its own; nothing else is written.
-/
import Derived.Test.YtobkockikpgcoavKJobRows
namespace Go.Proofs.Ytobkockikpgcoav
open Go.RowKit

def jbmarks (k : Int) (n : Nat) : List JbEl := (List.range n).map fun (i : Nat) => (k + (3 * i : Nat), k + (3 * i + 1 : Nat), k + (3 * i + 2 : Nat))
def jbmarked (xs : List JbEl) (k : Int) (j : Nat) : List JbEl := jbmarks k j ++ xs.drop j
theorem length_jbmarks (k : Int) (n : Nat) : (jbmarks k n).length = n := by simp [jbmarks]
theorem jbmarks_get (k : Int) (n i : Nat) (h : i < n) : (jbmarks k n).getD i (0, 0, 0) = (k + (3 * i : Nat), k + (3 * i + 1 : Nat), k + (3 * i + 2 : Nat)) := by simp [jbmarks, List.getD_eq_getElem?_getD, h]
theorem length_jbmarked (xs : List JbEl) (k : Int) (j : Nat) (h : j ≤ xs.length) : (jbmarked xs k j).length = xs.length := by simp [jbmarked, length_jbmarks]; omega
theorem jbmarked_zero (xs : List JbEl) (k : Int) : jbmarked xs k 0 = xs := by simp [jbmarked, jbmarks]
theorem jbmarked_all (xs : List JbEl) (k : Int) : jbmarked xs k xs.length = jbmarks k xs.length := by simp [jbmarked]
theorem jbmarked_step (xs : List JbEl) (k : Int) (i : Nat) (h : i < xs.length) : (jbmarked xs k i).set i (k + (3 * i : Nat), k + (3 * i + 1 : Nat), k + (3 * i + 2 : Nat)) = jbmarked xs k (i + 1) := by
  have e : xs.drop i = xs[i] :: xs.drop (i + 1) := List.drop_eq_getElem_cons h
  unfold jbmarked
  rw [e, List.set_append_right _ _ (by simp [length_jbmarks])]
  have : jbmarks k (i + 1) = jbmarks k i ++ [(k + (3 * i : Nat), k + (3 * i + 1 : Nat), k + (3 * i + 2 : Nat))] := by simp [jbmarks, List.range_succ]
  simp only [length_jbmarks, Nat.sub_self, List.set_cons_zero]
  rw [this, List.append_assoc]
  rfl

set_option maxHeartbeats 1000000 in
theorem markJobS_any (lo hi : Nat) (v : Value) (xs : List JbEl) (k m : Int) (w : World) (ho : JbOwn lo hi w v xs) (hx : xs.length ≤ 1048576) (h0 : 0 ≤ k) (h1 : k ≤ 1152921504606846975) (hm : m = k + (3 * xs.length : Nat)) :
    Calls Try.prog 14 #[v, .int .i64 k] w fun e w' => e = .returned (.int .i64 m) ∧ JbOwn lo hi w' v (jbmarks k xs.length) ∧ Below lo w w' ∧ Only lo hi w w' := by
  subst hm
  rcases (show (∃ a cap, v = .slice a 0 cap ∧ xs = []) ∨ ∃ g cap, v = .slice (some ⟨g, 0, none⟩) xs.length cap from by
    rcases ho.2 with h | ⟨g, cap, h, _⟩
    · exact .inl h
    · exact .inr ⟨g, cap, h⟩) with ⟨a, cap, rfl, rfl⟩ | ⟨g, cap, rfl⟩
  · go_enter Try.func14, Try.ntmps14
    go_wp2
    go_rounds 1
    all_goals (go_ret; exact ⟨by simp, ho, Below.refl _ _, Only.refl _ _ _⟩)
  have HO := hid ho
  clear ho
  go_enter Try.func14, Try.ntmps14
  go_wp2
  go_loopw [1, 5] (fun m i wr => ∃ j : Nat, j ≤ xs.length ∧ i = .int .i64 j ∧ m = .int .i64 (k + (3 * j : Nat)) ∧ JbOwn lo hi wr (.slice (some ⟨g, 0, none⟩) xs.length cap) (jbmarked xs k j) ∧ Below lo w wr ∧ Only lo hi w wr) (fun _ i _ => xs.length - (intOf i).toNat)
  case atStart => exact ⟨0, Nat.zero_le _, rfl, by simp, by rw [jbmarked_zero]; exact HO.out, Below.refl _ _, Only.refl _ _ _⟩
  case round =>
    obtain ⟨j, hj, rfl, rfl, hown, hbel, hoth⟩ := hrel
    by_cases hlt : j < xs.length
    · have hl2 := length_jbmarked xs k j hj
      have hset := JbOwn.set (xs := jbmarked xs k j) (by rw [hl2]; exact hown) j (k + (3 * j : Nat), k + (3 * j + 1 : Nat), k + (3 * j + 2 : Nat)) (by omega)
      rw [jbmarked_step xs k j hlt, hl2] at hset
      obtain ⟨hown2, hgb, ⟨f0, f1, f2⟩, c0, c1, c2⟩ := hset
      have HO2 := hid hown2
      have HB := hid hbel
      have HT := hid hoth
      clear hown hown2 hl2 hbel hoth
      generalize ((jbmarked xs k j).getD j (0, 0, 0)).1 = y0 at c0
      generalize ((jbmarked xs k j).getD j (0, 0, 0)).2.1 = y1 at c1
      generalize ((jbmarked xs k j).getD j (0, 0, 0)).2.2 = y2 at c2
      go_wp2
      go_roundw
      case rel =>
        refine ⟨j + 1, by omega, by go_num, by go_num, ?_, ((HB.out.setCell hgb.1 _).setCell hgb.1 _).setCell hgb.1 _, ((HT.out.setCell hgb.1 hgb.2 _).setCell hgb.1 hgb.2 _).setCell hgb.1 hgb.2 _⟩
        have := HO2.out
        have e1 : k + (3 * j + 1 : Nat) = k + (3 * j : Nat) + 1 := by omega
        have e2 : k + (3 * j + 2 : Nat) = k + (3 * j : Nat) + 1 + 1 := by omega
        simp only [e1, e2] at this
        exact this
      case measure => simp [intOf]; omega
    · obtain rfl : j = xs.length := by omega
      rw [jbmarked_all] at hown
      go_wp2
      go_ret
      exact ⟨rfl, hown, hbel, hoth⟩

end Go.Proofs.Ytobkockikpgcoav

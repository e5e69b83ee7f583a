/-
  laws.markCaseS writes k, k + 1, .. into ones of its own; laws.heldCaseS finds them there; nothing else is written.
-/
import Derived.Test.YtdlkilacnnjglaaKCaseRows
import Derived.Test.YtdlkilacnnjglaaKBoolMark
namespace Go.Proofs.Ytdlkilacnnjglaa
open Go.RowKit

def camarks (k : Int) (n : Nat) : List CaEl := (List.range n).map fun (i : Nat) => (k + (4 * i : Nat), b3 (k + (4 * i + 1 : Nat)), k + (4 * i + 2 : Nat), k + (4 * i + 3 : Nat))
def camarked (xs : List CaEl) (k : Int) (j : Nat) : List CaEl := camarks k j ++ xs.drop j
theorem length_camarks (k : Int) (n : Nat) : (camarks k n).length = n := by simp [camarks]
theorem camarks_get (k : Int) (n i : Nat) (h : i < n) : (camarks k n).getD i (0, false, 0, 0) = (k + (4 * i : Nat), b3 (k + (4 * i + 1 : Nat)), k + (4 * i + 2 : Nat), k + (4 * i + 3 : Nat)) := by simp [camarks, List.getD_eq_getElem?_getD, h]
theorem length_camarked (xs : List CaEl) (k : Int) (j : Nat) (h : j ≤ xs.length) : (camarked xs k j).length = xs.length := by simp [camarked, length_camarks]; omega
theorem camarked_zero (xs : List CaEl) (k : Int) : camarked xs k 0 = xs := by simp [camarked, camarks]
theorem camarked_all (xs : List CaEl) (k : Int) : camarked xs k xs.length = camarks k xs.length := by simp [camarked]
theorem camarked_step (xs : List CaEl) (k : Int) (i : Nat) (h : i < xs.length) : (camarked xs k i).set i (k + (4 * i : Nat), b3 (k + (4 * i + 1 : Nat)), k + (4 * i + 2 : Nat), k + (4 * i + 3 : Nat)) = camarked xs k (i + 1) := by
  have e : xs.drop i = xs[i] :: xs.drop (i + 1) := List.drop_eq_getElem_cons h
  unfold camarked
  rw [e, List.set_append_right _ _ (by simp [length_camarks])]
  have : camarks k (i + 1) = camarks k i ++ [(k + (4 * i : Nat), b3 (k + (4 * i + 1 : Nat)), k + (4 * i + 2 : Nat), k + (4 * i + 3 : Nat))] := by simp [camarks, List.range_succ]
  simp only [length_camarks, Nat.sub_self, List.set_cons_zero]
  rw [this, List.append_assoc]
  rfl

set_option maxHeartbeats 1000000 in
theorem markCaseS_any (lo hi : Nat) (v : Value) (xs : List CaEl) (k m : Int) (w : World) (ho : CaOwn lo hi w v xs) (hx : xs.length ≤ 1048576) (h0 : 0 ≤ k) (h1 : k ≤ 1152921504606846975) (hm : m = k + (4 * xs.length : Nat)) :
    Calls Try.prog 44 #[v, .int .i64 k] w fun e w' => e = .returned (.int .i64 m) ∧ CaOwn lo hi w' v (camarks k xs.length) ∧ Below lo w w' ∧ Only lo hi w w' := by
  subst hm
  rcases (show (∃ a cap, v = .slice a 0 cap ∧ xs = []) ∨ ∃ g cap, v = .slice (some ⟨g, 0, none⟩) xs.length cap from by
    rcases ho.2 with h | ⟨g, cap, h, _⟩
    · exact .inl h
    · exact .inr ⟨g, cap, h⟩) with ⟨a, cap, rfl, rfl⟩ | ⟨g, cap, rfl⟩
  · go_enter Try.func44, Try.ntmps44
    go_wp2
    go_rounds 1
    all_goals (go_ret; exact ⟨by simp, ho, Below.refl _ _, Only.refl _ _ _⟩)
  have HO := hid ho
  clear ho
  go_enter Try.func44, Try.ntmps44
  go_wp2
  go_loopw [1, 5] (fun m i wr => ∃ j : Nat, j ≤ xs.length ∧ i = .int .i64 j ∧ m = .int .i64 (k + (4 * j : Nat)) ∧ CaOwn lo hi wr (.slice (some ⟨g, 0, none⟩) xs.length cap) (camarked xs k j) ∧ Below lo w wr ∧ Only lo hi w wr) (fun _ i _ => xs.length - (intOf i).toNat)
  case atStart => exact ⟨0, Nat.zero_le _, rfl, by simp, by rw [camarked_zero]; exact HO.out, Below.refl _ _, Only.refl _ _ _⟩
  case round =>
    obtain ⟨j, hj, rfl, rfl, hown, hbel, hoth⟩ := hrel
    by_cases hlt : j < xs.length
    · have hl2 := length_camarked xs k j hj
      have hset := CaOwn.set (xs := camarked xs k j) (by rw [hl2]; exact hown) j (k + (4 * j : Nat), b3 (k + (4 * j + 1 : Nat)), k + (4 * j + 2 : Nat), k + (4 * j + 3 : Nat)) (by omega)
      rw [camarked_step xs k j hlt, hl2] at hset
      obtain ⟨hown2, hgb, ⟨f0, f1, f2, f3⟩, c0, c1, c2, c3⟩ := hset
      have HO2 := hid hown2
      have HB := hid hbel
      have HT := hid hoth
      clear hown hown2 hl2 hbel hoth
      generalize ((camarked xs k j).getD j (0, false, 0, 0)).1 = y0 at c0
      generalize ((camarked xs k j).getD j (0, false, 0, 0)).2.1 = y1 at c1
      generalize ((camarked xs k j).getD j (0, false, 0, 0)).2.2.1 = y2 at c2
      generalize ((camarked xs k j).getD j (0, false, 0, 0)).2.2.2 = y3 at c3
      go_wp2
      go_roundw
      case rel =>
        refine ⟨j + 1, by omega, by go_num, by go_num, ?_, (((HB.out.setCell hgb.1 _).setCell hgb.1 _).setCell hgb.1 _).setCell hgb.1 _, (((HT.out.setCell hgb.1 hgb.2 _).setCell hgb.1 hgb.2 _).setCell hgb.1 hgb.2 _).setCell hgb.1 hgb.2 _⟩
        have := HO2.out
        have e1 : k + (4 * j + 1 : Nat) = k + (4 * j : Nat) + 1 := by omega
        have e2 : k + (4 * j + 2 : Nat) = k + (4 * j : Nat) + 1 + 1 := by omega
        have e3 : k + (4 * j + 3 : Nat) = k + (4 * j : Nat) + 1 + 1 + 1 := by omega
        simp only [e1, e2, e3] at this
        exact this
      case measure => simp [intOf]; omega
    · obtain rfl : j = xs.length := by omega
      rw [camarked_all] at hown
      go_wp2
      go_ret
      exact ⟨rfl, hown, hbel, hoth⟩

end Go.Proofs.Ytdlkilacnnjglaa

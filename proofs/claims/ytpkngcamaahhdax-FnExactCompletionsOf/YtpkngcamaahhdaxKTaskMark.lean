/-
  laws.markTaskS writes k, k + 1, .. into ones of its own; laws.heldTaskS finds them there; nothing else is written.
-/
import Derived.Test.YtpkngcamaahhdaxKTaskRows
namespace Go.Proofs.Ytpkngcamaahhdax
open Go.RowKit

def tkmarks (k : Int) (n : Nat) : List TkEl := (List.range n).map fun (i : Nat) => (k + (2 * i : Nat), k + (2 * i + 1 : Nat))
def tkmarked (xs : List TkEl) (k : Int) (j : Nat) : List TkEl := tkmarks k j ++ xs.drop j
theorem length_tkmarks (k : Int) (n : Nat) : (tkmarks k n).length = n := by simp [tkmarks]
theorem tkmarks_get (k : Int) (n i : Nat) (h : i < n) : (tkmarks k n).getD i (0, 0) = (k + (2 * i : Nat), k + (2 * i + 1 : Nat)) := by simp [tkmarks, List.getD_eq_getElem?_getD, h]
theorem length_tkmarked (xs : List TkEl) (k : Int) (j : Nat) (h : j ≤ xs.length) : (tkmarked xs k j).length = xs.length := by simp [tkmarked, length_tkmarks]; omega
theorem tkmarked_zero (xs : List TkEl) (k : Int) : tkmarked xs k 0 = xs := by simp [tkmarked, tkmarks]
theorem tkmarked_all (xs : List TkEl) (k : Int) : tkmarked xs k xs.length = tkmarks k xs.length := by simp [tkmarked]
theorem tkmarked_step (xs : List TkEl) (k : Int) (i : Nat) (h : i < xs.length) : (tkmarked xs k i).set i (k + (2 * i : Nat), k + (2 * i + 1 : Nat)) = tkmarked xs k (i + 1) := by
  have e : xs.drop i = xs[i] :: xs.drop (i + 1) := List.drop_eq_getElem_cons h
  unfold tkmarked
  rw [e, List.set_append_right _ _ (by simp [length_tkmarks])]
  have : tkmarks k (i + 1) = tkmarks k i ++ [(k + (2 * i : Nat), k + (2 * i + 1 : Nat))] := by simp [tkmarks, List.range_succ]
  simp only [length_tkmarks, Nat.sub_self, List.set_cons_zero]
  rw [this, List.append_assoc]
  rfl

set_option maxHeartbeats 1000000 in
theorem markTaskS_any (lo hi : Nat) (v : Value) (xs : List TkEl) (k m : Int) (w : World) (ho : TkOwn lo hi w v xs) (hx : xs.length ≤ 1048576) (h0 : 0 ≤ k) (h1 : k ≤ 1152921504606846975) (hm : m = k + (2 * xs.length : Nat)) :
    Calls Try.prog 14 #[v, .int .i64 k] w fun e w' => e = .returned (.int .i64 m) ∧ TkOwn lo hi w' v (tkmarks k xs.length) ∧ Below lo w w' ∧ Only lo hi w w' := by
  subst hm
  rcases (show (∃ a cap, v = .slice a 0 cap ∧ xs = []) ∨ ∃ g cap, v = .slice (some ⟨g, 0, none⟩) xs.length cap from by
    rcases ho.2 with h | ⟨g, cap, h, _⟩
    · exact .inl h
    · exact .inr ⟨g, cap, h⟩) with ⟨a, cap, rfl, rfl⟩ | ⟨g, cap, rfl⟩
  · go_enter Try.func14, Try.ntmps14
    go_wp2
    go_rounds 1
    all_goals (go_ret; exact ⟨by simp, ho, Below.refl _ _, Only.refl _ _ _⟩)
  have HO := hid ho
  clear ho
  go_enter Try.func14, Try.ntmps14
  go_wp2
  go_loopw [1, 5] (fun m i wr => ∃ j : Nat, j ≤ xs.length ∧ i = .int .i64 j ∧ m = .int .i64 (k + (2 * j : Nat)) ∧ TkOwn lo hi wr (.slice (some ⟨g, 0, none⟩) xs.length cap) (tkmarked xs k j) ∧ Below lo w wr ∧ Only lo hi w wr) (fun _ i _ => xs.length - (intOf i).toNat)
  case atStart => exact ⟨0, Nat.zero_le _, rfl, by simp, by rw [tkmarked_zero]; exact HO.out, Below.refl _ _, Only.refl _ _ _⟩
  case round =>
    obtain ⟨j, hj, rfl, rfl, hown, hbel, hoth⟩ := hrel
    by_cases hlt : j < xs.length
    · have hl2 := length_tkmarked xs k j hj
      have hset := TkOwn.set (xs := tkmarked xs k j) (by rw [hl2]; exact hown) j (k + (2 * j : Nat), k + (2 * j + 1 : Nat)) (by omega)
      rw [tkmarked_step xs k j hlt, hl2] at hset
      obtain ⟨hown2, hgb, ⟨f0, f1⟩, c0, c1⟩ := hset
      have HO2 := hid hown2
      have HB := hid hbel
      have HT := hid hoth
      clear hown hown2 hl2 hbel hoth
      generalize ((tkmarked xs k j).getD j (0, 0)).1 = y0 at c0
      generalize ((tkmarked xs k j).getD j (0, 0)).2 = y1 at c1
      go_wp2
      go_roundw
      case rel =>
        refine ⟨j + 1, by omega, by go_num, by go_num, ?_, (HB.out.setCell hgb.1 _).setCell hgb.1 _, (HT.out.setCell hgb.1 hgb.2 _).setCell hgb.1 hgb.2 _⟩
        have := HO2.out
        have e1 : k + (2 * j + 1 : Nat) = k + (2 * j : Nat) + 1 := by omega
        simp only [e1] at this
        exact this
      case measure => simp [intOf]; omega
    · obtain rfl : j = xs.length := by omega
      rw [tkmarked_all] at hown
      go_wp2
      go_ret
      exact ⟨rfl, hown, hbel, hoth⟩

end Go.Proofs.Ytpkngcamaahhdax

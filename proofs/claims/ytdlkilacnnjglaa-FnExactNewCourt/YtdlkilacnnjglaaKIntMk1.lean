/-
  laws.markIntS writes k, k + 1, .. into ones of its own; laws.heldIntS finds them there; nothing else is written.
-/
import Derived.Test.YtdlkilacnnjglaaKIntRows
namespace Go.Proofs.Ytdlkilacnnjglaa
open Go.RowKit

def kmarks (k : Int) (n : Nat) : List KEl := (List.range n).map fun (i : Nat) => (k + (i : Int))
def kmarked (xs : List KEl) (k : Int) (j : Nat) : List KEl := kmarks k j ++ xs.drop j
theorem length_kmarks (k : Int) (n : Nat) : (kmarks k n).length = n := by simp [kmarks]
theorem kmarks_get (k : Int) (n i : Nat) (h : i < n) : (kmarks k n).getD i 0 = (k + (i : Int)) := by simp [kmarks, List.getD_eq_getElem?_getD, h]
theorem length_kmarked (xs : List KEl) (k : Int) (j : Nat) (h : j ≤ xs.length) : (kmarked xs k j).length = xs.length := by simp [kmarked, length_kmarks]; omega
theorem kmarked_zero (xs : List KEl) (k : Int) : kmarked xs k 0 = xs := by simp [kmarked, kmarks]
theorem kmarked_all (xs : List KEl) (k : Int) : kmarked xs k xs.length = kmarks k xs.length := by simp [kmarked]
theorem kmarked_step (xs : List KEl) (k : Int) (i : Nat) (h : i < xs.length) : (kmarked xs k i).set i (k + (i : Int)) = kmarked xs k (i + 1) := by
  have e : xs.drop i = xs[i] :: xs.drop (i + 1) := List.drop_eq_getElem_cons h
  unfold kmarked
  rw [e, List.set_append_right _ _ (by simp [length_kmarks])]
  have : kmarks k (i + 1) = kmarks k i ++ [(k + (i : Int))] := by simp [kmarks, List.range_succ]
  simp only [length_kmarks, Nat.sub_self, List.set_cons_zero]
  rw [this, List.append_assoc]
  rfl

set_option maxHeartbeats 1000000 in
theorem kmarkIntS_any (lo hi : Nat) (v : Value) (xs : List KEl) (k m : Int) (w : World) (ho : KOwn lo hi w v xs) (hx : xs.length ≤ 1048576) (h0 : 0 ≤ k) (h1 : k ≤ 1152921504606846975) (hm : m = k + (xs.length : Nat)) :
    Calls Try.prog 14 #[v, .int .i64 k] w fun e w' => e = .returned (.int .i64 m) ∧ KOwn lo hi w' v (kmarks k xs.length) ∧ Below lo w w' ∧ Only lo hi w w' := by
  subst hm
  rcases (show (∃ a cap, v = .slice a 0 cap ∧ xs = []) ∨ ∃ g cap, v = .slice (some ⟨g, 0, none⟩) xs.length cap from by
    rcases ho.2 with h | ⟨g, cap, h, _⟩
    · exact .inl h
    · exact .inr ⟨g, cap, h⟩) with ⟨a, cap, rfl, rfl⟩ | ⟨g, cap, rfl⟩
  · go_enter Try.func14, Try.ntmps14
    go_wp2
    go_rounds 1
    all_goals (go_ret; exact ⟨by simp, ho, Below.refl _ _, Only.refl _ _ _⟩)
  have HO := hid ho
  clear ho
  go_enter Try.func14, Try.ntmps14
  go_wp2
  go_loopw [1, 5] (fun m i wr => ∃ j : Nat, j ≤ xs.length ∧ i = .int .i64 j ∧ m = .int .i64 (k + (j : Nat)) ∧ KOwn lo hi wr (.slice (some ⟨g, 0, none⟩) xs.length cap) (kmarked xs k j) ∧ Below lo w wr ∧ Only lo hi w wr) (fun _ i _ => xs.length - (intOf i).toNat)
  case atStart => exact ⟨0, Nat.zero_le _, rfl, by simp, by rw [kmarked_zero]; exact HO.out, Below.refl _ _, Only.refl _ _ _⟩
  case round =>
    obtain ⟨j, hj, rfl, rfl, hown, hbel, hoth⟩ := hrel
    by_cases hlt : j < xs.length
    · have hl2 := length_kmarked xs k j hj
      have hset := KOwn.set (xs := kmarked xs k j) (by rw [hl2]; exact hown) j (k + (j : Nat)) (by omega)
      rw [kmarked_step xs k j hlt, hl2] at hset
      obtain ⟨hown2, hgb, f0, c0⟩ := hset
      have HO2 := hid hown2
      have HB := hid hbel
      have HT := hid hoth
      clear hown hown2 hl2 hbel hoth
      generalize ((kmarked xs k j).getD j 0) = y0 at c0
      replace f0 : _ = _ := f0
      replace c0 : _ = _ := c0
      go_wp2
      go_roundw
      case rel =>
        refine ⟨j + 1, by omega, by go_num, by go_num, ?_, HB.out.setCell hgb.1 _, HT.out.setCell hgb.1 hgb.2 _⟩
        exact HO2.out
      case measure => simp [intOf]; omega
    · obtain rfl : j = xs.length := by omega
      rw [kmarked_all] at hown
      go_wp2
      go_ret
      exact ⟨rfl, hown, hbel, hoth⟩
end Go.Proofs.Ytdlkilacnnjglaa

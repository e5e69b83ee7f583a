/-
  laws.markSpanS writes k, k + 1, .. into ones of its own; laws.heldSpanS finds them there; nothing else is written.
-/
import Derived.Test.YtnkpboobfkjibakKSpanRows
namespace Go.Proofs.Ytnkpboobfkjibak
open Go.RowKit

def spmarks (k : Int) (n : Nat) : List SpEl := (List.range n).map fun (i : Nat) => (k + (2 * i : Nat), k + (2 * i + 1 : Nat))
def spmarked (xs : List SpEl) (k : Int) (j : Nat) : List SpEl := spmarks k j ++ xs.drop j
theorem length_spmarks (k : Int) (n : Nat) : (spmarks k n).length = n := by simp [spmarks]
theorem spmarks_get (k : Int) (n i : Nat) (h : i < n) : (spmarks k n).getD i (0, 0) = (k + (2 * i : Nat), k + (2 * i + 1 : Nat)) := by simp [spmarks, List.getD_eq_getElem?_getD, h]
theorem length_spmarked (xs : List SpEl) (k : Int) (j : Nat) (h : j ≤ xs.length) : (spmarked xs k j).length = xs.length := by simp [spmarked, length_spmarks]; omega
theorem spmarked_zero (xs : List SpEl) (k : Int) : spmarked xs k 0 = xs := by simp [spmarked, spmarks]
theorem spmarked_all (xs : List SpEl) (k : Int) : spmarked xs k xs.length = spmarks k xs.length := by simp [spmarked]
theorem spmarked_step (xs : List SpEl) (k : Int) (i : Nat) (h : i < xs.length) : (spmarked xs k i).set i (k + (2 * i : Nat), k + (2 * i + 1 : Nat)) = spmarked xs k (i + 1) := by
  have e : xs.drop i = xs[i] :: xs.drop (i + 1) := List.drop_eq_getElem_cons h
  unfold spmarked
  rw [e, List.set_append_right _ _ (by simp [length_spmarks])]
  have : spmarks k (i + 1) = spmarks k i ++ [(k + (2 * i : Nat), k + (2 * i + 1 : Nat))] := by simp [spmarks, List.range_succ]
  simp only [length_spmarks, Nat.sub_self, List.set_cons_zero]
  rw [this, List.append_assoc]
  rfl

set_option maxHeartbeats 1000000 in
theorem markSpanS_any (lo hi : Nat) (v : Value) (xs : List SpEl) (k m : Int) (w : World) (ho : SpOwn lo hi w v xs) (hx : xs.length ≤ 1048576) (h0 : 0 ≤ k) (h1 : k ≤ 1152921504606846975) (hm : m = k + (2 * xs.length : Nat)) :
    Calls Try.prog 47 #[v, .int .i64 k] w fun e w' => e = .returned (.int .i64 m) ∧ SpOwn lo hi w' v (spmarks k xs.length) ∧ Below lo w w' ∧ Only lo hi w w' := by
  subst hm
  rcases (show (∃ a cap, v = .slice a 0 cap ∧ xs = []) ∨ ∃ g cap, v = .slice (some ⟨g, 0, none⟩) xs.length cap from by
    rcases ho.2 with h | ⟨g, cap, h, _⟩
    · exact .inl h
    · exact .inr ⟨g, cap, h⟩) with ⟨a, cap, rfl, rfl⟩ | ⟨g, cap, rfl⟩
  · go_enter Try.func47, Try.ntmps47
    go_wp2
    go_rounds 1
    all_goals (go_ret; exact ⟨by simp, ho, Below.refl _ _, Only.refl _ _ _⟩)
  have HO := hid ho
  clear ho
  go_enter Try.func47, Try.ntmps47
  go_wp2
  go_loopw [1, 5] (fun m i wr => ∃ j : Nat, j ≤ xs.length ∧ i = .int .i64 j ∧ m = .int .i64 (k + (2 * j : Nat)) ∧ SpOwn lo hi wr (.slice (some ⟨g, 0, none⟩) xs.length cap) (spmarked xs k j) ∧ Below lo w wr ∧ Only lo hi w wr) (fun _ i _ => xs.length - (intOf i).toNat)
  case atStart => exact ⟨0, Nat.zero_le _, rfl, by simp, by rw [spmarked_zero]; exact HO.out, Below.refl _ _, Only.refl _ _ _⟩
  case round =>
    obtain ⟨j, hj, rfl, rfl, hown, hbel, hoth⟩ := hrel
    by_cases hlt : j < xs.length
    · have hl2 := length_spmarked xs k j hj
      have hset := SpOwn.set (xs := spmarked xs k j) (by rw [hl2]; exact hown) j (k + (2 * j : Nat), k + (2 * j + 1 : Nat)) (by omega)
      rw [spmarked_step xs k j hlt, hl2] at hset
      obtain ⟨hown2, hgb, ⟨f0, f1⟩, c0, c1⟩ := hset
      have HO2 := hid hown2
      have HB := hid hbel
      have HT := hid hoth
      clear hown hown2 hl2 hbel hoth
      generalize ((spmarked xs k j).getD j (0, 0)).1 = y0 at c0
      generalize ((spmarked xs k j).getD j (0, 0)).2 = y1 at c1
      go_wp2
      go_roundw
      case rel =>
        refine ⟨j + 1, by omega, by go_num, by go_num, ?_, (HB.out.setCell hgb.1 _).setCell hgb.1 _, (HT.out.setCell hgb.1 hgb.2 _).setCell hgb.1 hgb.2 _⟩
        have := HO2.out
        have e1 : k + (2 * j + 1 : Nat) = k + (2 * j : Nat) + 1 := by omega
        simp only [e1] at this
        exact this
      case measure => simp [intOf]; omega
    · obtain rfl : j = xs.length := by omega
      rw [spmarked_all] at hown
      go_wp2
      go_ret
      exact ⟨rfl, hown, hbel, hoth⟩

set_option maxHeartbeats 1000000 in
theorem heldSpanS_any (v : Value) (n : Nat) (k m : Int) (w : World) (hr : SpReads w v (spmarks k n)) (hn : n ≤ 1048576) (h0 : 0 ≤ k) (h1 : k ≤ 1152921504606846975) (hm : m = k + (2 * n : Nat)) :
    Calls Try.prog 48 #[v, .int .i64 k] w fun e w' => e = .returned (.int .i64 m) ∧ w' = w := by
  subst hm
  obtain ⟨a, cap, rfl, hl, hx⟩ := hr
  rw [length_spmarks] at hl hx ⊢
  rcases hx with hx | ⟨b, off, rfl, hc⟩
  · have hn : n = 0 := by have := length_spmarks k n; rw [hx] at this; simpa using this.symm
    subst hn
    clear hx
    go_enter Try.func48, Try.ntmps48
    go_wp2
    go_rounds 1
    all_goals (go_ret; exact ⟨by simp, rfl⟩)
  have HC : Hid (∀ i, i < n → SpCells w b (off + i * 2) (k + (2 * i : Nat), k + (2 * i + 1 : Nat))) := fun i hi => by have := hc i hi; rw [spmarks_get k n i hi] at this; exact this
  clear hc
  go_enter Try.func48, Try.ntmps48
  go_wp2
  go_loopw [1, 5] (fun m i wr => ∃ j : Nat, j ≤ n ∧ i = .int .i64 j ∧ m = .int .i64 (k + (2 * j : Nat)) ∧ w = wr) (fun _ i _ => n - (intOf i).toNat)
  case atStart => exact ⟨0, Nat.zero_le _, rfl, by simp, rfl⟩
  case round =>
    obtain ⟨j, hj, rfl, rfl, rfl⟩ := hrel
    by_cases hlt : j < n
    · obtain ⟨c0, c1⟩ := HC.out j hlt
      have e1 : k + (2 * j + 1 : Nat) = k + (2 * j : Nat) + 1 := by omega
      simp only [e1] at c1
      clear e1
      go_wp2
      go_roundw
      case rel => exact ⟨j + 1, by omega, by go_num, by go_num, trivial⟩
      case measure => simp [intOf]; omega
    · obtain rfl : j = n := by omega
      go_wp2
      go_ret
      exact ⟨rfl, rfl⟩
end Go.Proofs.Ytnkpboobfkjibak

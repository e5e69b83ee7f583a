/-
  laws.markWorkS writes k, k + 1, .. into ones of its own; laws.heldWorkS finds them there; nothing else is written.
-/
import Derived.Test.YtndbdioignmaeauKWorkRows
namespace Go.Proofs.Ytndbdioignmaeau
open Go.RowKit

def wkmarks (k : Int) (n : Nat) : List WkEl := (List.range n).map fun (i : Nat) => (k + (3 * i : Nat), k + (3 * i + 1 : Nat), k + (3 * i + 2 : Nat))
def wkmarked (xs : List WkEl) (k : Int) (j : Nat) : List WkEl := wkmarks k j ++ xs.drop j
theorem length_wkmarks (k : Int) (n : Nat) : (wkmarks k n).length = n := by simp [wkmarks]
theorem wkmarks_get (k : Int) (n i : Nat) (h : i < n) : (wkmarks k n).getD i (0, 0, 0) = (k + (3 * i : Nat), k + (3 * i + 1 : Nat), k + (3 * i + 2 : Nat)) := by simp [wkmarks, List.getD_eq_getElem?_getD, h]
theorem length_wkmarked (xs : List WkEl) (k : Int) (j : Nat) (h : j ≤ xs.length) : (wkmarked xs k j).length = xs.length := by simp [wkmarked, length_wkmarks]; omega
theorem wkmarked_zero (xs : List WkEl) (k : Int) : wkmarked xs k 0 = xs := by simp [wkmarked, wkmarks]
theorem wkmarked_all (xs : List WkEl) (k : Int) : wkmarked xs k xs.length = wkmarks k xs.length := by simp [wkmarked]
theorem wkmarked_step (xs : List WkEl) (k : Int) (i : Nat) (h : i < xs.length) : (wkmarked xs k i).set i (k + (3 * i : Nat), k + (3 * i + 1 : Nat), k + (3 * i + 2 : Nat)) = wkmarked xs k (i + 1) := by
  have e : xs.drop i = xs[i] :: xs.drop (i + 1) := List.drop_eq_getElem_cons h
  unfold wkmarked
  rw [e, List.set_append_right _ _ (by simp [length_wkmarks])]
  have : wkmarks k (i + 1) = wkmarks k i ++ [(k + (3 * i : Nat), k + (3 * i + 1 : Nat), k + (3 * i + 2 : Nat))] := by simp [wkmarks, List.range_succ]
  simp only [length_wkmarks, Nat.sub_self, List.set_cons_zero]
  rw [this, List.append_assoc]
  rfl

set_option maxHeartbeats 1000000 in
theorem markWorkS_any (lo hi : Nat) (v : Value) (xs : List WkEl) (k m : Int) (w : World) (ho : WkOwn lo hi w v xs) (hx : xs.length ≤ 1048576) (h0 : 0 ≤ k) (h1 : k ≤ 1152921504606846975) (hm : m = k + (3 * xs.length : Nat)) :
    Calls Try.prog 14 #[v, .int .i64 k] w fun e w' => e = .returned (.int .i64 m) ∧ WkOwn lo hi w' v (wkmarks k xs.length) ∧ Below lo w w' ∧ Only lo hi w w' := by
  subst hm
  rcases (show (∃ a cap, v = .slice a 0 cap ∧ xs = []) ∨ ∃ g cap, v = .slice (some ⟨g, 0, none⟩) xs.length cap from by
    rcases ho.2 with h | ⟨g, cap, h, _⟩
    · exact .inl h
    · exact .inr ⟨g, cap, h⟩) with ⟨a, cap, rfl, rfl⟩ | ⟨g, cap, rfl⟩
  · go_enter Try.func14, Try.ntmps14
    go_wp2
    go_rounds 1
    all_goals (go_ret; exact ⟨by simp, ho, Below.refl _ _, Only.refl _ _ _⟩)
  have HO := hid ho
  clear ho
  go_enter Try.func14, Try.ntmps14
  go_wp2
  go_loopw [1, 5] (fun m i wr => ∃ j : Nat, j ≤ xs.length ∧ i = .int .i64 j ∧ m = .int .i64 (k + (3 * j : Nat)) ∧ WkOwn lo hi wr (.slice (some ⟨g, 0, none⟩) xs.length cap) (wkmarked xs k j) ∧ Below lo w wr ∧ Only lo hi w wr) (fun _ i _ => xs.length - (intOf i).toNat)
  case atStart => exact ⟨0, Nat.zero_le _, rfl, by simp, by rw [wkmarked_zero]; exact HO.out, Below.refl _ _, Only.refl _ _ _⟩
  case round =>
    obtain ⟨j, hj, rfl, rfl, hown, hbel, hoth⟩ := hrel
    by_cases hlt : j < xs.length
    · have hl2 := length_wkmarked xs k j hj
      have hset := WkOwn.set (xs := wkmarked xs k j) (by rw [hl2]; exact hown) j (k + (3 * j : Nat), k + (3 * j + 1 : Nat), k + (3 * j + 2 : Nat)) (by omega)
      rw [wkmarked_step xs k j hlt, hl2] at hset
      obtain ⟨hown2, hgb, ⟨f0, f1, f2⟩, c0, c1, c2⟩ := hset
      have HO2 := hid hown2
      have HB := hid hbel
      have HT := hid hoth
      clear hown hown2 hl2 hbel hoth
      generalize ((wkmarked xs k j).getD j (0, 0, 0)).1 = y0 at c0
      generalize ((wkmarked xs k j).getD j (0, 0, 0)).2.1 = y1 at c1
      generalize ((wkmarked xs k j).getD j (0, 0, 0)).2.2 = y2 at c2
      go_wp2
      go_roundw
      case rel =>
        refine ⟨j + 1, by omega, by go_num, by go_num, ?_, ((HB.out.setCell hgb.1 _).setCell hgb.1 _).setCell hgb.1 _, ((HT.out.setCell hgb.1 hgb.2 _).setCell hgb.1 hgb.2 _).setCell hgb.1 hgb.2 _⟩
        have := HO2.out
        have e1 : k + (3 * j + 1 : Nat) = k + (3 * j : Nat) + 1 := by omega
        have e2 : k + (3 * j + 2 : Nat) = k + (3 * j : Nat) + 1 + 1 := by omega
        simp only [e1, e2] at this
        exact this
      case measure => simp [intOf]; omega
    · obtain rfl : j = xs.length := by omega
      rw [wkmarked_all] at hown
      go_wp2
      go_ret
      exact ⟨rfl, hown, hbel, hoth⟩

set_option maxHeartbeats 1000000 in
theorem heldWorkS_any (v : Value) (n : Nat) (k m : Int) (w : World) (hr : WkReads w v (wkmarks k n)) (hn : n ≤ 1048576) (h0 : 0 ≤ k) (h1 : k ≤ 1152921504606846975) (hm : m = k + (3 * n : Nat)) :
    Calls Try.prog 15 #[v, .int .i64 k] w fun e w' => e = .returned (.int .i64 m) ∧ w' = w := by
  subst hm
  obtain ⟨a, cap, rfl, hl, hx⟩ := hr
  rw [length_wkmarks] at hl hx ⊢
  rcases hx with hx | ⟨b, off, rfl, hc⟩
  · have hn : n = 0 := by have := length_wkmarks k n; rw [hx] at this; simpa using this.symm
    subst hn
    clear hx
    go_enter Try.func15, Try.ntmps15
    go_wp2
    go_rounds 1
    all_goals (go_ret; exact ⟨by simp, rfl⟩)
  have HC : Hid (∀ i, i < n → WkCells w b (off + i * 3) (k + (3 * i : Nat), k + (3 * i + 1 : Nat), k + (3 * i + 2 : Nat))) := fun i hi => by have := hc i hi; rw [wkmarks_get k n i hi] at this; exact this
  clear hc
  go_enter Try.func15, Try.ntmps15
  go_wp2
  go_loopw [1, 5] (fun m i wr => ∃ j : Nat, j ≤ n ∧ i = .int .i64 j ∧ m = .int .i64 (k + (3 * j : Nat)) ∧ w = wr) (fun _ i _ => n - (intOf i).toNat)
  case atStart => exact ⟨0, Nat.zero_le _, rfl, by simp, rfl⟩
  case round =>
    obtain ⟨j, hj, rfl, rfl, rfl⟩ := hrel
    by_cases hlt : j < n
    · obtain ⟨c0, c1, c2⟩ := HC.out j hlt
      have e1 : k + (3 * j + 1 : Nat) = k + (3 * j : Nat) + 1 := by omega
      simp only [e1] at c1
      clear e1
      have e2 : k + (3 * j + 2 : Nat) = k + (3 * j : Nat) + 1 + 1 := by omega
      simp only [e2] at c2
      clear e2
      go_wp2
      go_roundw
      case rel => exact ⟨j + 1, by omega, by go_num, by go_num, trivial⟩
      case measure => simp [intOf]; omega
    · obtain rfl : j = n := by omega
      go_wp2
      go_ret
      exact ⟨rfl, rfl⟩
end Go.Proofs.Ytndbdioignmaeau

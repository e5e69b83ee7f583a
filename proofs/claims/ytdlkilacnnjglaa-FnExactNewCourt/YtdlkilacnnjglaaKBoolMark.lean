/-
  laws.markBoolS writes k, k + 1, .. into ones of its own; laws.heldBoolS finds them there; nothing else is written.
-/
import Derived.Test.YtdlkilacnnjglaaKBoolRows
namespace Go.Proofs.Ytdlkilacnnjglaa
open Go.RowKit

/-- What markBoolS writes. -/
def b3 (k : Int) : Bool := (k % 3 == 0)
def bmarks (k : Int) (n : Nat) : List BoEl := (List.range n).map fun (i : Nat) => (b3 (k + (i : Int)))
def bmarked (xs : List BoEl) (k : Int) (j : Nat) : List BoEl := bmarks k j ++ xs.drop j
theorem length_bmarks (k : Int) (n : Nat) : (bmarks k n).length = n := by simp [bmarks]
theorem bmarks_get (k : Int) (n i : Nat) (h : i < n) : (bmarks k n).getD i false = (b3 (k + (i : Int))) := by simp [bmarks, List.getD_eq_getElem?_getD, h]
theorem length_bmarked (xs : List BoEl) (k : Int) (j : Nat) (h : j ≤ xs.length) : (bmarked xs k j).length = xs.length := by simp [bmarked, length_bmarks]; omega
theorem bmarked_zero (xs : List BoEl) (k : Int) : bmarked xs k 0 = xs := by simp [bmarked, bmarks]
theorem bmarked_all (xs : List BoEl) (k : Int) : bmarked xs k xs.length = bmarks k xs.length := by simp [bmarked]
theorem bmarked_step (xs : List BoEl) (k : Int) (i : Nat) (h : i < xs.length) : (bmarked xs k i).set i (b3 (k + (i : Int))) = bmarked xs k (i + 1) := by
  have e : xs.drop i = xs[i] :: xs.drop (i + 1) := List.drop_eq_getElem_cons h
  unfold bmarked
  rw [e, List.set_append_right _ _ (by simp [length_bmarks])]
  have : bmarks k (i + 1) = bmarks k i ++ [(b3 (k + (i : Int)))] := by simp [bmarks, List.range_succ]
  simp only [length_bmarks, Nat.sub_self, List.set_cons_zero]
  rw [this, List.append_assoc]
  rfl

set_option maxHeartbeats 1000000 in
theorem kmarkBoolS_any (lo hi : Nat) (v : Value) (xs : List BoEl) (k m : Int) (w : World) (ho : BoOwn lo hi w v xs) (hx : xs.length ≤ 1048576) (h0 : 0 ≤ k) (h1 : k ≤ 1152921504606846975) (hm : m = k + (xs.length : Nat)) :
    Calls Try.prog 34 #[v, .int .i64 k] w fun e w' => e = .returned (.int .i64 m) ∧ BoOwn lo hi w' v (bmarks k xs.length) ∧ Below lo w w' ∧ Only lo hi w w' := by
  subst hm
  rcases (show (∃ a cap, v = .slice a 0 cap ∧ xs = []) ∨ ∃ g cap, v = .slice (some ⟨g, 0, none⟩) xs.length cap from by
    rcases ho.2 with h | ⟨g, cap, h, _⟩
    · exact .inl h
    · exact .inr ⟨g, cap, h⟩) with ⟨a, cap, rfl, rfl⟩ | ⟨g, cap, rfl⟩
  · go_enter Try.func34, Try.ntmps34
    go_wp2
    go_rounds 1
    all_goals (go_ret; exact ⟨by simp, ho, Below.refl _ _, Only.refl _ _ _⟩)
  have HO := hid ho
  clear ho
  go_enter Try.func34, Try.ntmps34
  go_wp2
  go_loopw [1, 5] (fun m i wr => ∃ j : Nat, j ≤ xs.length ∧ i = .int .i64 j ∧ m = .int .i64 (k + (j : Nat)) ∧ BoOwn lo hi wr (.slice (some ⟨g, 0, none⟩) xs.length cap) (bmarked xs k j) ∧ Below lo w wr ∧ Only lo hi w wr) (fun _ i _ => xs.length - (intOf i).toNat)
  case atStart => exact ⟨0, Nat.zero_le _, rfl, by simp, by rw [bmarked_zero]; exact HO.out, Below.refl _ _, Only.refl _ _ _⟩
  case round =>
    obtain ⟨j, hj, rfl, rfl, hown, hbel, hoth⟩ := hrel
    by_cases hlt : j < xs.length
    · have hl2 := length_bmarked xs k j hj
      have hset := BoOwn.set (xs := bmarked xs k j) (by rw [hl2]; exact hown) j (b3 (k + (j : Nat))) (by omega)
      rw [bmarked_step xs k j hlt, hl2] at hset
      obtain ⟨hown2, hgb, f0, c0⟩ := hset
      have HO2 := hid hown2
      have HB := hid hbel
      have HT := hid hoth
      clear hown hown2 hl2 hbel hoth
      generalize ((bmarked xs k j).getD j false) = y0 at c0
      replace f0 : _ = _ := f0
      replace c0 : _ = _ := c0
      go_wp2
      go_roundw
      case rel =>
        refine ⟨j + 1, by omega, by go_num, by go_num, ?_, HB.out.setCell hgb.1 _, HT.out.setCell hgb.1 hgb.2 _⟩
        exact HO2.out
      case measure => simp [intOf]; omega
    · obtain rfl : j = xs.length := by omega
      rw [bmarked_all] at hown
      go_wp2
      go_ret
      exact ⟨rfl, hown, hbel, hoth⟩

set_option maxHeartbeats 1000000 in
theorem kheldBoolS_any (v : Value) (n : Nat) (k m : Int) (w : World) (hr : BoReads w v (bmarks k n)) (hn : n ≤ 1048576) (h0 : 0 ≤ k) (h1 : k ≤ 1152921504606846975) (hm : m = k + (n : Nat)) :
    Calls Try.prog 36 #[v, .int .i64 k] w fun e w' => e = .returned (.int .i64 m) ∧ w' = w := by
  subst hm
  obtain ⟨a, cap, rfl, hl, hx⟩ := hr
  rw [length_bmarks] at hl hx ⊢
  rcases hx with hx | ⟨b, off, rfl, hc⟩
  · have hn : n = 0 := by have := length_bmarks k n; rw [hx] at this; simpa using this.symm
    subst hn
    clear hx
    go_enter Try.func36, Try.ntmps36
    go_wp2
    go_rounds 1
    all_goals (go_ret; exact ⟨by simp, rfl⟩)
  have HC : Hid (∀ i, i < n → BoCells w b (off + i) (b3 (k + (i : Int)))) := fun i hi => by have := hc i hi; rw [bmarks_get k n i hi] at this; exact this
  clear hc
  go_enter Try.func36, Try.ntmps36
  go_wp2
  go_loopw [1, 5] (fun m i wr => ∃ j : Nat, j ≤ n ∧ i = .int .i64 j ∧ m = .int .i64 (k + (j : Nat)) ∧ w = wr) (fun _ i _ => n - (intOf i).toNat)
  case atStart => exact ⟨0, Nat.zero_le _, rfl, by simp, rfl⟩
  case round =>
    obtain ⟨j, hj, rfl, rfl, rfl⟩ := hrel
    by_cases hlt : j < n
    · have c0 : w.cell? ⟨b, off + j, none⟩ = some (.bool ((k + (j : Int)) % 3 == 0)) := HC.out j hlt
      have hq : (((k + (j : Int)) % 3 == 0) != ((k + (j : Int)) % 3 == 0)) = false := by simp
      go_wp2
      go_roundw
      case rel => exact ⟨j + 1, by omega, by go_num, by go_num, trivial⟩
      case measure => simp [intOf]; omega
    · obtain rfl : j = n := by omega
      go_wp2
      go_ret
      exact ⟨rfl, rfl⟩
end Go.Proofs.Ytdlkilacnnjglaa

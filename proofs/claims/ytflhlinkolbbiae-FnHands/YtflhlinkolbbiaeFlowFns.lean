/-
  Flows and buckets as the program's lists have them: plain words.
  spec.l1Sum: numbers added up. Nothing is written.
  impl.sumOf: numbers added up, whatever they are. Nothing is written.
-/
import Derived.Test.YtflhlinkolbbiaeFlowMath
import Derived.Test.YtflhlinkolbbiaeKIntRows
namespace Go.Proofs.Ytflhlinkolbbiae

def rateB (r d : Int) : Bool := decide (1 ≤ r ∧ r ≤ 20) && decide (1 ≤ d ∧ d ≤ 60)
def flowB (xs : List Int) : Bool := decide (xs.length ≤ 40) && xs.all fun k => decide (0 ≤ k ∧ k ≤ 60)
/-- A list as a flow: nought behind its end. -/
def fl (xs : List Int) (t : Nat) : Int := xs.getD t 0
theorem flowB_len {xs : List Int} (h : flowB xs = true) : xs.length ≤ 40 := by
  unfold flowB at h
  rw [Bool.and_eq_true, decide_eq_true_eq] at h
  exact h.1
theorem flowB_in {xs : List Int} (h : flowB xs = true) (t : Nat) : 0 ≤ fl xs t ∧ fl xs t ≤ 60 := by
  unfold flowB at h
  rw [Bool.and_eq_true, List.all_eq_true] at h
  unfold fl
  by_cases ht : t < xs.length
  · have := h.2 (xs.getD t 0) (by rw [List.getD_eq_getElem?_getD, List.getElem?_eq_getElem ht]; exact List.getElem_mem _)
    rw [decide_eq_true_eq] at this
    exact this
  · rw [List.getD_eq_getElem?_getD, List.getElem?_eq_none (by omega)]
    decide
theorem rateB_in {r d : Int} (h : rateB r d = true) : (1 ≤ r ∧ r ≤ 20) ∧ (1 ≤ d ∧ d ≤ 60) := by
  unfold rateB at h
  rw [Bool.and_eq_true, decide_eq_true_eq, decide_eq_true_eq] at h
  exact h
/-- So many of what goes, and of what waits. -/
def goL (g : Nat → Int) (n : Nat) : List Int := (List.range n).map g
theorem goL_len (g : Nat → Int) (n : Nat) : (goL g n).length = n := by simp [goL]
theorem goL_succ (g : Nat → Int) (n : Nat) : goL g (n + 1) = goL g n ++ [g n] := by simp [goL, List.range_succ]
theorem goL_get {g : Nat → Int} {n i : Nat} (h : i < n) : (goL g n).getD i 0 = g i := by simp [goL, List.getD_eq_getElem?_getD, h]
theorem psum_in {f : Nat → Int} {b : Int} (h : ∀ i, 0 ≤ f i ∧ f i ≤ b) : ∀ n : Nat, 0 ≤ psum f n ∧ psum f n ≤ b * n
  | 0 => by simp [psum]
  | n + 1 => by
    have h1 := psum_in h n
    have h2 := h n
    simp only [psum]
    rw [show ((n + 1 : Nat) : Int) = (n : Int) + 1 by omega, Int.mul_add, Int.mul_one]
    omega
end Go.Proofs.Ytflhlinkolbbiae
namespace Go.Proofs.Ytflhlinkolbbiae
open Go.RowKit

set_option maxRecDepth 100000 in
set_option maxHeartbeats 4000000 in
theorem l1Sum_eq (v : Value) (xs : List Int) (w : World) (hr : KReads w v xs) (hb : ∀ k, k ≤ xs.length → 0 ≤ psum (fl xs) k ∧ psum (fl xs) k ≤ 1000000000) (s : Int) (hs : psum (fl xs) xs.length = s) :
    Calls Try.prog 83 #[v] w fun e w' => e = .returned (.int .i64 s) ∧ w' = w := by
  have HR := hid hr
  have HP := hid hb
  have HS0 := hid hs
  obtain ⟨a, cap, rfl, _, _⟩ := hr
  clear hb hs
  go_enter Try.func83, Try.ntmps83
  go_wp2
  go_loopw [3, 8] (fun t i wr => ∃ k : Nat, k ≤ xs.length ∧ i = .int .i64 k ∧ t = .int .i64 (psum (fl xs) k) ∧ w = wr) (fun _ i _ => xs.length - (intOf i).toNat)
  case atStart => exact ⟨0, by omega, rfl, rfl, rfl⟩
  case round =>
    obtain ⟨k, hk, rfl, rfl, rfl⟩ := hrel
    by_cases hlt : k < xs.length
    · obtain ⟨g, o, cap', e, hc⟩ := HR.out.cells k hlt
      cases e
      have HS : Hid (psum (fl xs) (k + 1) = psum (fl xs) k + fl xs k) := rfl
      have hp1 := HP.out (k + 1) (by omega)
      have hp0 := HP.out k (by omega)
      rw [HS.out] at hp1
      obtain ⟨x, hx⟩ : ∃ x, x = fl xs k := ⟨_, rfl⟩
      have cx : w.cell? ⟨g, o + k, none⟩ = some (.int .i64 x) := by rw [hx]; exact hc k hlt
      obtain ⟨s1, hs1⟩ : ∃ s1, s1 = psum (fl xs) k := ⟨_, rfl⟩
      rw [← hs1, ← hx] at HS hp1
      rw [← hs1] at hp0 ⊢
      have hw1 : IntKind.i64.wrap (s1 + x) = s1 + x := by rw [IntKind.wrap_i64]; omega
      clear hc hx hs1 hp0 hp1
      go_wp2
      go_roundw
      case rel => exact ⟨k + 1, by omega, by go_num, by rw [HS.out], by first | rfl | trivial⟩
      case measure => simp [intOf]; omega
    · obtain rfl : k = xs.length := by omega
      go_wp2
      go_ret
      exact ⟨by rw [← HS0.out]; rfl, rfl⟩
end Go.Proofs.Ytflhlinkolbbiae
namespace Go.Proofs.Ytflhlinkolbbiae
open Go.RowKit

def wsum (xs : List Int) : Nat → Int
  | 0 => 0
  | k + 1 => IntKind.i64.wrap (wsum xs k + fl xs k)
theorem wsum_is {xs : List Int} : ∀ k, (∀ j, j ≤ k → 0 ≤ psum (fl xs) j ∧ psum (fl xs) j ≤ 1000000000) → wsum xs k = psum (fl xs) k
  | 0, _ => rfl
  | k + 1, h => by
    have ih := wsum_is k fun j hj => h j (by omega)
    have h1 := h (k + 1) (Nat.le_refl _)
    simp only [wsum, psum] at h1 ⊢
    rw [ih, IntKind.wrap_i64]
    omega
set_option maxRecDepth 100000 in
set_option maxHeartbeats 4000000 in
theorem isumA_eq (v : Value) (xs : List Int) (w : World) (hr : KReads w v xs) (s : Int) (hs : wsum xs xs.length = s) :
    Calls Try.prog 85 #[v] w fun e w' => e = .returned (.int .i64 s) ∧ w' = w := by
  have HR := hid hr
  have HS0 := hid hs
  obtain ⟨a, cap, rfl, hl, _⟩ := hr
  clear hs
  go_enter Try.func85, Try.ntmps85
  go_wp2
  go_loopw [3, 8] (fun t i wr => ∃ k : Nat, k ≤ xs.length ∧ i = .int .i64 k ∧ t = .int .i64 (wsum xs k) ∧ w = wr) (fun _ i _ => xs.length - (intOf i).toNat)
  case atStart => exact ⟨0, by omega, rfl, rfl, rfl⟩
  case round =>
    obtain ⟨k, hk, rfl, rfl, rfl⟩ := hrel
    by_cases hlt : k < xs.length
    · obtain ⟨g, o, cap', e, hc⟩ := HR.out.cells k hlt
      cases e
      obtain ⟨x, hx⟩ : ∃ x, x = fl xs k := ⟨_, rfl⟩
      have cx : w.cell? ⟨g, o + k, none⟩ = some (.int .i64 x) := by rw [hx]; exact hc k hlt
      obtain ⟨s1, hs1⟩ : ∃ s1, s1 = wsum xs k := ⟨_, rfl⟩
      obtain ⟨s2, hs2⟩ : ∃ s2, s2 = wsum xs (k + 1) := ⟨_, rfl⟩
      have hw1 : IntKind.i64.wrap (s1 + x) = s2 := by rw [hs1, hs2, hx]; rfl
      rw [← hs1]
      have HN := hid hs2
      clear hc hx hs1 hs2
      go_wp2
      go_roundw
      case rel => exact ⟨k + 1, by omega, by go_num, by rw [HN.out], by first | rfl | trivial⟩
      case measure => simp [intOf]; omega
    · obtain rfl : k = xs.length := by omega
      go_wp2
      go_ret
      exact ⟨by rw [← HS0.out]; rfl, rfl⟩
end Go.Proofs.Ytflhlinkolbbiae

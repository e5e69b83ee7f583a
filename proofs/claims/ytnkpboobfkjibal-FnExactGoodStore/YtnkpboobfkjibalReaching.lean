/-
  impl.reaching: how many spans lie ahead, and how many not behind; the world stays.
-/
import Derived.Test.YtnkpboobfkjibalSpans
import Derived.Test.YtnkpboobfkjibalSpanMath
namespace Go.Proofs.Ytnkpboobfkjibal
open Go.RowKit
set_option maxRecDepth 100000

/-- How many at the front end ahead of f. -/
def ahead (xs : List Sp) (f : Int) : Nat := (xs.takeWhile fun y => decide (y.2 < f)).length
/-- How many from k on begin at t at most, and k. -/
def upto (xs : List Sp) (k : Nat) (t : Int) : Nat := k + ((xs.drop k).takeWhile fun y => decide (y.1 ≤ t)).length

theorem tw_spec (p : Sp → Bool) : ∀ (xs : List Sp) (i : Nat), i ≤ xs.length → (∀ j, j < i → p (xs.getD j (0, 0)) = true) → (i < xs.length → p (xs.getD i (0, 0)) = false) → (xs.takeWhile p).length = i
  | [], i, h, _, _ => by
    have : i = 0 := by simpa using h
    subst this
    rfl
  | x :: xs, 0, _, _, h2 => by
    have : p x = false := by simpa using h2 (by simp)
    simp [this]
  | x :: xs, i + 1, h, h1, h2 => by
    have : p x = true := by simpa using h1 0 (by omega)
    rw [List.takeWhile_cons, this]
    simp only [if_true, List.length_cons]
    rw [tw_spec p xs i (by simpa using h) (fun j hj => by simpa using h1 (j + 1) (by omega)) (fun hi => by simpa using h2 (by simpa using hi))]
theorem ahead_eq (xs : List Sp) (f : Int) (i : Nat) (hi : i ≤ xs.length) (h1 : ∀ j, j < i → (xs.getD j (0, 0)).2 < f) (h2 : i < xs.length → ¬ (xs.getD i (0, 0)).2 < f) : ahead xs f = i :=
  tw_spec _ xs i hi (fun j hj => by simpa using h1 j hj) (fun h => by simpa using h2 h)
theorem upto_eq (xs : List Sp) (k : Nat) (t : Int) (i : Nat) (hk : k ≤ i) (hi : i ≤ xs.length) (h1 : ∀ j, k ≤ j → j < i → (xs.getD j (0, 0)).1 ≤ t) (h2 : i < xs.length → ¬ (xs.getD i (0, 0)).1 ≤ t) : upto xs k t = i := by
  have hd : ∀ j, (xs.drop k).getD j (0, 0) = xs.getD (k + j) (0, 0) := fun j => by simp [List.getD_eq_getElem?_getD, List.getElem?_drop]
  have := tw_spec (fun y => decide (y.1 ≤ t)) (xs.drop k) (i - k) (by rw [List.length_drop]; omega) (fun j hj => by rw [hd]; simpa using h1 (k + j) (by omega) (by omega)) (fun h => by
    rw [List.length_drop] at h
    rw [hd, show k + (i - k) = i by omega]
    simpa using h2 (by omega))
  unfold upto
  omega

set_option maxHeartbeats 1000000 in
theorem reaching_any (v : Value) (xs : List Sp) (f t : Int) (w : World) (hr : SReads w v xs) :
    Calls Try.prog 48 #[v, .int .i64 f, .int .i64 t] w fun e w' => e = .returned (.tuple #[.int .i64 (ahead xs f), .int .i64 (upto xs (ahead xs f) t)]) ∧ w' = w := by
  obtain ⟨a, cap, rfl, hl, hx⟩ := hr
  have HC := hid hx
  clear hx
  go_enter Try.func48, Try.ntmps48
  go_wp2
  go_loopw [8] (fun i wr => ∃ k : Nat, k ≤ xs.length ∧ i = .int .i64 k ∧ (∀ j, j < k → (xs.getD j (0, 0)).2 < f) ∧ w = wr) (fun i _ => xs.length - (intOf i).toNat)
  case atStart => exact ⟨0, Nat.zero_le _, rfl, fun j hj => absurd hj (Nat.not_lt_zero j), rfl⟩
  case round =>
    obtain ⟨k, hk, rfl, hno, rfl⟩ := hrel
    have HN := hid hno
    clear hno
    have hk0 : (0 : Int) ≤ (k : Int) := by omega
    by_cases hlt : k < xs.length
    · obtain ⟨ga, oa, rfl, hca⟩ : ∃ b off, a = some ⟨b, off, none⟩ ∧ ∀ i, i < xs.length → w.cell? ⟨b, off + i * 2, none⟩ = some (.int .i64 (xs.getD i (0, 0)).1) ∧ w.cell? ⟨b, off + i * 2 + 1, none⟩ = some (.int .i64 (xs.getD i (0, 0)).2) := by
        rcases HC.out with h | h
        · subst h; simp at hlt
        · exact h
      have h2 := (hca k hlt).2
      obtain ⟨q, hq⟩ : ∃ q, q = (xs.getD k (0, 0)).2 := ⟨_, rfl⟩
      rw [← hq] at h2
      have HQ := hid hq
      have HC2 := hid hca
      clear hca hq
      by_cases hc : q < f
      · have hst : Hid (∀ j, j < k + 1 → (xs.getD j (0, 0)).2 < f) := fun j hj => by
          by_cases e : j = k
          · subst e; rw [← HQ.out]; exact hc
          · exact HN.out j (by omega)
        go_wp2
        go_roundw
        case rel => exact ⟨k + 1, by omega, by go_num, hst.out, trivial⟩
        case measure => simp [intOf]; omega
      · have hA : Hid (ahead xs f = k) := ahead_eq xs f k hk HN.out (fun _ => by rw [← HQ.out]; exact hc)
        go_wp2
        go_loopw [9] (fun i wr => ∃ k2 : Nat, k ≤ k2 ∧ k2 ≤ xs.length ∧ i = .int .i64 k2 ∧ (∀ j, k ≤ j → j < k2 → (xs.getD j (0, 0)).1 ≤ t) ∧ w = wr) (fun i _ => xs.length - (intOf i).toNat)
        case atStart => exact ⟨k, Nat.le_refl _, hk, rfl, fun j h1 h2 => absurd h2 (by omega), rfl⟩
        case round =>
          obtain ⟨k2, hk2, hk3, rfl, hno2, rfl⟩ := hrel
          have HN2 := hid hno2
          clear hno2
          have hk20 : (0 : Int) ≤ (k2 : Int) := by omega
          by_cases hlt2 : k2 < xs.length
          · have h1 := (HC2.out k2 hlt2).1
            obtain ⟨p, hp⟩ : ∃ p, p = (xs.getD k2 (0, 0)).1 := ⟨_, rfl⟩
            rw [← hp] at h1
            have HP := hid hp
            clear hp
            by_cases hc2 : p ≤ t
            · have hst : Hid (∀ j, k ≤ j → j < k2 + 1 → (xs.getD j (0, 0)).1 ≤ t) := fun j h1 hj => by
                by_cases e : j = k2
                · subst e; rw [← HP.out]; exact hc2
                · exact HN2.out j h1 (by omega)
              go_wp2
              go_roundw
              case rel => exact ⟨k2 + 1, by omega, by omega, by go_num, hst.out, trivial⟩
              case measure => simp [intOf]; omega
            · have hU : Hid (upto xs k t = k2) := upto_eq xs k t k2 hk2 hk3 HN2.out (fun _ => by rw [← HP.out]; exact hc2)
              go_wp2
              go_ret2
              exact ⟨by rw [hA.out, hU.out]; rfl, rfl⟩
          · have hU : Hid (upto xs k t = k2) := upto_eq xs k t k2 hk2 hk3 HN2.out (fun h => absurd h hlt2)
            go_wp2
            go_ret2
            exact ⟨by rw [hA.out, hU.out]; rfl, rfl⟩
    · have hA : Hid (ahead xs f = k) := ahead_eq xs f k hk HN.out (fun h => absurd h hlt)
      go_wp2
      go_loopw [9] (fun i wr => ∃ k2 : Nat, k ≤ k2 ∧ k2 ≤ xs.length ∧ i = .int .i64 k2 ∧ (∀ j, k ≤ j → j < k2 → (xs.getD j (0, 0)).1 ≤ t) ∧ w = wr) (fun i _ => xs.length - (intOf i).toNat)
      case atStart => exact ⟨k, Nat.le_refl _, hk, rfl, fun j h1 h2 => absurd h2 (by omega), rfl⟩
      case round =>
        obtain ⟨k2, hk2, hk3, rfl, hno2, rfl⟩ := hrel
        have HN2 := hid hno2
        clear hno2
        have hk20 : (0 : Int) ≤ (k2 : Int) := by omega
        by_cases hlt2 : k2 < xs.length
        · exact absurd hlt2 (by omega)
        · have hU : Hid (upto xs k t = k2) := upto_eq xs k t k2 hk2 hk3 HN2.out (fun h => absurd h hlt2)
          go_wp2
          go_ret2
          exact ⟨by rw [hA.out, hU.out]; rfl, rfl⟩
end Go.Proofs.Ytnkpboobfkjibal

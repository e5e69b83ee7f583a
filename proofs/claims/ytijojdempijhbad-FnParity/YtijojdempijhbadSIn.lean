/-
  spec.l1In: whether a number lies between two. Nothing is written.
  spec.l12Pieces: whether texts are pieces. Nothing is written.
-/
import Derived.Test.YtijojdempijhbadInts
import Derived.Test.YtijojdempijhbadPiMath
namespace Go.Proofs.Ytijojdempijhbad
open Go.RowKit

theorem l1In_eq (n lo hi : Int) (t : Bool) (h : decide (lo ≤ n ∧ n ≤ hi) = t) (w : World) : Calls Try.prog 108 #[.int .i64 n, .int .i64 lo, .int .i64 hi] w fun e w' => e = .returned (.bool t) ∧ w' = w := by
  by_cases h1 : lo ≤ n
  · by_cases h2 : n ≤ hi
    · have hv : Hid (t = true) := by show _ = _; rw [← h]; simp [h1, h2]
      clear h
      go_enter Try.func108, Try.ntmps108
      go_wp2
      go_ret
      exact ⟨by rw [hv.out]; rfl, rfl⟩
    · have hv : Hid (t = false) := by show _ = _; rw [← h]; simp [h2]
      clear h
      go_enter Try.func108, Try.ntmps108
      go_wp2
      go_ret
      exact ⟨by rw [hv.out]; rfl, rfl⟩
  · have hv : Hid (t = false) := by show _ = _; rw [← h]; simp [h1]
    clear h
    go_enter Try.func108, Try.ntmps108
    go_wp2
    go_ret
    exact ⟨by rw [hv.out]; rfl, rfl⟩
end Go.Proofs.Ytijojdempijhbad
namespace Go.Proofs.Ytijojdempijhbad
open Go.RowKit

set_option maxHeartbeats 2000000 in
theorem spieces_eq (v : Value) (xs : List XEl) (t : Bool) (h : goodP xs = t) (w : World) (hr : XReads w v xs) :
    Calls Try.prog 145 #[v] w fun e w' => e = .returned (.bool t) ∧ w' = w := by
  obtain ⟨a, cap, rfl, hl, hx⟩ := hr
  have HX := hid hx
  have HT := hid h
  clear hx h
  go_enter Try.func145, Try.ntmps145
  go_wp2
  go_loopw [7] (fun i wr => ∃ k : Nat, k ≤ xs.length ∧ i = .int .i64 k ∧ okU xs k = true ∧ w = wr) (fun i _ => xs.length - (intOf i).toNat)
  case atStart => exact ⟨0, Nat.zero_le _, rfl, by simp [okU], rfl⟩
  case round =>
    obtain ⟨k, hk, rfl, hok, rfl⟩ := hrel
    by_cases hlt : k < xs.length
    · obtain ⟨b, off, rfl, hcs⟩ : ∃ b off, a = some ⟨b, off, none⟩ ∧ ∀ i, i < xs.length → XCells w b (off + i) (xs.getD i xz) := by
        rcases HX.out with h | h
        · subst h; simp at hlt
        · exact h
      have c0 : _ = _ := hcs k hlt
      have c1 : _ = _ := hcs 0 (by omega)
      rw [Nat.add_zero] at c1
      have HS := hid (okU_succ xs k hlt)
      have HBad := hid (goodP_bad xs k hlt)
      have HOK := hid hok
      clear hcs hok
      obtain ⟨s, hs⟩ : ∃ s, xs.getD k xz = s := ⟨_, rfl⟩
      obtain ⟨z, hz⟩ : ∃ z, xs.getD 0 xz = z := ⟨_, rfl⟩
      rw [hs] at c0 HS HBad
      rw [hz] at c1 HS HBad
      clear hs hz
      have hlt0 : (0 : Int) < (xs.length : Int) := by omega
      by_cases he : s.size = z.size
      · have he1 : ((s.size : Int) != (z.size : Int)) = false := by simp [he]
        by_cases hg : s.size ≤ 16
        · have hg1 : decide ((s.size : Int) > 16) = false := by simp; omega
          have HP : Hid (pieceOk z s = true) := by show _ = _; simp [pieceOk, he]; omega
          have hg2 : ¬ (16 : Int) < (s.size : Int) := by omega
          have HE := hid he
          clear he
          go_wp2
          go_roundw
          case rel => exact ⟨k + 1, by omega, by go_num, by rw [HS.out, HOK.out, HP.out]; rfl, trivial⟩
          case measure => simp [intOf]; omega
        · have hg1 : decide ((s.size : Int) > 16) = true := by simp; omega
          have HP : Hid (pieceOk z s = false) := by show _ = _; simp [pieceOk]; omega
          have HE := hid he
          clear he
          go_wp2
          go_ret
          exact ⟨by rw [← HT.out, HBad.out HP.out]; rfl, rfl⟩
      · have he1 : ((s.size : Int) != (z.size : Int)) = true := by simp; omega
        have HP : Hid (pieceOk z s = false) := by show _ = _; simp [pieceOk, he]
        clear he
        go_wp2
        go_ret
        exact ⟨by rw [← HT.out, HBad.out HP.out]; rfl, rfl⟩
    · obtain rfl : k = xs.length := by omega
      rw [okU_all] at hok
      have HV : Hid (decide ((1 : Int) ≤ (xs.length : Int) ∧ (xs.length : Int) ≤ 8) = t) := by
        show _ = _
        rw [← HT.out]
        unfold goodP
        rw [hok, Bool.and_true, decide_eq_decide]
        omega
      clear hok
      go_wp2_with fail
      refine (l1In_eq xs.length 1 8 t HV.out _).mono ?_
      rintro e w' ⟨rfl, hw⟩; obtain rfl := hw.symm
      go_wp2
      go_ret
      exact ⟨rfl, rfl⟩
end Go.Proofs.Ytijojdempijhbad

/-
  impl.goodPieces: whether texts are pieces. Nothing is written.
-/
import Derived.Test.YtijojdempijhbadPiMath
namespace Go.Proofs.Ytijojdempijhbad
open Go.RowKit

set_option maxHeartbeats 2000000 in
theorem ipieces_eq (v : Value) (xs : List XEl) (t : Bool) (h : goodP xs = t) (w : World) (hr : XReads w v xs) :
    Calls Try.prog 147 #[v] w fun e w' => e = .returned (.bool t) ∧ w' = w := by
  obtain ⟨a, cap, rfl, hl, hx⟩ := hr
  have HX := hid hx
  have HT := hid h
  clear hx h
  by_cases h1 : xs.length < 1
  · have HV : Hid (t = false) := by show _ = _; rw [← HT.out]; unfold goodP; rw [decide_eq_false (by omega), Bool.false_and]
    have d1 : decide ((xs.length : Int) < 1) = true := by simp; omega
    have d2 : (xs.length : Int) < 1 := by omega
    clear HX
    go_enter Try.func147, Try.ntmps147
    go_wp2
    go_ret
    exact ⟨by rw [HV.out]; rfl, rfl⟩
  have d1 : decide ((xs.length : Int) < 1) = false := by simp; omega
  by_cases h2 : 8 < xs.length
  · have HV : Hid (t = false) := by show _ = _; rw [← HT.out]; unfold goodP; rw [decide_eq_false (by omega), Bool.false_and]
    have d2 : decide ((xs.length : Int) > 8) = true := by simp; omega
    clear HX
    go_enter Try.func147, Try.ntmps147
    go_wp2
    go_ret
    exact ⟨by rw [HV.out]; rfl, rfl⟩
  have d2 : decide ((xs.length : Int) > 8) = false := by simp; omega
  obtain ⟨b, off, rfl, hcs⟩ : ∃ b off, a = some ⟨b, off, none⟩ ∧ ∀ i, i < xs.length → XCells w b (off + i) (xs.getD i xz) := by
    rcases HX.out with h | h
    · subst h; simp at h1
    · exact h
  have HC := hid hcs
  have c1 : _ = _ := hcs 0 (by omega)
  rw [Nat.add_zero] at c1
  clear hcs HX
  have HBad := hid (goodP_bad xs)
  have HS := hid (okU_succ xs)
  have HA : Hid (okU xs xs.length = true → t = true) := fun h => by rw [← HT.out]; unfold goodP; rw [← okU_all, h, decide_eq_true (by omega)]; rfl
  obtain ⟨z, hz⟩ : ∃ z, xs.getD 0 xz = z := ⟨_, rfl⟩
  rw [hz] at c1 HS HBad
  have HZ := hid hz
  clear hz
  have hlt0 : (0 : Int) < (xs.length : Int) := by omega
  by_cases h3 : 16 < z.size
  · have HV : Hid (t = false) := by show _ = _; rw [← HT.out]; exact HBad.out 0 (by omega) (by rw [HZ.out]; simp [pieceOk]; omega)
    have d3 : decide ((z.size : Int) > 16) = true := by simp; omega
    go_enter Try.func147, Try.ntmps147
    go_wp2
    go_ret
    exact ⟨by rw [HV.out]; rfl, rfl⟩
  have d3 : decide ((z.size : Int) > 16) = false := by simp; omega
  go_enter Try.func147, Try.ntmps147
  go_wp2
  go_loopw [22] (fun i wr => ∃ k : Nat, k ≤ xs.length ∧ i = .int .i64 k ∧ okU xs k = true ∧ w = wr) (fun i _ => xs.length - (intOf i).toNat)
  case atStart => exact ⟨0, Nat.zero_le _, rfl, by simp [okU], rfl⟩
  case round =>
    obtain ⟨k, hk, rfl, hok, rfl⟩ := hrel
    have HOK := hid hok
    clear hok
    by_cases hlt : k < xs.length
    · have c0 : _ = _ := HC.out k hlt
      have HSk := hid (HS.out k hlt)
      have HBk := hid (HBad.out k hlt)
      obtain ⟨s, hs⟩ : ∃ s, xs.getD k xz = s := ⟨_, rfl⟩
      rw [hs] at c0 HSk HBk
      clear hs
      by_cases he : s.size = z.size
      · have he1 : ((s.size : Int) != (z.size : Int)) = false := by simp [he]
        have HP : Hid (pieceOk z s = true) := by show _ = _; simp [pieceOk, he]; omega
        clear he
        go_wp2
        go_roundw
        case rel => exact ⟨k + 1, by omega, by go_num, by rw [HSk.out, HOK.out, HP.out]; rfl, trivial⟩
        case measure => simp [intOf]; omega
      · have he1 : ((s.size : Int) != (z.size : Int)) = true := by simp; omega
        have HP : Hid (pieceOk z s = false) := by show _ = _; simp [pieceOk, he]
        clear he
        go_wp2
        go_ret
        exact ⟨by rw [← HT.out, HBk.out HP.out]; rfl, rfl⟩
    · obtain rfl : k = xs.length := by omega
      go_wp2
      go_ret
      exact ⟨by rw [HA.out HOK.out]; rfl, rfl⟩
end Go.Proofs.Ytijojdempijhbad

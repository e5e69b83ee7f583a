/-
  impl's method order of a list of work: from the last but those without others behind, down from each. Nothing else is written.
-/
import Derived.Test.YtndbdioignmaeaaIDown
namespace Go.Proofs.Ytndbdioignmaeaa
open Go.RowKit

theorem order_none (a : Option Addr) (cap : Nat) (w : World) : Calls Try.prog 89 #[.slice a 0 cap] w fun e w' => e = .returned (.int .i64 0) ∧ w' = w := by
  go_enter Try.func89, Try.ntmps89
  go_wp2
  go_rounds 1
  go_ret
  exact ⟨rfl, rfl⟩
set_option maxHeartbeats 4000000 in
theorem order_any (g n cap : Nat) (xs : List WkEl) (w : World) (ho : WkOwn g (g + 1) w (.slice (some ⟨g, 0, none⟩) n cap) xs) (hn : xs.length = n) (hx : n ≤ 40) (h0 : 0 < n) :
    Calls Try.prog 89 #[.slice (some ⟨g, 0, none⟩) n cap] w fun e w' => e = .returned (.int .i64 (makeL xs).2) ∧ WkOwn g (g + 1) w' (.slice (some ⟨g, 0, none⟩) n cap) (makeL xs).1 ∧ But (fun k => k = g) w w' := by
  have HO := hid ho
  have HN := hid hn
  have HX := hid (rfl : xs = xs)
  clear ho hn
  have hw0 : IntKind.i64.wrap ((n : Int) / 2 - 1) = (n : Int) / 2 - 1 := by rw [IntKind.wrap_i64]; omega
  go_enter Try.func89, Try.ntmps89
  go_wp2
  go_loopw [3, 4] (fun s i wr => ∃ (j t : Nat) (l : List WkEl), i = .int .i64 ((j : Int) - 1) ∧ s = .int .i64 t ∧ j ≤ 20 ∧ t ≤ 40 * (20 - j) ∧ j ≤ n / 2 ∧ l.length = n ∧ makeL xs = makeF j l t ∧ WkOwn g (g + 1) wr (.slice (some ⟨g, 0, none⟩) n cap) l ∧ But (fun k => k = g) w wr) (fun _ i _ => (intOf i + 1).toNat)
  case atStart =>
    exact ⟨n / 2, 0, xs, congrArg (Value.int .i64) (by omega), rfl, by omega, by omega, Nat.le_refl _, HN.out, by unfold makeL; rw [HN.out], HO.out, But.refl _ _⟩
  case round =>
    obtain ⟨j, t, l, rfl, rfl, hj20, ht, hj2, hl, hmk, hown, hbel⟩ := hrel
    have HM := hid hmk
    have HW := hid hown
    have HB := hid hbel
    have HL := hid hl
    clear hmk hown hbel hl
    by_cases hj : 0 < j
    · obtain ⟨m, rfl⟩ : ∃ m, j = m + 1 := ⟨j - 1, by omega⟩
      have hz : ((m + 1 : Nat) : Int) - 1 = (m : Int) := by omega
      rw [hz]
      have hdm := downL_many l.length l m 0 (by rw [HL.out]; omega)
      rw [HL.out] at hdm
      have hds := downL_len l.length l m 0
      rw [HL.out] at hds
      obtain ⟨d, hd⟩ : ∃ d, d = (downL n l m 0).2 := ⟨_, rfl⟩
      obtain ⟨l', hl'⟩ : ∃ l', l' = (downL n l m 0).1 := ⟨_, rfl⟩
      have HD : Hid (∀ wq, WkOwn g (g + 1) wq (.slice (some ⟨g, 0, none⟩) n cap) l → Calls Try.prog 105 #[.int .i64 m, .int .i64 n, lessV (.slice (some ⟨g, 0, none⟩) n cap), swapV (.slice (some ⟨g, 0, none⟩) n cap)] wq fun e w' => e = .returned (.int .i64 d) ∧ WkOwn g (g + 1) w' (.slice (some ⟨g, 0, none⟩) n cap) l' ∧ But (fun k => k = g) wq w') := fun wq ho => by
        have := heapDown_any g n cap l m wq ho HL.out (by omega) (by omega)
        rw [← hd, ← hl'] at this
        exact this
      have HM2 : Hid (makeL xs = makeF m l' (t + d)) := by
        show _ = _
        rw [HM.out, makeF, HL.out, ← hd, ← hl']
      have hl2 : Hid (l'.length = n) := by rw [hl']; exact hds
      rw [← hd] at hdm
      clear hd hl' hds hz
      go_wp2_with fail
      refine (HD.out _ HW.out).mono ?_
      rintro e w2 ⟨rfl, o2, b2⟩
      have O2 := hid o2
      have B2 : Hid (But (fun k => k = g) w w2) := HB.out.trans b2
      clear o2 b2
      go_wp2
      go_roundw
      case rel => exact ⟨m, t + d, l', by go_num, by go_num, by omega, by omega, by omega, hl2.out, HM2.out, O2.out, B2.out⟩
      case measure => simp [intOf]
    · obtain rfl : j = 0 := by omega
      have hs : Hid (makeL xs = (l, t)) := by show _ = _; rw [HM.out]; rfl
      go_wp2
      go_ret
      exact ⟨by rw [hs.out]; rfl, by rw [hs.out]; exact HW.out, HB.out⟩
end Go.Proofs.Ytndbdioignmaeaa

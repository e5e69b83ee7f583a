/-
  impl.allWithin: whether all of a list lie between two numbers. Nothing old is written.
-/
import Derived.Test.YtdlkilacnnjglaaHandFns
import Derived.Test.YtdlkilacnnjglaaSAll7
import Derived.Deep.Draws
import Derived.Test.YtdlkilacnnjglaaBoxL
namespace Go.Proofs.Ytdlkilacnnjglaa
open Go.RowKit

/-- The closure of allWithin: whether a number lies outside. -/
abbrev outV (b c : Nat) : Value := .func (.func 76) #[] #[.pointer (some ⟨b, 0, none⟩), .pointer (some ⟨c, 0, none⟩)]
theorem iout_eq (b c : Nat) (lo hi x : Int) (t : Bool) (ht : inB lo hi x = t) (w : World) (c0 : w.cell? ⟨b, 0, none⟩ = some (.int .i64 lo)) (c1 : w.cell? ⟨c, 0, none⟩ = some (.int .i64 hi)) :
    Calls Try.prog 76 #[.int .i64 x, .pointer (some ⟨b, 0, none⟩), .pointer (some ⟨c, 0, none⟩)] w fun e w' => e = .returned (.bool (!t)) ∧ w' = w := by
  unfold inB at ht
  by_cases h1 : x < lo
  · have hv : Hid (t = false) := by show _ = _; rw [← ht, decide_eq_false (by omega)]
    have d1 : decide (x < lo) = true := by simpa using h1
    clear ht
    go_enter Try.func76, Try.ntmps76
    go_wp2
    go_ret
    exact ⟨by rw [hv.out]; rfl, rfl⟩
  have d1 : decide (x < lo) = false := by simpa using h1
  obtain ⟨s, hs⟩ : ∃ s, decide (hi < x) = s := ⟨_, rfl⟩
  have hv : Hid (t = !s) := by
    show _ = _
    rw [← ht, ← hs]
    by_cases h2 : hi < x
    · rw [decide_eq_true h2, decide_eq_false (by omega)]; rfl
    · rw [decide_eq_false h2, decide_eq_true (by omega)]; rfl
  clear ht
  go_enter Try.func76, Try.ntmps76
  go_wp2
  go_ret
  exact ⟨by rw [hv.out, Bool.not_not]; rfl, rfl⟩
theorem iindexO_any (b c : Nat) (lo hi : Int) (v : Value) (xs : List Int) (w : World) (hr : KReads w v xs) (c0 : w.cell? ⟨b, 0, none⟩ = some (.int .i64 lo)) (c1 : w.cell? ⟨c, 0, none⟩ = some (.int .i64 hi)) :
    Calls Try.prog 102 #[v, outV b c] w fun e w' => ∃ r : Int, e = .returned (.int .i64 r) ∧ decide (0 ≤ r) = !(xs.all (inB lo hi)) ∧ w' = w := by
  have HR := hid hr
  obtain ⟨a, cap, rfl, hl, _⟩ := hr
  have C0 := hid c0
  have C1 := hid c1
  clear c0 c1
  go_enter Try.func102, Try.ntmps102
  go_wp2
  go_loopw [8] (fun i wr => ∃ k : Nat, k ≤ xs.length ∧ i = .int .i64 k ∧ (xs.take k).all (inB lo hi) = true ∧ w = wr) (fun i _ => xs.length - (intOf i).toNat)
  case atStart => exact ⟨0, Nat.zero_le _, rfl, rfl, rfl⟩
  case round =>
    obtain ⟨k, hk, rfl, hall, rfl⟩ := hrel
    have HL := hid hall
    clear hall
    by_cases hlt : k < xs.length
    · obtain ⟨g, o, cap', e, hc⟩ := HR.out.cells k hlt
      cases e
      obtain ⟨x, hx0⟩ : ∃ x, x = xs.getD k 0 := ⟨_, rfl⟩
      have hck : w.cell? ⟨g, o + k, none⟩ = some (.int .i64 x) := by rw [hx0]; exact hc k hlt
      obtain ⟨b, hb⟩ : ∃ b, inB lo hi (xs.getD k 0) = b := ⟨_, rfl⟩
      have HK := hid hb
      have HKX : Hid (inB lo hi x = b) := by rw [hx0]; exact hb
      have HS : Hid ((xs.take (k + 1)).all (inB lo hi) = b) := by show _ = _; rw [iall7_take xs _ k hlt, HL.out, show sl7 xs k = xs.getD k 0 from rfl, hb, Bool.true_and]
      clear hc hb hx0
      go_wp2_with fail
      refine (iout_eq _ _ lo hi x b HKX.out _ C0.out C1.out).mono ?_
      rintro e w' ⟨rfl, hw⟩; obtain rfl := hw.symm
      cases b
      · have hv : Hid (xs.all (inB lo hi) = false) := iall7_false k hlt HK.out
        go_wp2
        go_ret
        exact ⟨_, rfl, by rw [hv.out]; simp, rfl⟩
      · go_wp2
        go_roundw
        case rel => exact ⟨k + 1, by omega, by go_num, HS.out, by first | rfl | trivial⟩
        case measure => simp [intOf]; omega
    · have hv : Hid (xs.all (inB lo hi) = true) := by show _ = _; have := HL.out; rw [List.take_of_length_le (by omega)] at this; exact this
      go_wp2
      go_ret
      exact ⟨_, rfl, by rw [hv.out]; rfl, rfl⟩
theorem icontO_any (b c : Nat) (lo hi : Int) (v : Value) (xs : List Int) (t : Bool) (ht : xs.all (inB lo hi) = t) (w : World) (hr : KReads w v xs) (c0 : w.cell? ⟨b, 0, none⟩ = some (.int .i64 lo)) (c1 : w.cell? ⟨c, 0, none⟩ = some (.int .i64 hi)) :
    Calls Try.prog 75 #[v, outV b c] w fun e w' => e = .returned (.bool (!t)) ∧ w' = w := by
  have HR := hid hr
  have HT := hid ht
  have C0 := hid c0
  have C1 := hid c1
  clear hr ht c0 c1
  go_enter Try.func75, Try.ntmps75
  go_wp2_with fail
  refine (iindexO_any b c lo hi v xs _ HR.out C0.out C1.out).mono ?_
  rintro e w' ⟨r, rfl, hd, hw⟩; obtain rfl := hw.symm
  rw [HT.out] at hd
  go_wp2
  go_ret
  exact ⟨by rw [← hd]; rfl, rfl⟩
set_option maxHeartbeats 4000000 in
theorem iallIn_eq (v : Value) (xs : List Int) (lo hi : Int) (t : Bool) (ht : xs.all (inB lo hi) = t) (w : World) (hr : KReads w v xs) :
    Calls Try.prog 41 #[v, .int .i64 lo, .int .i64 hi] w fun e w' => e = .returned (.bool t) ∧ Below w.heap.size w w' := by
  have HR := hid hr
  have HT := hid ht
  clear hr ht
  have BW : Hid (Below w.heap.size w ((w.alloc (.cells #[.int .i64 lo] 3)).alloc (.cells #[.int .i64 hi] 3))) := ((Below.refl _ _).alloc (Nat.le_refl _) _).alloc (by simp) _
  have C0 : Hid (((w.alloc (.cells #[.int .i64 lo] 3)).alloc (.cells #[.int .i64 hi] 3)).cell? ⟨w.heap.size, 0, none⟩ = some (.int .i64 lo)) :=
    (((boxL_new w [.int .i64 lo] 3).below ((Below.refl _ _).alloc (Nat.le_refl _) (.cells #[.int .i64 hi] 3)) (by simp)).cell 0 (by simp)).1
  have C1 : Hid (((w.alloc (.cells #[.int .i64 lo] 3)).alloc (.cells #[.int .i64 hi] 3)).cell? ⟨w.heap.size + 1, 0, none⟩ = some (.int .i64 hi)) := by
    have := ((boxL_new (w.alloc (.cells #[.int .i64 lo] 3)) [.int .i64 hi] 3).cell 0 (by simp)).1
    rw [World.size_alloc] at this
    exact this
  go_enter Try.func41, Try.ntmps41
  go_wp2_with fail
  refine (icontO_any _ _ lo hi v xs t HT.out _ (HR.out.below BW.out) C0.out C1.out).mono ?_
  rintro e w' ⟨rfl, hw⟩; obtain rfl := hw.symm
  go_wp2
  go_ret
  exact ⟨rfl, BW.out⟩
end Go.Proofs.Ytdlkilacnnjglaa

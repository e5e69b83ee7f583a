/-
  impl.wholesIn: a small number over 4 or 8, down. Nothing is written.
-/
import Derived.Test.YteeaebelknpdjbbInts
import Derived.Test.YteeaebelknpdjbbFloQ80
import Derived.Test.YteeaebelknpdjbbFloQ81
import Derived.Test.YteeaebelknpdjbbFloQ82
import Derived.Test.YteeaebelknpdjbbFloQ4
import Derived.WalkLawsBesides
namespace Go.Proofs.Yteeaebelknpdjbb
open Go.RowKit

theorem isQ8_all (n : Nat) (h : n < 8100) : isQ n 8 = true := by
  rcases (by omega : n < 900 ∨ (900 ≤ n ∧ n < 1800) ∨ (1800 ≤ n ∧ n < 2700) ∨ (2700 ≤ n ∧ n < 3600) ∨ (3600 ≤ n ∧ n < 4500) ∨ (4500 ≤ n ∧ n < 5400) ∨ (5400 ≤ n ∧ n < 6300) ∨ (6300 ≤ n ∧ n < 7200) ∨ (7200 ≤ n ∧ n < 8100)) with h | h | h | h | h | h | h | h | h
  · exact isQs_at 8 900 0 n isQ8_0 (by omega) (by omega)
  · exact isQs_at 8 900 900 n isQ8_1 (by omega) (by omega)
  · exact isQs_at 8 900 1800 n isQ8_2 (by omega) (by omega)
  · exact isQs_at 8 900 2700 n isQ8_3 (by omega) (by omega)
  · exact isQs_at 8 900 3600 n isQ8_4 (by omega) (by omega)
  · exact isQs_at 8 900 4500 n isQ8_5 (by omega) (by omega)
  · exact isQs_at 8 900 5400 n isQ8_6 (by omega) (by omega)
  · exact isQs_at 8 900 6300 n isQ8_7 (by omega) (by omega)
  · exact isQs_at 8 900 7200 n isQ8_8 (by omega) (by omega)
theorem isQ4_all (n : Nat) (h : n < 4500) : isQ n 4 = true := by
  rcases (by omega : n < 900 ∨ (900 ≤ n ∧ n < 1800) ∨ (1800 ≤ n ∧ n < 2700) ∨ (2700 ≤ n ∧ n < 3600) ∨ (3600 ≤ n ∧ n < 4500)) with h | h | h | h | h
  · exact isQs_at 4 900 0 n isQ4_0 (by omega) (by omega)
  · exact isQs_at 4 900 900 n isQ4_1 (by omega) (by omega)
  · exact isQs_at 4 900 1800 n isQ4_2 (by omega) (by omega)
  · exact isQs_at 4 900 2700 n isQ4_3 (by omega) (by omega)
  · exact isQs_at 4 900 3600 n isQ4_4 (by omega) (by omega)

theorem run_archFloor (x y : Nat) (h : flo9 x = some y) (w : World) : (callFunc 41 #[.float .f64 x]).run Try.prog w = .ok (.value (.float .f64 y)) w := by
  rw [run_callFunc_extern Try.func41 (by kernel_rfl) (by kernel_rfl) (by kernel_rfl) (e := Extern.MathFloor.toIntegral "math.archFloor" .down) (by kernel_rfl)]
  have hr : (Extern.MathFloor.toIntegral "math.archFloor" .down #[.float .f64 x]).run Try.prog w = .ok (.float .f64 y) w := by
    unfold flo9 at h
    change Sem.run Try.prog (Extern.MathFloor.toIntegral.match_1 (fun _ => Sem Value) (FloatKind.f64.decode x) _ _) _ = _
    cases hd : FloatKind.f64.decode x with
    | nan s t => rw [hd] at h; simp at h
    | infinity s => rw [hd] at h; simp only [Option.some.injEq] at h; rw [← h]; rfl
    | number s m i => rw [hd] at h; simp only [Option.some.injEq] at h; rw [← h]; rfl
  rw [hr]
  rfl
theorem floor_any (x y : Nat) (h : flo9 x = some y) (w : World) : Calls Try.prog 39 #[.float .f64 x] w fun e w' => e = .returned (.float .f64 y) ∧ w' = w := by
  have hr := run_archFloor x y h
  clear h
  go_enter Try.func39, Try.ntmps39
  go_wp2
  go_ret
  exact ⟨rfl, rfl⟩
set_option maxHeartbeats 1000000 in
theorem wholes_at (n e : Nat) (hq : isQ n e = true) (w : World) : Calls Try.prog 33 #[.int .i64 n, .int .i64 e] w fun x w' => x = .returned (.int .i64 ((n / e : Nat) : Int)) ∧ w' = w := by
  obtain ⟨r, y, h1, h2, h3⟩ := isQ_out hq
  obtain ⟨q, hqq⟩ : ∃ q : Int, ((n / e : Nat) : Int) = q := ⟨_, rfl⟩
  rw [hqq] at h3 ⊢
  obtain ⟨a, ha⟩ : ∃ a, floatOfInt .f64 (n : Int) = a := ⟨_, rfl⟩
  obtain ⟨b, hb⟩ : ∃ b, floatOfInt .f64 (e : Int) = b := ⟨_, rfl⟩
  rw [ha, hb] at h1
  have r1 : ∀ (w : World), (binOp .quo 61 (.float .f64 a) (.float .f64 b)).run Try.prog w = .ok (.float .f64 r) w := fun w => run_float_arith w .quo _ .f64 a b r h1
  have r3 : ∀ (w : World), (convert 61 3 (.float .f64 y)).run Try.prog w = .ok (.int .i64 q) w := fun w => run_convert_float_int w _ _ .f64 .i64 y q (by kernel_rfl) Try.underlying3 h3
  have H2 := hid h2
  clear h1 h2 h3 hq hqq
  go_enter Try.func33, Try.ntmps33
  go_wp2_with fail
  refine (floor_any r y H2.out _).mono ?_
  rintro x w' ⟨rfl, hw⟩; obtain rfl := hw.symm
  go_wp2
  go_ret
  exact ⟨rfl, rfl⟩
theorem wholes8 (m q : Int) (h0 : 0 ≤ m) (h1 : m ≤ 8000) (hq : m / 8 = q) (w : World) : Calls Try.prog 33 #[.int .i64 m, .int .i64 8] w fun x w' => x = .returned (.int .i64 q) ∧ w' = w := by
  obtain ⟨n, rfl⟩ := Int.eq_ofNat_of_zero_le h0
  have := wholes_at n 8 (isQ8_all n (by omega)) w
  rw [show ((n / 8 : Nat) : Int) = q by rw [← hq]; omega] at this
  exact this
theorem wholes4 (m q : Int) (h0 : 0 ≤ m) (h1 : m ≤ 4000) (hq : m / 4 = q) (w : World) : Calls Try.prog 33 #[.int .i64 m, .int .i64 4] w fun x w' => x = .returned (.int .i64 q) ∧ w' = w := by
  obtain ⟨n, rfl⟩ := Int.eq_ofNat_of_zero_le h0
  have := wholes_at n 4 (isQ4_all n (by omega)) w
  rw [show ((n / 4 : Nat) : Int) = q by rw [← hq]; omega] at this
  exact this
end Go.Proofs.Yteeaebelknpdjbb

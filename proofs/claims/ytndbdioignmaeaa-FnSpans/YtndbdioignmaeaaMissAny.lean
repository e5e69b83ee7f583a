/-
  MissingIn of both sides: what is told, in memory of its own; nothing old is written.
-/
import Derived.Test.YtndbdioignmaeaaMissing
import Derived.Test.YtndbdioignmaeaaSMiss
import Derived.Test.YtndbdioignmaeaaSGood
import Derived.Test.YtndbdioignmaeaaIGood
import Derived.Test.YtndbdioignmaeaaTell2
import Derived.Test.YtndbdioignmaeaaLenFacts
namespace Go.Proofs.Ytndbdioignmaeaa
open Go.RowKit
set_option maxRecDepth 100000

theorem l1In_any (n lo hi : Int) (w : World) : Calls Try.prog 62 #[.int .i64 n, .int .i64 lo, .int .i64 hi] w fun e w' => e = .returned (.bool (decide (lo ≤ n) && decide (n ≤ hi))) ∧ w' = w := by
  by_cases h1 : lo ≤ n
  · have d1 : decide (lo ≤ n) = true := by simpa using h1
    go_enter Try.func62, Try.ntmps62
    go_wp2
    all_goals
      go_ret
      exact ⟨by simp [h1], rfl⟩
  · have d1 : decide (lo ≤ n) = false := by simpa using h1
    go_enter Try.func62, Try.ntmps62
    go_wp2
    all_goals
      go_ret
      exact ⟨by simp, rfl⟩
def missOk (xs : List Sp) (u : Int) : Bool := goodL xs && (decide (0 ≤ u) && decide (u ≤ 1000000))
def missY (xs : List Sp) (u : Int) : List Sp := if missOk xs u = true then tellY (missL xs u) else []
def missB (xs : List Sp) (u : Int) : Bool := missOk xs u && tellB (missL xs u)

set_option maxHeartbeats 1000000 in
theorem smissIn_any (v : Value) (xs : List Sp) (u : Int) (w : World) (hr : SReads w v xs) :
    Calls Try.prog 19 #[v, .int .i64 u] w fun e w' => ∃ v', e = .returned (.tuple #[v', .bool (missB xs u)]) ∧ SOwn w.heap.size w' v' (missY xs u) ∧ Below w.heap.size w w' := by
  have HR := hid hr
  unfold missY missB missOk
  clear hr
  cases hg : goodL xs with
  | false =>
    go_enter Try.func19, Try.ntmps19
    go_wp2_with fail
    refine (sgood_any v xs _ HR.out).mono ?_
    rintro e w1 ⟨rfl, b1⟩
    have B1 := hid b1
    clear b1
    rw [hg]
    go_wp2
    go_ret2
    exact ⟨_, rfl, sown_nil _ _ _, B1.out⟩
  | true =>
    cases hu : (decide (0 ≤ u) && decide (u ≤ 1000000)) with
    | false =>
      have HU := hid hu
      clear hu
      go_enter Try.func19, Try.ntmps19
      go_wp2_with fail
      refine (sgood_any v xs _ HR.out).mono ?_
      rintro e w1 ⟨rfl, b1⟩
      have B1 := hid b1
      clear b1
      rw [hg]
      go_wp2_with fail
      refine (l1In_any u 0 1000000 w1).mono ?_
      rintro e w' ⟨rfl, hw⟩; obtain rfl := hw.symm
      rw [HU.out]
      go_wp2
      go_ret2
      exact ⟨_, rfl, sown_nil _ _ _, B1.out⟩
    | true =>
      have HU := hid hu
      have hx := good_len hg
      clear hu
      go_enter Try.func19, Try.ntmps19
      go_wp2_with fail
      refine (sgood_any v xs _ HR.out).mono ?_
      rintro e w1 ⟨rfl, b1⟩
      have B1 := hid b1
      clear b1
      rw [hg]
      go_wp2_with fail
      refine (l1In_any u 0 1000000 w1).mono ?_
      rintro e w' ⟨rfl, hw⟩; obtain rfl := hw.symm
      rw [HU.out]
      go_wp2_with fail
      refine (smiss_any v xs u w1 (HR.out.below B1.out) (by omega)).mono ?_
      rintro e w2 ⟨v2, rfl, o2, b2⟩
      have B2 : Hid (Below w.heap.size w w2) := B1.out.trans (b2.mono B1.out.size)
      have O2 := hid (o2.mono B1.out.size)
      clear b2 o2 B1
      go_wp2_with fail
      refine (stell_own _ _ _ _ O2.out).mono ?_
      rintro e w' ⟨v3, rfl, o3, hw⟩; obtain rfl := hw.symm
      have O3 := hid o3
      clear o3
      go_wp2
      go_ret2
      exact ⟨_, rfl, O3.out, B2.out⟩
set_option maxHeartbeats 1000000 in
theorem imissIn_any (v : Value) (xs : List Sp) (u : Int) (w : World) (hr : SReads w v xs) :
    Calls Try.prog 18 #[v, .int .i64 u] w fun e w' => ∃ v', e = .returned (.tuple #[v', .bool (missB xs u)]) ∧ SOwn w.heap.size w' v' (missY xs u) ∧ Below w.heap.size w w' := by
  have HR := hid hr
  unfold missY missB missOk
  clear hr
  cases hg : goodL xs with
  | false =>
    go_enter Try.func18, Try.ntmps18
    go_wp2_with fail
    refine (igood_any v xs _ HR.out).mono ?_
    rintro e w1 ⟨rfl, b1⟩
    have B1 := hid b1
    clear b1
    rw [hg]
    go_wp2
    go_ret2
    exact ⟨_, rfl, sown_nil _ _ _, B1.out⟩
  | true =>
    by_cases h0 : 0 ≤ u
    · by_cases h1 : u ≤ 1000000
      · have HC := hid (good_chain hg)
        have HU : Hid ((decide (0 ≤ u) && decide (u ≤ 1000000)) = true) := by show _ = _; simp [h0, h1]
        rw [HU.out]
        go_enter Try.func18, Try.ntmps18
        go_wp2_with fail
        refine (igood_any v xs _ HR.out).mono ?_
        rintro e w1 ⟨rfl, b1⟩
        have B1 := hid b1
        clear b1
        rw [hg]
        go_wp2_with fail
        refine (missing_any v xs u w1 (HR.out.below B1.out) HC.out h0 h1).mono ?_
        rintro e w2 ⟨v2, rfl, o2, b2⟩
        have B2 : Hid (Below w.heap.size w w2) := B1.out.trans (b2.mono B1.out.size)
        have O2 := hid (o2.mono B1.out.size)
        clear b2 o2 B1
        go_wp2_with fail
        refine (itell_own _ _ _ _ O2.out).mono ?_
        rintro e w' ⟨v3, rfl, o3, hw⟩; obtain rfl := hw.symm
        have O3 := hid o3
        clear o3
        go_wp2
        go_ret2
        exact ⟨_, rfl, O3.out, B2.out⟩
      · have HU : Hid ((decide (0 ≤ u) && decide (u ≤ 1000000)) = false) := by show _ = _; simp [h1]
        rw [HU.out]
        go_enter Try.func18, Try.ntmps18
        go_wp2_with fail
        refine (igood_any v xs _ HR.out).mono ?_
        rintro e w1 ⟨rfl, b1⟩
        have B1 := hid b1
        clear b1
        rw [hg]
        go_wp2
        go_ret2
        exact ⟨_, rfl, sown_nil _ _ _, B1.out⟩
    · have HU : Hid ((decide (0 ≤ u) && decide (u ≤ 1000000)) = false) := by show _ = _; simp [h0]
      rw [HU.out]
      go_enter Try.func18, Try.ntmps18
      go_wp2_with fail
      refine (igood_any v xs _ HR.out).mono ?_
      rintro e w1 ⟨rfl, b1⟩
      have B1 := hid b1
      clear b1
      rw [hg]
      go_wp2
      go_ret2
      exact ⟨_, rfl, sown_nil _ _ _, B1.out⟩
end Go.Proofs.Ytndbdioignmaeaa

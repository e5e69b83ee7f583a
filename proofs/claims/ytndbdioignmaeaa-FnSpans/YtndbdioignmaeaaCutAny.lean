/-
  CutSpan of both sides: what is told, in memory of its own; nothing old is written.
-/
import Derived.Test.YtndbdioignmaeaaSMiss
import Derived.Test.YtndbdioignmaeaaWithout
import Derived.Test.YtndbdioignmaeaaSGood
import Derived.Test.YtndbdioignmaeaaIGood
import Derived.Test.YtndbdioignmaeaaGoodSpan
import Derived.Test.YtndbdioignmaeaaTell2
import Derived.Test.YtndbdioignmaeaaLenFacts
namespace Go.Proofs.Ytndbdioignmaeaa
open Go.RowKit
set_option maxRecDepth 100000

def cutOk (xs : List Sp) (x : Sp) : Bool := goodL xs && spB x
def cutY (xs : List Sp) (x : Sp) : List Sp := if cutOk xs x = true then tellY (cutF xs x) else []
def cutB (xs : List Sp) (x : Sp) : Bool := cutOk xs x && tellB (cutF xs x)
theorem cutY_len (xs : List Sp) (x : Sp) : (cutY xs x).length ≤ 1048576 := by
  unfold cutY
  split
  · have := tellY_len (cutF xs x); omega
  · simp

set_option maxHeartbeats 1000000 in
theorem icut_any (v : Value) (xs : List Sp) (p q : Int) (w : World) (hr : SReads w v xs) :
    Calls Try.prog 23 #[v, .agg #[.int .i64 p, .int .i64 q]] w fun e w' => ∃ v', e = .returned (.tuple #[v', .bool (cutB xs (p, q))]) ∧ SOwn w.heap.size w' v' (cutY xs (p, q)) ∧ Below w.heap.size w w' := by
  have HR := hid hr
  unfold cutY cutB cutOk
  clear hr
  cases hg : goodL xs with
  | false =>
    go_enter Try.func23, Try.ntmps23
    go_wp2_with fail
    refine (igood_any v xs _ (HR.out.below ((Below.refl _ _).alloc (Nat.le_refl _) _))).mono ?_
    rintro e w1 ⟨rfl, b1⟩
    have B1 : Hid (Below w.heap.size w w1) := ((Below.refl _ _).alloc (Nat.le_refl _) _).trans (b1.mono (by simp))
    clear b1
    rw [hg]
    go_wp2
    go_ret2
    exact ⟨_, rfl, sown_nil _ _ _, B1.out⟩
  | true =>
    cases hx : spB (p, q) with
    | false =>
      go_enter Try.func23, Try.ntmps23
      go_wp2_with fail
      refine (igood_any v xs _ (HR.out.below ((Below.refl _ _).alloc (Nat.le_refl _) _))).mono ?_
      rintro e w1 ⟨rfl, b1⟩
      have c0 := (b1.cell (p := ⟨w.heap.size, 0, none⟩) (by simp)).trans (show _ = some (.int .i64 p) by simp)
      have c1 := (b1.cell (p := ⟨w.heap.size, 1, none⟩) (by simp)).trans (show _ = some (.int .i64 q) by simp)
      have B1 : Hid (Below w.heap.size w w1) := ((Below.refl _ _).alloc (Nat.le_refl _) _).trans (b1.mono (by simp))
      clear b1
      rw [hg]
      go_wp2_with fail
      refine (goodSpan_no p q _ hx).mono ?_
      rintro e w2 ⟨rfl, b2⟩
      have B2 : Hid (Below w.heap.size w w2) := B1.out.trans (b2.mono B1.out.size)
      clear b2 c0 c1 B1
      go_wp2
      go_ret2
      exact ⟨_, rfl, sown_nil _ _ _, B2.out⟩
    | true =>
      have HC := hid (good_chain hg)
      have hl20 := good_len hg
      have HE : Hid (cutL xs (p, q) = cutF xs (p, q)) := cutL_cutF HC.out ((spB_iff _).1 hx).2.1
      go_enter Try.func23, Try.ntmps23
      go_wp2_with fail
      refine (igood_any v xs _ (HR.out.below ((Below.refl _ _).alloc (Nat.le_refl _) _))).mono ?_
      rintro e w1 ⟨rfl, b1⟩
      have c0 := (b1.cell (p := ⟨w.heap.size, 0, none⟩) (by simp)).trans (show _ = some (.int .i64 p) by simp)
      have c1 := (b1.cell (p := ⟨w.heap.size, 1, none⟩) (by simp)).trans (show _ = some (.int .i64 q) by simp)
      have B1 : Hid (Below w.heap.size w w1) := ((Below.refl _ _).alloc (Nat.le_refl _) _).trans (b1.mono (by simp))
      clear b1
      rw [hg]
      go_wp2_with fail
      refine (goodSpan_yes p q _ hx).mono ?_
      rintro e w2 ⟨rfl, b2⟩
      have d0 := (b2.cell (p := ⟨w.heap.size, 0, none⟩) (lt_of_cell c0)).trans c0
      have d1 := (b2.cell (p := ⟨w.heap.size, 1, none⟩) (lt_of_cell c1)).trans c1
      have B2 : Hid (Below w.heap.size w w2) := B1.out.trans (b2.mono B1.out.size)
      clear b2 c0 c1 B1
      go_wp2_with fail
      refine (without_any v xs p q w2 (HR.out.below B2.out) (by omega)).mono ?_
      rintro e w3 ⟨v3, rfl, o3, b3⟩
      rw [HE.out] at o3
      have B3 : Hid (Below w.heap.size w w3) := B2.out.trans (b3.mono B2.out.size)
      have O3 := hid (o3.mono B2.out.size)
      clear o3 b3 d0 d1
      go_wp2_with fail
      refine (itell_own _ _ _ _ O3.out).mono ?_
      rintro e w' ⟨v4, rfl, o4, hw⟩; obtain rfl := hw.symm
      have O4 := hid o4
      clear o4
      go_wp2
      go_ret2
      exact ⟨_, rfl, O4.out, B3.out⟩

set_option maxHeartbeats 1000000 in
theorem scut_any (v : Value) (xs : List Sp) (p q : Int) (w : World) (hr : SReads w v xs) :
    Calls Try.prog 24 #[v, .agg #[.int .i64 p, .int .i64 q]] w fun e w' => ∃ v', e = .returned (.tuple #[v', .bool (cutB xs (p, q))]) ∧ SOwn w.heap.size w' v' (cutY xs (p, q)) ∧ Below w.heap.size w w' := by
  have HR := hid hr
  unfold cutY cutB cutOk
  clear hr
  cases hg : goodL xs with
  | false =>
    go_enter Try.func24, Try.ntmps24
    go_wp2_with fail
    refine (sgood_any v xs _ (HR.out.below ((Below.refl _ _).alloc (Nat.le_refl _) _))).mono ?_
    rintro e w1 ⟨rfl, b1⟩
    have B1 : Hid (Below w.heap.size w w1) := ((Below.refl _ _).alloc (Nat.le_refl _) _).trans (b1.mono (by simp))
    clear b1
    rw [hg]
    go_wp2
    go_ret2
    exact ⟨_, rfl, sown_nil _ _ _, B1.out⟩
  | true =>
    cases hx : spB (p, q) with
    | false =>
      go_enter Try.func24, Try.ntmps24
      go_wp2_with fail
      refine (sgood_any v xs _ (HR.out.below ((Below.refl _ _).alloc (Nat.le_refl _) _))).mono ?_
      rintro e w1 ⟨rfl, b1⟩
      have c0 := (b1.cell (p := ⟨w.heap.size, 0, none⟩) (by simp)).trans (show _ = some (.int .i64 p) by simp)
      have c1 := (b1.cell (p := ⟨w.heap.size, 1, none⟩) (by simp)).trans (show _ = some (.int .i64 q) by simp)
      have B1 : Hid (Below w.heap.size w w1) := ((Below.refl _ _).alloc (Nat.le_refl _) _).trans (b1.mono (by simp))
      clear b1
      rw [hg]
      go_wp2_with fail
      refine (l2Span_no p q _ hx).mono ?_
      rintro e w2 ⟨rfl, b2⟩
      have B2 : Hid (Below w.heap.size w w2) := B1.out.trans (b2.mono B1.out.size)
      clear b2 c0 c1 B1
      go_wp2
      go_ret2
      exact ⟨_, rfl, sown_nil _ _ _, B2.out⟩
    | true =>
      have HC := hid (good_chain hg)
      have hl20 := good_len hg
      have HE : Hid (meetL xs (missL [(p, q)] 1000000) = cutF xs (p, q)) := meet_cut HC.out hx
      have hx' := (spB_iff (p, q)).1 hx
      have hml : (missL [(p, q)] 1000000).length ≤ 1000 := by
        show (missF 1000000 0 [(p, q)]).length ≤ 1000
        simp only [missF]
        split <;> (try split) <;> (try split) <;> simp
      clear hx'
      go_enter Try.func24, Try.ntmps24
      go_wp2_with fail
      refine (sgood_any v xs _ (HR.out.below ((Below.refl _ _).alloc (Nat.le_refl _) _))).mono ?_
      rintro e w1 ⟨rfl, b1⟩
      have c0 := (b1.cell (p := ⟨w.heap.size, 0, none⟩) (by simp)).trans (show _ = some (.int .i64 p) by simp)
      have c1 := (b1.cell (p := ⟨w.heap.size, 1, none⟩) (by simp)).trans (show _ = some (.int .i64 q) by simp)
      have B1 : Hid (Below w.heap.size w w1) := ((Below.refl _ _).alloc (Nat.le_refl _) _).trans (b1.mono (by simp))
      clear b1
      rw [hg]
      go_wp2_with fail
      refine (l2Span_yes p q _ hx).mono ?_
      rintro e w2 ⟨rfl, b2⟩
      have d0 := (b2.cell (p := ⟨w.heap.size, 0, none⟩) (lt_of_cell c0)).trans c0
      have d1 := (b2.cell (p := ⟨w.heap.size, 1, none⟩) (lt_of_cell c1)).trans c1
      have B2 : Hid (Below w.heap.size w w2) := B1.out.trans (b2.mono B1.out.size)
      clear b2 c0 c1 B1
      go_wp2_with fail
      refine (smiss_any _ [(p, q)] 1000000 _ ⟨_, _, rfl, by simp, .inr ⟨_, 0, rfl, fun i hi => ?_⟩⟩ (by simp)).mono ?_
      · obtain rfl : i = 0 := by simpa using hi
        exact ⟨by simp, by simp⟩
      rintro e w3 ⟨v3, rfl, o3, b3⟩
      have B3 : Hid (Below w.heap.size w w3) := (B2.out.alloc B2.out.size _).trans (b3.mono (by have := B2.out.size; simp; omega))
      have O3 := hid o3.reads
      clear o3 b3 d0 d1
      go_wp2_with fail
      refine (smeet_any v v3 xs _ w3 (HR.out.below B3.out) O3.out (by omega) hml).mono ?_
      rintro e w4 ⟨v4, rfl, o4, b4⟩
      rw [HE.out] at o4
      have B4 : Hid (Below w.heap.size w w4) := B3.out.trans (b4.mono B3.out.size)
      have O4 := hid (o4.mono B3.out.size)
      clear o4 b4
      go_wp2_with fail
      refine (stell_own _ _ _ _ O4.out).mono ?_
      rintro e w' ⟨v5, rfl, o5, hw⟩; obtain rfl := hw.symm
      have O5 := hid o5
      clear o5
      go_wp2
      go_ret2
      exact ⟨_, rfl, O5.out, B4.out⟩
end Go.Proofs.Ytndbdioignmaeaa

/-
  spec.AddSpan: good spans with a span put into them, and how many numbers are new; nothing old is written.
-/
import Derived.Test.YtndbdioignmaeaaSAdd
import Derived.Test.YtndbdioignmaeaaTell
import Derived.Test.YtndbdioignmaeaaLenFacts
import Derived.Test.YtndbdioignmaeaaSGood
import Derived.Test.YtndbdioignmaeaaSpanLen
namespace Go.Proofs.Ytndbdioignmaeaa
open Go.RowKit
set_option maxRecDepth 100000

set_option maxHeartbeats 1000000 in
theorem saddSpan_yes (v : Value) (xs : List Sp) (p q : Int) (w : World) (hr : SReads w v xs) (hg : goodL xs = true) (hx : spB (p, q) = true) (h20 : (addL xs (p, q)).length ≤ 20) :
    Calls Try.prog 22 #[v, .agg #[.int .i64 p, .int .i64 q]] w fun e w' => ∃ v', e = .returned (.tuple #[v', .int .i64 (lenL (addL xs (p, q)) - lenL xs), .bool true]) ∧ SOwn w.heap.size w' v' (addL xs (p, q)) ∧ Below w.heap.size w w' := by
  have HR := hid hr
  have HC := hid (good_chain hg)
  have HCA : Hid (chainB (-1) (addL xs (p, q)) = true) := addL_chain HC.out hx (by have := (spB_iff _).1 hx; simp only at this ⊢; omega)
  have hl20 := good_len hg
  have l1 := len_bounds HC.out (Int.le_refl _)
  have l2 := len_bounds HCA.out (Int.le_refl _)
  obtain ⟨n1, hn1⟩ : ∃ n1, n1 = lenL xs := ⟨_, rfl⟩
  obtain ⟨n2, hn2⟩ : ∃ n2, n2 = lenL (addL xs (p, q)) := ⟨_, rfl⟩
  rw [← hn1] at l1
  rw [← hn2] at l2
  have hwr : IntKind.i64.wrap (n2 - n1) = n2 - n1 := by rw [IntKind.wrap_i64]; omega
  have N1 := hid hn1
  have N2 := hid hn2
  clear hr hn1 hn2 l1 l2
  go_enter Try.func22, Try.ntmps22
  go_wp2_with fail
  refine (sgood_any v xs _ (HR.out.below ((Below.refl _ _).alloc (Nat.le_refl _) _))).mono ?_
  rintro e w1 ⟨rfl, b1⟩
  have c0 := (b1.cell (p := ⟨w.heap.size, 0, none⟩) (by simp)).trans (show _ = some (.int .i64 p) by simp)
  have c1 := (b1.cell (p := ⟨w.heap.size, 1, none⟩) (by simp)).trans (show _ = some (.int .i64 q) by simp)
  have B1 : Hid (Below w.heap.size w w1) := ((Below.refl _ _).alloc (Nat.le_refl _) _).trans (b1.mono (by simp))
  clear b1
  rw [hg]
  go_wp2_with fail
  refine (l2Span_yes p q _ hx).mono ?_
  rintro e w2 ⟨rfl, b2⟩
  have d0 := (b2.cell (p := ⟨w.heap.size, 0, none⟩) (lt_of_cell c0)).trans c0
  have d1 := (b2.cell (p := ⟨w.heap.size, 1, none⟩) (lt_of_cell c1)).trans c1
  have B2 : Hid (Below w.heap.size w w2) := B1.out.trans (b2.mono B1.out.size)
  clear b2 c0 c1 B1
  go_wp2_with fail
  refine (sadd_any v xs p q w2 (HR.out.below B2.out) (by omega)).mono ?_
  rintro e w3 ⟨v3, rfl, o3, b3⟩
  have B3 : Hid (Below w.heap.size w w3) := B2.out.trans (b3.mono B2.out.size)
  have O3 := hid (o3.mono B2.out.size)
  clear o3 b3 d0 d1
  go_wp2_with fail
  refine (stell_yes v3 _ w3 O3.out.reads h20).mono ?_
  rintro e w' ⟨rfl, hw⟩; obtain rfl := hw.symm
  go_wp2_with fail
  refine (slen_any v3 _ w3 O3.out.reads HCA.out).mono ?_
  rintro e w4 ⟨rfl, b4⟩
  have B4 : Hid (Below w.heap.size w w4) := B3.out.trans (b4.mono B3.out.size)
  have O4 := hid (O3.out.below b4)
  clear b4 O3
  rw [← N2.out]
  go_wp2_with fail
  refine (slen_any v _ w4 (HR.out.below B4.out) HC.out).mono ?_
  rintro e w5 ⟨rfl, b5⟩
  have B5 : Hid (Below w.heap.size w w5) := B4.out.trans (b5.mono B4.out.size)
  have O5 := hid (O4.out.below b5)
  clear b5 O4
  rw [← N1.out]
  go_wp2
  go_ret3
  exact ⟨v3, by rw [← N1.out, ← N2.out]; rfl, O5.out, B5.out⟩

set_option maxHeartbeats 1000000 in
theorem saddSpan_many (v : Value) (xs : List Sp) (p q : Int) (w : World) (hr : SReads w v xs) (hg : goodL xs = true) (hx : spB (p, q) = true) (h20 : ¬ (addL xs (p, q)).length ≤ 20) :
    Calls Try.prog 22 #[v, .agg #[.int .i64 p, .int .i64 q]] w fun e w' => e = .returned (.tuple #[.slice none 0 0, .int .i64 0, .bool false]) ∧ Below w.heap.size w w' := by
  have HR := hid hr
  have HC := hid (good_chain hg)
  have hl20 := good_len hg
  clear hr
  go_enter Try.func22, Try.ntmps22
  go_wp2_with fail
  refine (sgood_any v xs _ (HR.out.below ((Below.refl _ _).alloc (Nat.le_refl _) _))).mono ?_
  rintro e w1 ⟨rfl, b1⟩
  have c0 := (b1.cell (p := ⟨w.heap.size, 0, none⟩) (by simp)).trans (show _ = some (.int .i64 p) by simp)
  have c1 := (b1.cell (p := ⟨w.heap.size, 1, none⟩) (by simp)).trans (show _ = some (.int .i64 q) by simp)
  have B1 : Hid (Below w.heap.size w w1) := ((Below.refl _ _).alloc (Nat.le_refl _) _).trans (b1.mono (by simp))
  clear b1
  rw [hg]
  go_wp2_with fail
  refine (l2Span_yes p q _ hx).mono ?_
  rintro e w2 ⟨rfl, b2⟩
  have d0 := (b2.cell (p := ⟨w.heap.size, 0, none⟩) (lt_of_cell c0)).trans c0
  have d1 := (b2.cell (p := ⟨w.heap.size, 1, none⟩) (lt_of_cell c1)).trans c1
  have B2 : Hid (Below w.heap.size w w2) := B1.out.trans (b2.mono B1.out.size)
  clear b2 c0 c1 B1
  go_wp2_with fail
  refine (sadd_any v xs p q w2 (HR.out.below B2.out) (by omega)).mono ?_
  rintro e w3 ⟨v3, rfl, o3, b3⟩
  have B3 : Hid (Below w.heap.size w w3) := B2.out.trans (b3.mono B2.out.size)
  have O3 := hid (o3.mono B2.out.size)
  clear o3 b3 d0 d1
  go_wp2_with fail
  refine (stell_no v3 _ w3 O3.out.reads h20).mono ?_
  rintro e w' ⟨rfl, hw⟩; obtain rfl := hw.symm
  go_wp2
  go_ret3
  exact ⟨rfl, B3.out⟩

set_option maxHeartbeats 1000000 in
theorem saddSpan_bad (v : Value) (xs : List Sp) (p q : Int) (w : World) (hr : SReads w v xs) (h : (goodL xs && spB (p, q)) = false) :
    Calls Try.prog 22 #[v, .agg #[.int .i64 p, .int .i64 q]] w fun e w' => e = .returned (.tuple #[.slice none 0 0, .int .i64 0, .bool false]) ∧ Below w.heap.size w w' := by
  have HR := hid hr
  clear hr
  cases hg : goodL xs with
  | false =>
    clear h
    go_enter Try.func22, Try.ntmps22
    go_wp2_with fail
    refine (sgood_any v xs _ (HR.out.below ((Below.refl _ _).alloc (Nat.le_refl _) _))).mono ?_
    rintro e w1 ⟨rfl, b1⟩
    have B1 : Hid (Below w.heap.size w w1) := ((Below.refl _ _).alloc (Nat.le_refl _) _).trans (b1.mono (by simp))
    clear b1
    rw [hg]
    go_wp2
    go_ret3
    exact ⟨rfl, B1.out⟩
  | true =>
    have hx : spB (p, q) = false := by rw [hg, Bool.true_and] at h; exact h
    clear h
    go_enter Try.func22, Try.ntmps22
    go_wp2_with fail
    refine (sgood_any v xs _ (HR.out.below ((Below.refl _ _).alloc (Nat.le_refl _) _))).mono ?_
    rintro e w1 ⟨rfl, b1⟩
    have c0 := (b1.cell (p := ⟨w.heap.size, 0, none⟩) (by simp)).trans (show _ = some (.int .i64 p) by simp)
    have c1 := (b1.cell (p := ⟨w.heap.size, 1, none⟩) (by simp)).trans (show _ = some (.int .i64 q) by simp)
    have B1 : Hid (Below w.heap.size w w1) := ((Below.refl _ _).alloc (Nat.le_refl _) _).trans (b1.mono (by simp))
    clear b1
    rw [hg]
    go_wp2_with fail
    refine (l2Span_no p q _ hx).mono ?_
    rintro e w2 ⟨rfl, b2⟩
    have B2 : Hid (Below w.heap.size w w2) := B1.out.trans (b2.mono B1.out.size)
    clear b2 c0 c1 B1
    go_wp2
    go_ret3
    exact ⟨rfl, B2.out⟩
end Go.Proofs.Ytndbdioignmaeaa

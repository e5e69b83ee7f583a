/-
  spec.RunTurns where nothing is run: no turns. Nothing old is written.
  impl.RunTurns, spec.RunTurns in one contract each. Nothing old is written.
-/
import Derived.Test.YteeaebelknpdjacSGoodT
import Derived.Test.YteeaebelknpdjacTurnGood
import Derived.Test.YteeaebelknpdjacSIn
import Derived.Test.YteeaebelknpdjacInfoII
import Derived.Test.YteeaebelknpdjacSRun
import Derived.Test.YteeaebelknpdjacIRun
namespace Go.Proofs.Yteeaebelknpdjac
open Go.RowKit

set_option maxRecDepth 100000 in
set_option maxHeartbeats 16000000 in
theorem srun_no (v : Value) (D : TuD) (q : Int) (w : World) (hr : TuReads w v D) (h : (goodTu D && decide (0 ≤ q ∧ q ≤ 60)) = false) :
    Calls Try.prog 50 #[v, .int .i64 q] w fun e w' => ∃ u0, e = .returned (.tuple #[u0, .bool false]) ∧ TuOwn (Iv w.heap.size w'.heap.size) w' u0 noT ∧ Below w.heap.size w w' := by
  have HP := hid h
  clear h
  have HR := hid hr
  obtain ⟨v0, v1, v2, v3, rfl, r0, r1, r2, r3⟩ := hr
  obtain ⟨a0, p0, rfl, _, _⟩ := r0
  obtain ⟨a1, p1, rfl, _, _⟩ := r1
  obtain ⟨a2, p2, rfl, _, _⟩ := r2
  obtain ⟨a3, p3, rfl, _, _⟩ := r3
  obtain ⟨z, hz⟩ : ∃ z, z = D.f4 := ⟨_, rfl⟩
  rw [← hz] at HR ⊢
  clear hz
  obtain ⟨t, ht⟩ : ∃ t, goodTu D = t := ⟨_, rfl⟩
  have HT := hid ht
  clear ht
  have PA := hid (boxL_new w [.slice a0 D.f0.length p0, .slice a1 D.f1.length p1, .slice a2 D.f2.length p2, .slice a3 D.f3.length p3, .int .i64 z] 55)
  have PR := hid (boxL_new (w.alloc (.cells #[.slice a0 D.f0.length p0, .slice a1 D.f1.length p1, .slice a2 D.f2.length p2, .slice a3 D.f3.length p3, .int .i64 z] 55)) [.slice none 0 0, .slice none 0 0, .slice none 0 0, .slice none 0 0, .int .i64 0] 55)
  replace PA := hid (PA.out.below ((Below.refl _ _).alloc (Nat.le_refl _) (.cells #[.slice none 0 0, .slice none 0 0, .slice none 0 0, .slice none 0 0, .int .i64 0] 55)) PA.out.lt)
  rw [World.size_alloc] at PR
  have B0 : Hid (Below w.heap.size w ((w.alloc (.cells #[.slice a0 D.f0.length p0, .slice a1 D.f1.length p1, .slice a2 D.f2.length p2, .slice a3 D.f3.length p3, .int .i64 z] 55)).alloc (.cells #[.slice none 0 0, .slice none 0 0, .slice none 0 0, .slice none 0 0, .int .i64 0] 55))) := ((Below.refl _ _).alloc (Nat.le_refl _) _).alloc (by simp) _
  obtain ⟨q0, q1, q2, q3, q4⟩ := PA.out.five
  go_enter Try.func50, Try.ntmps50
  go_wp2_with fail
  refine (sgoodT_eq _ D t HT.out _ (HR.out.below B0.out)).mono ?_
  rintro e w1 ⟨rfl, b1⟩
  have B1 : Hid (Below w.heap.size w w1) := B0.out.trans (b1.mono B0.out.size)
  have PR1 := hid (PR.out.below b1 PR.out.lt)
  clear b1 q0 q1 q2 q3 q4 PA PR B0
  obtain ⟨t0, t1, t2, t3, t4⟩ := PR1.out.five
  have x0 := (PR1.out.cell 0 (by simp)).2
  have x1 := (PR1.out.cell 1 (by simp)).2
  have x2 := (PR1.out.cell 2 (by simp)).2
  have x3 := (PR1.out.cell 3 (by simp)).2
  have x4 := (PR1.out.cell 4 (by simp)).2
  have op := put5_only w1 (w.heap.size + 1) (.slice none 0 0) (.slice none 0 0) (.slice none 0 0) (.slice none 0 0) (.int .i64 0)
  have bx := put5_box PR1.out (.slice none 0 0) (.slice none 0 0) (.slice none 0 0) (.slice none 0 0) (.int .i64 0)
  have HB := hid (B1.out.trans (op.below (lo := w.heap.size) fun j e => by omega))
  obtain ⟨z0, z1, z2, z3, z4⟩ := bx.five
  clear op bx
  cases t
  · go_wp2
    exact bodyPost_ret (v := .tuple #[.agg #[.slice none 0 0, .slice none 0 0, .slice none 0 0, .slice none 0 0, .int .i64 0], .bool false]) (by simp [results, Try.results50, go_sem, z0, z1, z2, z3, z4]) rfl ⟨_, rfl, noT_own _ _ _, HB.out⟩
  have hq : ¬ (0 ≤ q ∧ q ≤ 60) := by
    have h := HP.out
    rw [HT.out, Bool.true_and, decide_eq_false_iff_not] at h
    exact h
  go_wp2_with fail
  refine (l1In_eq q 0 60 false (by rw [decide_eq_false_iff_not]; exact hq) _).mono ?_
  rintro e w' ⟨rfl, hw⟩; obtain rfl := hw.symm
  go_wp2
  exact bodyPost_ret (v := .tuple #[.agg #[.slice none 0 0, .slice none 0 0, .slice none 0 0, .slice none 0 0, .int .i64 0], .bool false]) (by simp [results, Try.results50, go_sem, z0, z1, z2, z3, z4]) rfl ⟨_, rfl, noT_own _ _ _, HB.out⟩
end Go.Proofs.Yteeaebelknpdjac
namespace Go.Proofs.Yteeaebelknpdjac
open Go.RowKit

def runB (D : TuD) (n : Int) : Bool := (goodTu D && decide (0 ≤ n ∧ n ≤ 60)) && runOkB D n.toNat
def runR (D : TuD) (n : Int) : TuD := bif runB D n then runD D n.toNat else noT
def RunTells (f : Nat) : Prop := ∀ (v : Value) (D : TuD) (n : Int) (w : World), TuReads w v D → Calls Try.prog f #[v, .int .i64 n] w fun e w' => ∃ u, e = .returned (.tuple #[u, .bool (runB D n)]) ∧ TuReads w' u (runR D n) ∧ Below w.heap.size w w'
theorem run_case {f : Nat} (hn : ∀ (v : Value) (D : TuD) (q : Int) (w : World), TuReads w v D → (goodTu D && decide (0 ≤ q ∧ q ≤ 60)) = false → Calls Try.prog f #[v, .int .i64 q] w fun e w' => ∃ u, e = .returned (.tuple #[u, .bool false]) ∧ TuReads w' u noT ∧ Below w.heap.size w w')
    (hy : ∀ (v : Value) (D : TuD) (m : Nat) (w : World), TuReads w v D → goodTu D = true → m ≤ 60 → ∀ (b : Bool), runOkB D m = b → ∀ (R0 : TuD), (b = true → R0 = runD D m) → (b = false → R0 = noT) → Calls Try.prog f #[v, .int .i64 (m : Nat)] w fun e w' => ∃ u, e = .returned (.tuple #[u, .bool b]) ∧ TuReads w' u R0 ∧ Below w.heap.size w w') : RunTells f := by
  intro v D n w hr
  unfold runR runB
  cases h : (goodTu D && decide (0 ≤ n ∧ n ≤ 60)) with
  | false => exact hn v D n w hr h
  | true =>
    have h' := h
    rw [Bool.and_eq_true, decide_eq_true_eq] at h'
    obtain ⟨m, rfl⟩ : ∃ m : Nat, n = (m : Int) := ⟨n.toNat, by omega⟩
    rw [Int.toNat_natCast]
    cases hb : runOkB D m with
    | true => exact hy v D m w hr h'.1 (by omega) true hb _ (fun _ => rfl) (fun h => by cases h)
    | false => exact hy v D m w hr h'.1 (by omega) false hb _ (fun h => by cases h) (fun _ => rfl)
end Go.Proofs.Yteeaebelknpdjac

/-
  The type of rows of rows of numbers. A fact of the program.
  A row of rows, made anew: plain facts on the memory.
  New turns, laid into the answer's box: what is left behind. Plain facts on the memory.
  impl.RunTurns where nothing is run: no turns. Nothing old is written.
-/
import Derived.Test.YteeaebelknpdjacInts
import Derived.Test.YteeaebelknpdjacQSet
import Derived.Test.YteeaebelknpdjacTurnFns
import Derived.Test.YteeaebelknpdjacBut5
import Derived.Test.YteeaebelknpdjacIGoodT
import Derived.Test.YteeaebelknpdjacTurnGood
namespace Go.Proofs.Yteeaebelknpdjac
open Go.RowKit

theorem info_ints : (Try.prog.info? 23).map (fun i => (i.zero, i.size, i.bytes)) = some (some (.slice none 0 0), 1, 24) := by kernel_rfl
end Go.Proofs.Yteeaebelknpdjac
namespace Go.Proofs.Yteeaebelknpdjac
open Go.RowKit

theorem qmade (w : World) (n : Nat) (xss : List (List KEl)) (hx : xss.length = n) (hn : n ≤ 1048576) : QRow (w.alloc (.cells (madeCells #[.slice none 0 0] n) 23)) (w.heap.size, w.heap.size + 1) (.slice (some ⟨w.heap.size, 0, none⟩) n n) (qpart xss 0) (fun _ => (w.heap.size + 1, w.heap.size + 1)) := by
  refine ⟨by rw [length_qpart]; omega, .inr ⟨w.heap.size, n, fun _ => .slice none 0 0, by rw [length_qpart, hx], by rw [length_qpart]; exact ⟨Nat.le_refl _, Nat.lt_succ_self _, by omega⟩, fun i hi => ?_⟩⟩
  rw [length_qpart] at hi
  rw [qpart_get xss 0 i hi, if_neg (by omega)]
  refine ⟨?_, ?_, kown_nil _ _ _ _ _⟩
  · rw [World.cell?_alloc_new]
    simp [madeCells, show i < n by omega, Nat.mod_one]
  · show World.frozen? _ _ = false
    simp
end Go.Proofs.Yteeaebelknpdjac
namespace Go.Proofs.Yteeaebelknpdjac
open Go.RowKit

def newT (xs : List Int) : TuD := ⟨xs, List.replicate xs.length [], List.replicate xs.length 0, List.replicate xs.length 0, 0⟩
abbrev put5 (w : World) (b : Nat) (v0 v1 v2 v3 v4 : Value) : World := ((((w.setCell ⟨b, 0, none⟩ v0).setCell ⟨b, 1, none⟩ v1).setCell ⟨b, 2, none⟩ v2).setCell ⟨b, 3, none⟩ v3).setCell ⟨b, 4, none⟩ v4
theorem put5_box {w : World} {b : Nat} {z0 z1 z2 z3 z4 : Value} (h : BoxL w b [z0, z1, z2, z3, z4]) (v0 v1 v2 v3 v4 : Value) : BoxL (put5 w b v0 v1 v2 v3 v4) b [v0, v1, v2, v3, v4] :=
  ((((h.set 0 (by simp) v0).set 1 (by simp) v1).set 2 (by simp) v2).set 3 (by simp) v3).set 4 (by simp) v4
theorem put5_only (w : World) (b : Nat) (v0 v1 v2 v3 v4 : Value) : OnlyP (fun j => j = b) w (put5 w b v0 v1 v2 v3 v4) :=
  ((((onlyP_set _ _ _ _).trans (onlyP_set _ _ _ _)).trans (onlyP_set _ _ _ _)).trans (onlyP_set _ _ _ _)).trans (onlyP_set _ _ _ _)
theorem qpart_nil (xss : List (List KEl)) : qpart xss 0 = List.replicate xss.length [] := by
  apply List.ext_getElem
  · simp [qpart]
  · intro j h1 h2
    simp [qpart]
theorem snew_leaf {w V : World} {xs : List Int} {u0 u1 u2 u3 z0 z1 z2 z3 z4 : Value} {c0 c1 c2 c3 : Nat × Nat} (hB : BoxL V w.heap.size [z0, z1, z2, z3, z4]) (hbel : Below w.heap.size w V)
    (h0 : KOwn c0.1 c0.2 V u0 xs) (h1 : QRow V c1 u1 (List.replicate xs.length []) (fun _ => (c1.2, c1.2))) (h2 : KOwn c2.1 c2.2 V u2 (List.replicate xs.length 0)) (h3 : KOwn c3.1 c3.2 V u3 (List.replicate xs.length 0))
    (hin : (w.heap.size < c0.1 ∧ c0.1 ≤ c0.2 ∧ c0.2 ≤ V.heap.size) ∧ (w.heap.size < c1.1 ∧ c1.1 ≤ c1.2 ∧ c1.2 ≤ V.heap.size) ∧ (w.heap.size < c2.1 ∧ c2.1 ≤ c2.2 ∧ c2.2 ≤ V.heap.size) ∧ (w.heap.size < c3.1 ∧ c3.1 ≤ c3.2 ∧ c3.2 ≤ V.heap.size))
    (hdj : Dj c0 c1 ∧ Dj c0 c2 ∧ Dj c0 c3 ∧ Dj c1 c2 ∧ Dj c1 c3 ∧ Dj c2 c3) :
    TuOwn (Iv w.heap.size (put5 V w.heap.size u0 u1 u2 u3 (.int .i64 0)).heap.size) (put5 V w.heap.size u0 u1 u2 u3 (.int .i64 0)) (.agg #[u0, u1, u2, u3, .int .i64 0]) (newT xs) ∧ Below w.heap.size w (put5 V w.heap.size u0 u1 u2 u3 (.int .i64 0)) ∧ BoxL (put5 V w.heap.size u0 u1 u2 u3 (.int .i64 0)) w.heap.size [u0, u1, u2, u3, .int .i64 0] := by
  have op := put5_only V w.heap.size u0 u1 u2 u3 (.int .i64 0)
  have hs : (put5 V w.heap.size u0 u1 u2 u3 (.int .i64 0)).heap.size = V.heap.size := op.1
  have hl := hB.lt
  obtain ⟨i0, i1, i2, i3⟩ := hin
  obtain ⟨d01, d02, d03, d12, d13, d23⟩ := hdj
  unfold Dj at d01 d02 d03 d12 d13 d23
  refine ⟨⟨u0, u1, u2, u3, c0, c1, c2, c3, fun _ => (c1.2, c1.2), rfl, ⟨fun j hj => ?_, fun j r hj hr hne => ?_⟩, h0.onlyP op (fun g g1 g2 e => by omega), h1.onlyP op (fun g g1 g2 e => by omega) (fun r hr g g1 g2 e => by simp only at g1 g2; omega), h2.onlyP op (fun g g1 g2 e => by omega), h3.onlyP op (fun g g1 g2 e => by omega)⟩, hbel.trans (op.below fun j e => by omega), put5_box hB _ _ _ _ _⟩
  · rcases j with _ | _ | _ | _ | j <;> simp only [tuIv] <;> exact ⟨by omega, fun g g1 g2 => ⟨by omega, by omega⟩⟩
  · rcases j with _ | _ | _ | _ | j <;> rcases r with _ | _ | _ | _ | r <;> simp only [tuIv, Dj] <;> omega
/-- Turns of which nothing is told. -/
def noT : TuD := ⟨[], [], [], [], 0⟩
theorem noT_own (n m : Nat) (w : World) : TuOwn (Iv n m) w (.agg #[.slice none 0 0, .slice none 0 0, .slice none 0 0, .slice none 0 0, .int .i64 0]) noT :=
  ⟨_, _, _, _, (m, m), (m, m), (m, m), (m, m), fun _ => (m, m), rfl, ⟨fun j hj => by
    have hj : j < 4 := hj
    rcases j with _ | _ | _ | _ | j <;> simp only [tuIv] <;> exact ⟨Nat.le_refl _, fun g g1 g2 => by omega⟩, fun j r hj hr hne => by
    have hj : j < 4 := hj
    have hr : r < 4 := hr
    rcases j with _ | _ | _ | _ | j <;> rcases r with _ | _ | _ | _ | r <;> simp only [tuIv, Dj] <;> omega⟩, kown_nil _ _ _ _ _, qrow_nil _ _ _ _ _, kown_nil _ _ _ _ _, kown_nil _ _ _ _ _⟩
theorem newT_tot {xs : List Int} (h : xs.length ≤ 4) : tuTot (newT xs) ≤ 1048576 := by
  have e : preL (List.replicate xs.length []) xs.length = 0 := by
    unfold preL
    rw [List.take_replicate, List.map_replicate]
    simp
  unfold tuTot newT
  simp only [List.length_replicate, e]
  omega
end Go.Proofs.Yteeaebelknpdjac
namespace Go.Proofs.Yteeaebelknpdjac
open Go.RowKit

set_option maxRecDepth 100000 in
set_option maxHeartbeats 16000000 in
theorem irun_no (v : Value) (D : TuD) (q : Int) (w : World) (hr : TuReads w v D) (h : (goodTu D && decide (0 ≤ q ∧ q ≤ 60)) = false) :
    Calls Try.prog 49 #[v, .int .i64 q] w fun e w' => ∃ u0, e = .returned (.tuple #[u0, .bool false]) ∧ TuOwn (Iv w.heap.size w'.heap.size) w' u0 noT ∧ Below w.heap.size w w' := by
  have HP := hid h
  clear h
  have HR := hid hr
  obtain ⟨v0, v1, v2, v3, rfl, r0, r1, r2, r3⟩ := hr
  obtain ⟨a0, p0, rfl, _, _⟩ := r0
  obtain ⟨a1, p1, rfl, _, _⟩ := r1
  obtain ⟨a2, p2, rfl, _, _⟩ := r2
  obtain ⟨a3, p3, rfl, _, _⟩ := r3
  obtain ⟨z, hz⟩ : ∃ z, z = D.f4 := ⟨_, rfl⟩
  rw [← hz] at HR ⊢
  clear hz
  obtain ⟨t, ht⟩ : ∃ t, goodTu D = t := ⟨_, rfl⟩
  have HT := hid ht
  clear ht
  have PA := hid (boxL_new w [.slice a0 D.f0.length p0, .slice a1 D.f1.length p1, .slice a2 D.f2.length p2, .slice a3 D.f3.length p3, .int .i64 z] 55)
  have PR := hid (boxL_new (w.alloc (.cells #[.slice a0 D.f0.length p0, .slice a1 D.f1.length p1, .slice a2 D.f2.length p2, .slice a3 D.f3.length p3, .int .i64 z] 55)) [.slice none 0 0, .slice none 0 0, .slice none 0 0, .slice none 0 0, .int .i64 0] 55)
  replace PA := hid (PA.out.below ((Below.refl _ _).alloc (Nat.le_refl _) (.cells #[.slice none 0 0, .slice none 0 0, .slice none 0 0, .slice none 0 0, .int .i64 0] 55)) PA.out.lt)
  rw [World.size_alloc] at PR
  have B0 : Hid (Below w.heap.size w ((w.alloc (.cells #[.slice a0 D.f0.length p0, .slice a1 D.f1.length p1, .slice a2 D.f2.length p2, .slice a3 D.f3.length p3, .int .i64 z] 55)).alloc (.cells #[.slice none 0 0, .slice none 0 0, .slice none 0 0, .slice none 0 0, .int .i64 0] 55))) := ((Below.refl _ _).alloc (Nat.le_refl _) _).alloc (by simp) _
  obtain ⟨q0, q1, q2, q3, q4⟩ := PA.out.five
  go_enter Try.func49, Try.ntmps49
  go_wp2_with fail
  refine (igoodT_eq _ D t HT.out _ (HR.out.below B0.out)).mono ?_
  rintro e w1 ⟨rfl, b1⟩
  have B1 : Hid (Below w.heap.size w w1) := B0.out.trans (b1.mono B0.out.size)
  have PR1 := hid (PR.out.below b1 PR.out.lt)
  clear b1 q0 q1 q2 q3 q4 PA PR B0
  obtain ⟨t0, t1, t2, t3, t4⟩ := PR1.out.five
  have x0 := (PR1.out.cell 0 (by simp)).2
  have x1 := (PR1.out.cell 1 (by simp)).2
  have x2 := (PR1.out.cell 2 (by simp)).2
  have x3 := (PR1.out.cell 3 (by simp)).2
  have x4 := (PR1.out.cell 4 (by simp)).2
  have op := put5_only w1 (w.heap.size + 1) (.slice none 0 0) (.slice none 0 0) (.slice none 0 0) (.slice none 0 0) (.int .i64 0)
  have bx := put5_box PR1.out (.slice none 0 0) (.slice none 0 0) (.slice none 0 0) (.slice none 0 0) (.int .i64 0)
  have HB := hid (B1.out.trans (op.below (lo := w.heap.size) fun j e => by omega))
  obtain ⟨z0, z1, z2, z3, z4⟩ := bx.five
  clear op bx
  cases t
  · go_wp2
    exact bodyPost_ret (v := .tuple #[.agg #[.slice none 0 0, .slice none 0 0, .slice none 0 0, .slice none 0 0, .int .i64 0], .bool false]) (by simp [results, Try.results49, go_sem, z0, z1, z2, z3, z4]) rfl ⟨_, rfl, noT_own _ _ _, HB.out⟩
  have hq : ¬ (0 ≤ q ∧ q ≤ 60) := by
    have h := HP.out
    rw [HT.out, Bool.true_and, decide_eq_false_iff_not] at h
    exact h
  by_cases hq0 : q < 0
  · have d1 : decide (q < 0) = true := by rw [decide_eq_true_eq]; exact hq0
    go_wp2
    exact bodyPost_ret (v := .tuple #[.agg #[.slice none 0 0, .slice none 0 0, .slice none 0 0, .slice none 0 0, .int .i64 0], .bool false]) (by simp [results, Try.results49, go_sem, z0, z1, z2, z3, z4]) rfl ⟨_, rfl, noT_own _ _ _, HB.out⟩
  have d1 : decide (q < 0) = false := by rw [decide_eq_false_iff_not]; exact hq0
  have d2 : decide (60 < q) = true := by rw [decide_eq_true_eq]; omega
  go_wp2
  exact bodyPost_ret (v := .tuple #[.agg #[.slice none 0 0, .slice none 0 0, .slice none 0 0, .slice none 0 0, .int .i64 0], .bool false]) (by simp [results, Try.results49, go_sem, z0, z1, z2, z3, z4]) rfl ⟨_, rfl, noT_own _ _ _, HB.out⟩
end Go.Proofs.Yteeaebelknpdjac

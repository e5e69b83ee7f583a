/-
  An argument that is a Turns: what it reads as. Plain facts on what is handed in.
  laws.szTurns: what is left of a bound behind all its lengths.
-/
import Derived.Test.YteeaebelknpdjbaBoxL
import Derived.Test.YteeaebelknpdjbaKIntArg
import Derived.Lib.SmallJoins
import Derived.Test.YteeaebelknpdjbaQSz
namespace Go.Proofs.Yteeaebelknpdjba
open Go.ChangeShapes Go.WideShapes Go.Deep Go.RowKit

def TuArg (w : World) (v : Value) (D : TuD) : Prop := ∃ v0 v1 v2 v3, v = .agg #[v0, v1, v2, v3, .int .i64 D.f4] ∧ KArgV w v0 D.f0 ∧ QArgV w v1 D.f1 ∧ KArgV w v2 D.f2 ∧ KArgV w v3 D.f3
theorem TuArg.reads {w : World} {v : Value} {D : TuD} (h : TuArg w v D) (hl : tuTot D ≤ 1048576) : TuReads w v D := by
  unfold tuTot at hl
  obtain ⟨v0, v1, v2, v3, rfl, h0, h1, h2, h3⟩ := h
  exact ⟨v0, v1, v2, v3, rfl, h0.reads (by omega), h1.reads (by omega) (fun j hj => by have := preL_row D.f1 j hj; omega), h2.reads (by omega), h3.reads (by omega)⟩
theorem TuArg.below {w w' : World} {v : Value} {D : TuD} (h : TuArg w v D) (hb : Below w.heap.size w w') : TuArg w' v D := by
  obtain ⟨v0, v1, v2, v3, rfl, h0, h1, h2, h3⟩ := h
  exact ⟨v0, v1, v2, v3, rfl, h0.below hb, h1.below hb, h2.below hb, h3.below hb⟩
set_option maxRecDepth 100000 in
theorem turns_of {H : Type} {enc : TypeId × Value → H} {W : World} {base : Nat} {spare : Nat → Bool} {held : Bool} {r : Reach} {b0 : Nat} {v : Value} {d : DataW H} {p : List MemPlace}
    (hv : Value.okWide Try.prog W r b0 25 v) (h : DataW.Trod enc Try.prog W base spare held 25 v d p) : ∃ D : TuD, TuArg W v D := by
  obtain ⟨cs, rfl, hsz⟩ := okWide_struct Try.underlying25 hv
  rw [show Try.prog.cellsOf 25 = 5 by kernel_rfl] at hsz
  obtain ⟨l⟩ := cs
  match l, hsz with
  | [g0, g1, g2, g3, g4], _ =>
    obtain ⟨fuel, hf⟩ := h
    obtain ⟨xs, n, _, _, _, hlen, hff⟩ := DataW.trod_struct Try.underlying25 hf
    match xs, hlen with
    | [y0, y1, y2, y3, y4], _ =>
      have t0 := hff 0 _ rfl
      change DataW.trod enc Try.prog W base spare held n 22 (List.take (Try.prog.cellsOf 22) (List.drop 0 [g0, g1, g2, g3, g4])) = some y0 at t0
      rw [show Try.prog.cellsOf 22 = 1 by kernel_rfl] at t0
      change DataW.trod enc Try.prog W base spare held n 22 [g0] = some y0 at t0
      obtain ⟨z0, w0⟩ := kargV_of t0
      have t1 := hff 1 _ rfl
      change DataW.trod enc Try.prog W base spare held n 23 (List.take (Try.prog.cellsOf 23) (List.drop 1 [g0, g1, g2, g3, g4])) = some y1 at t1
      rw [show Try.prog.cellsOf 23 = 1 by kernel_rfl] at t1
      change DataW.trod enc Try.prog W base spare held n 23 [g1] = some y1 at t1
      obtain ⟨z1, w1⟩ := qargV_of t1
      have t2 := hff 2 _ rfl
      change DataW.trod enc Try.prog W base spare held n 22 (List.take (Try.prog.cellsOf 22) (List.drop 2 [g0, g1, g2, g3, g4])) = some y2 at t2
      rw [show Try.prog.cellsOf 22 = 1 by kernel_rfl] at t2
      change DataW.trod enc Try.prog W base spare held n 22 [g2] = some y2 at t2
      obtain ⟨z2, w2⟩ := kargV_of t2
      have t3 := hff 3 _ rfl
      change DataW.trod enc Try.prog W base spare held n 22 (List.take (Try.prog.cellsOf 22) (List.drop 3 [g0, g1, g2, g3, g4])) = some y3 at t3
      rw [show Try.prog.cellsOf 22 = 1 by kernel_rfl] at t3
      change DataW.trod enc Try.prog W base spare held n 22 [g3] = some y3 at t3
      obtain ⟨z3, w3⟩ := kargV_of t3
      have t4 := hff 4 _ rfl
      change DataW.trod enc Try.prog W base spare held n 3 (List.take (Try.prog.cellsOf 3) (List.drop 4 [g0, g1, g2, g3, g4])) = some y4 at t4
      rw [show Try.prog.cellsOf 3 = 1 by kernel_rfl] at t4
      change DataW.trod enc Try.prog W base spare held n 3 [g4] = some y4 at t4
      obtain ⟨z4, e4, _, _⟩ := DataW.trod_int (k := .i64) Try.underlying3 t4
      simp only [List.cons.injEq, and_true] at e4
      exact ⟨⟨z0, z1, z2, z3, z4⟩, _, _, _, _, by rw [e4], w0, w1, w2, w3⟩
end Go.Proofs.Yteeaebelknpdjba
namespace Go.Proofs.Yteeaebelknpdjba
open Go.RowKit

set_option maxRecDepth 100000 in
set_option maxHeartbeats 8000000 in
theorem szTurns_any (v : Value) (D : TuD) (w : World) (h : TuArg w v D) (l : Int) (hl0 : 0 ≤ l) (hl1 : l ≤ 1048576) :
    Calls Try.prog 9 #[v, .int .i64 l] w fun e w' => ∃ r : Int, e = .returned (.int .i64 r) ∧ ((r = -1 ∨ r = l - (tuTot D : Nat)) ∧ (0 ≤ r → (tuTot D : Nat) ≤ l) ∧ r ≤ l) ∧ Below w.heap.size w w' := by
  obtain ⟨v0, v1, v2, v3, rfl, h0, h1, h2, h3⟩ := h
  have H0 := hid h0
  have H1 := hid h1
  have H2 := hid h2
  have H3 := hid h3
  have HT : Hid (tuTot D = D.f0.length + (D.f1.length + preL D.f1 D.f1.length) + D.f2.length + D.f3.length) := rfl
  clear h0 h1 h2 h3
  have PB := hid (boxL_new w [v0, v1, v2, v3, .int .i64 D.f4] 25)
  have BW : Hid (Below w.heap.size w (w.alloc (.cells #[v0, v1, v2, v3, .int .i64 D.f4] 25))) := (Below.refl _ _).alloc (Nat.le_refl _) _
  have p0 := (PB.out.cell 0 (by simp)).1
  change World.cell? _ _ = some v0 at p0
  have p1 := (PB.out.cell 1 (by simp)).1
  change World.cell? _ _ = some v1 at p1
  have p2 := (PB.out.cell 2 (by simp)).1
  change World.cell? _ _ = some v2 at p2
  have p3 := (PB.out.cell 3 (by simp)).1
  change World.cell? _ _ = some v3 at p3
  go_enter Try.func9, Try.ntmps9
  go_wp2_with fail
  refine (szIntS_any _ D.f0 _ (H0.out.below BW.out) l (by omega) (by omega)).mono ?_
  rintro e w' ⟨l1, rfl, hl1, hw⟩; obtain rfl := hw.symm
  by_cases hc1 : l1 < 0
  · have hd1 : decide (l1 < 0) = true := by rw [decide_eq_true_eq]; exact hc1
    have HE : Hid (l1 = -1) := by show _ = _; omega
    go_wp2
    go_ret
    exact ⟨_, rfl, ⟨.inl rfl, fun h => absurd h (by decide), by omega⟩, BW.out⟩
  have hd1 : decide (l1 < 0) = false := by rw [decide_eq_false_iff_not]; exact hc1
  go_wp2_with fail
  refine (szIntSS_any _ D.f1 _ (H1.out.below BW.out) l1 (by omega) (by omega)).mono ?_
  rintro e w' ⟨l2, rfl, hl2, hw⟩; obtain rfl := hw.symm
  by_cases hc2 : l2 < 0
  · have hd2 : decide (l2 < 0) = true := by rw [decide_eq_true_eq]; exact hc2
    have HE : Hid (l2 = -1) := by show _ = _; omega
    go_wp2
    go_ret
    exact ⟨_, rfl, ⟨.inl rfl, fun h => absurd h (by decide), by omega⟩, BW.out⟩
  have hd2 : decide (l2 < 0) = false := by rw [decide_eq_false_iff_not]; exact hc2
  go_wp2_with fail
  refine (szIntS_any _ D.f2 _ (H2.out.below BW.out) l2 (by omega) (by omega)).mono ?_
  rintro e w' ⟨l3, rfl, hl3, hw⟩; obtain rfl := hw.symm
  by_cases hc3 : l3 < 0
  · have hd3 : decide (l3 < 0) = true := by rw [decide_eq_true_eq]; exact hc3
    have HE : Hid (l3 = -1) := by show _ = _; omega
    go_wp2
    go_ret
    exact ⟨_, rfl, ⟨.inl rfl, fun h => absurd h (by decide), by omega⟩, BW.out⟩
  have hd3 : decide (l3 < 0) = false := by rw [decide_eq_false_iff_not]; exact hc3
  go_wp2_with fail
  refine (szIntS_any _ D.f3 _ (H3.out.below BW.out) l3 (by omega) (by omega)).mono ?_
  rintro e w' ⟨l4, rfl, hl4, hw⟩; obtain rfl := hw.symm
  by_cases hc4 : l4 < 0
  · have hd4 : decide (l4 < 0) = true := by rw [decide_eq_true_eq]; exact hc4
    have HE : Hid (l4 = -1) := by show _ = _; omega
    go_wp2
    go_ret
    exact ⟨_, rfl, ⟨.inl rfl, fun h => absurd h (by decide), by omega⟩, BW.out⟩
  have hd4 : decide (l4 < 0) = false := by rw [decide_eq_false_iff_not]; exact hc4
  go_wp2
  go_ret
  have ht := HT.out
  refine ⟨_, rfl, ⟨.inr ?_, fun _ => ?_, ?_⟩, BW.out⟩ <;> omega
end Go.Proofs.Yteeaebelknpdjba

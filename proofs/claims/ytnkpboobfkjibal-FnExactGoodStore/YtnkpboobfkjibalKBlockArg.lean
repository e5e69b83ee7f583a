/-
  An argument that is a Block: what it reads as. Plain facts on what is handed in.
  laws.szBlock: what is left of a bound behind all its lengths.
-/
import Derived.Test.YtnkpboobfkjibalKSpanSf
import Derived.Test.YtnkpboobfkjibalKSpanArg
import Derived.Lib.SmallJoins
namespace Go.Proofs.Ytnkpboobfkjibal
open Go.ChangeShapes Go.WideShapes Go.Deep Go.RowKit

def BlArg (w : World) (v : Value) (D : BlD) : Prop := ∃ v3, v = .agg #[.int .i64 D.f0, .int .i64 D.f1, .string D.f2, v3] ∧ (D.f2.size ≤ maxLen) ∧ SpArgV w v3 D.f3
theorem BlArg.reads {w : World} {v : Value} {D : BlD} (h : BlArg w v D) (hl : blTot D ≤ 1048576) : BlReads w v D := by
  unfold blTot at hl
  obtain ⟨v3, rfl, _, h3⟩ := h
  exact ⟨v3, rfl, h3.reads (by omega)⟩
theorem BlArg.below {w w' : World} {v : Value} {D : BlD} (h : BlArg w v D) (hb : Below w.heap.size w w') : BlArg w' v D := by
  obtain ⟨v3, rfl, hstr, h3⟩ := h
  exact ⟨v3, rfl, hstr, h3.below hb⟩
set_option maxRecDepth 100000 in
theorem block_of {H : Type} {enc : TypeId × Value → H} {W : World} {base : Nat} {spare : Nat → Bool} {held : Bool} {r : Reach} {b0 : Nat} {v : Value} {d : DataW H} {p : List MemPlace}
    (hv : Value.okWide Try.prog W r b0 53 v) (h : DataW.Trod enc Try.prog W base spare held 53 v d p) : ∃ D : BlD, BlArg W v D := by
  obtain ⟨cs, rfl, hsz⟩ := okWide_struct Try.underlying53 hv
  rw [show Try.prog.cellsOf 53 = 4 by kernel_rfl] at hsz
  obtain ⟨l⟩ := cs
  match l, hsz with
  | [g0, g1, g2, g3], _ =>
    obtain ⟨fuel, hf⟩ := h
    obtain ⟨xs, n, _, _, _, hlen, hff⟩ := DataW.trod_struct Try.underlying53 hf
    match xs, hlen with
    | [y0, y1, y2, y3], _ =>
      have t0 := hff 0 _ rfl
      change DataW.trod enc Try.prog W base spare held n 3 (List.take (Try.prog.cellsOf 3) (List.drop 0 [g0, g1, g2, g3])) = some y0 at t0
      rw [show Try.prog.cellsOf 3 = 1 by kernel_rfl] at t0
      change DataW.trod enc Try.prog W base spare held n 3 [g0] = some y0 at t0
      obtain ⟨z0, e0, _, _⟩ := DataW.trod_int (k := .i64) Try.underlying3 t0
      simp only [List.cons.injEq, and_true] at e0
      have t1 := hff 1 _ rfl
      change DataW.trod enc Try.prog W base spare held n 3 (List.take (Try.prog.cellsOf 3) (List.drop 1 [g0, g1, g2, g3])) = some y1 at t1
      rw [show Try.prog.cellsOf 3 = 1 by kernel_rfl] at t1
      change DataW.trod enc Try.prog W base spare held n 3 [g1] = some y1 at t1
      obtain ⟨z1, e1, _, _⟩ := DataW.trod_int (k := .i64) Try.underlying3 t1
      simp only [List.cons.injEq, and_true] at e1
      have t2 := hff 2 _ rfl
      change DataW.trod enc Try.prog W base spare held n 9 (List.take (Try.prog.cellsOf 9) (List.drop 2 [g0, g1, g2, g3])) = some y2 at t2
      rw [show Try.prog.cellsOf 9 = 1 by kernel_rfl] at t2
      change DataW.trod enc Try.prog W base spare held n 9 [g2] = some y2 at t2
      obtain ⟨z2, e2, _, m2⟩ := DataW.trod_string Try.underlying9 t2
      simp only [List.cons.injEq, and_true] at e2
      have t3 := hff 3 _ rfl
      change DataW.trod enc Try.prog W base spare held n 51 (List.take (Try.prog.cellsOf 51) (List.drop 3 [g0, g1, g2, g3])) = some y3 at t3
      rw [show Try.prog.cellsOf 51 = 1 by kernel_rfl] at t3
      change DataW.trod enc Try.prog W base spare held n 51 [g3] = some y3 at t3
      obtain ⟨z3, w3⟩ := spargV_of t3
      exact ⟨⟨z0, z1, z2, z3⟩, _, by rw [e0, e1, e2], m2, w3⟩
end Go.Proofs.Ytnkpboobfkjibal
namespace Go.Proofs.Ytnkpboobfkjibal
open Go.RowKit

set_option maxRecDepth 100000 in
set_option maxHeartbeats 8000000 in
theorem szBlock_any (v : Value) (D : BlD) (w : World) (h : BlArg w v D) (l : Int) (hl0 : 0 ≤ l) (hl1 : l ≤ 1048576) :
    Calls Try.prog 24 #[v, .int .i64 l] w fun e w' => ∃ r : Int, e = .returned (.int .i64 r) ∧ ((r = -1 ∨ r = l - (blTot D : Nat)) ∧ (0 ≤ r → (blTot D : Nat) ≤ l) ∧ r ≤ l) ∧ Below w.heap.size w w' := by
  obtain ⟨v3, rfl, hstr, h3⟩ := h
  have H3 := hid h3
  have HT : Hid (blTot D = D.f2.size + D.f3.length) := rfl
  clear h3
  unfold maxLen at hstr
  have PB := hid (boxL_new w [.int .i64 D.f0, .int .i64 D.f1, .string D.f2, v3] 53)
  have BW : Hid (Below w.heap.size w (w.alloc (.cells #[.int .i64 D.f0, .int .i64 D.f1, .string D.f2, v3] 53))) := (Below.refl _ _).alloc (Nat.le_refl _) _
  have p3 := (PB.out.cell 3 (by simp)).1
  change World.cell? _ _ = some v3 at p3
  have p2 := (PB.out.cell 2 (by simp)).1
  change World.cell? _ _ = some (.string D.f2) at p2
  go_enter Try.func24, Try.ntmps24
  obtain ⟨l1, hl1⟩ : ∃ x : Int, x = l - (D.f2.size : Int) := ⟨_, rfl⟩
  have hw1 : IntKind.i64.wrap (l - (D.f2.size : Int)) = l1 := by rw [IntKind.wrap_i64, hl1]; omega
  have HL1 := hid hl1
  by_cases hc1 : l1 < 0
  · have hd1 : decide (l1 < 0) = true := by rw [decide_eq_true_eq]; exact hc1
    go_wp2
    go_ret
    exact ⟨_, rfl, ⟨.inl rfl, fun h => absurd h (by decide), by omega⟩, BW.out⟩
  have hd1 : decide (l1 < 0) = false := by rw [decide_eq_false_iff_not]; exact hc1
  clear hl1
  have hb1 : 0 ≤ l1 ∧ l1 ≤ 1048576 := by have := HL1.out; omega
  go_wp2_with fail
  refine (szSpanS_any _ D.f3 _ (H3.out.below BW.out) l1 (by omega) (by omega)).mono ?_
  rintro e w' ⟨l2, rfl, hl2, hw⟩; obtain rfl := hw.symm
  by_cases hc2 : l2 < 0
  · have hd2 : decide (l2 < 0) = true := by rw [decide_eq_true_eq]; exact hc2
    have HE : Hid (l2 = -1) := by show _ = _; omega
    go_wp2
    go_ret
    exact ⟨_, rfl, ⟨.inl rfl, fun h => absurd h (by decide), by omega⟩, BW.out⟩
  have hd2 : decide (l2 < 0) = false := by rw [decide_eq_false_iff_not]; exact hc2
  go_wp2
  go_ret
  have ht := HT.out
  have hq1 := HL1.out
  refine ⟨_, rfl, ⟨.inr ?_, fun _ => ?_, ?_⟩, BW.out⟩ <;> omega
end Go.Proofs.Ytnkpboobfkjibal

/-
  An argument that is a Sender: what it reads as. Plain facts on what is handed in.
  laws.szSender: what is left of a bound behind all its lengths.
-/
import Derived.Test.YthmkeinhjlmgmahKSpanSf
import Derived.Test.YthmkeinhjlmgmahKIntArg
import Derived.Test.YthmkeinhjlmgmahKSpanV
import Derived.Lib.SmallJoins
namespace Go.Proofs.Ythmkeinhjlmgmah
open Go.ChangeShapes Go.WideShapes Go.Deep Go.RowKit

def SdArg (w : World) (v : Value) (D : SdD) : Prop := ∃ v1 v2, v = .agg #[.int .i64 D.f0, v1, v2] ∧ SpArgV w v1 D.f1 ∧ KArgV w v2 D.f2
theorem SdArg.reads {w : World} {v : Value} {D : SdD} (h : SdArg w v D) (hl : sdTot D ≤ 1048576) : SdReads w v D := by
  unfold sdTot at hl
  obtain ⟨v1, v2, rfl, h1, h2⟩ := h
  exact ⟨v1, v2, rfl, h1.reads (by omega), h2.reads (by omega)⟩
theorem SdArg.below {w w' : World} {v : Value} {D : SdD} (h : SdArg w v D) (hb : Below w.heap.size w w') : SdArg w' v D := by
  obtain ⟨v1, v2, rfl, h1, h2⟩ := h
  exact ⟨v1, v2, rfl, h1.below hb, h2.below hb⟩
set_option maxRecDepth 100000 in
theorem sender_of {H : Type} {enc : TypeId × Value → H} {W : World} {base : Nat} {spare : Nat → Bool} {held : Bool} {r : Reach} {b0 : Nat} {v : Value} {d : DataW H} {p : List MemPlace}
    (hv : Value.okWide Try.prog W r b0 42 v) (h : DataW.Trod enc Try.prog W base spare held 42 v d p) : ∃ D : SdD, SdArg W v D := by
  obtain ⟨cs, rfl, hsz⟩ := okWide_struct Try.underlying42 hv
  rw [show Try.prog.cellsOf 42 = 3 by kernel_rfl] at hsz
  obtain ⟨l⟩ := cs
  match l, hsz with
  | [g0, g1, g2], _ =>
    obtain ⟨fuel, hf⟩ := h
    obtain ⟨xs, n, _, _, _, hlen, hff⟩ := DataW.trod_struct Try.underlying42 hf
    match xs, hlen with
    | [y0, y1, y2], _ =>
      have t0 := hff 0 _ rfl
      change DataW.trod enc Try.prog W base spare held n 3 (List.take (Try.prog.cellsOf 3) (List.drop 0 [g0, g1, g2])) = some y0 at t0
      rw [show Try.prog.cellsOf 3 = 1 by kernel_rfl] at t0
      change DataW.trod enc Try.prog W base spare held n 3 [g0] = some y0 at t0
      obtain ⟨z0, e0, _, _⟩ := DataW.trod_int (k := .i64) Try.underlying3 t0
      simp only [List.cons.injEq, and_true] at e0
      have t1 := hff 1 _ rfl
      change DataW.trod enc Try.prog W base spare held n 40 (List.take (Try.prog.cellsOf 40) (List.drop 1 [g0, g1, g2])) = some y1 at t1
      rw [show Try.prog.cellsOf 40 = 1 by kernel_rfl] at t1
      change DataW.trod enc Try.prog W base spare held n 40 [g1] = some y1 at t1
      obtain ⟨z1, w1⟩ := spargV_of t1
      have t2 := hff 2 _ rfl
      change DataW.trod enc Try.prog W base spare held n 22 (List.take (Try.prog.cellsOf 22) (List.drop 2 [g0, g1, g2])) = some y2 at t2
      rw [show Try.prog.cellsOf 22 = 1 by kernel_rfl] at t2
      change DataW.trod enc Try.prog W base spare held n 22 [g2] = some y2 at t2
      obtain ⟨z2, w2⟩ := kargV_of t2
      exact ⟨⟨z0, z1, z2⟩, _, _, by rw [e0], w1, w2⟩
end Go.Proofs.Ythmkeinhjlmgmah
namespace Go.Proofs.Ythmkeinhjlmgmah
open Go.RowKit

set_option maxRecDepth 100000 in
set_option maxHeartbeats 8000000 in
theorem szSender_any (v : Value) (D : SdD) (w : World) (h : SdArg w v D) (l : Int) (hl0 : 0 ≤ l) (hl1 : l ≤ 1048576) :
    Calls Try.prog 19 #[v, .int .i64 l] w fun e w' => ∃ r : Int, e = .returned (.int .i64 r) ∧ ((r = -1 ∨ r = l - (sdTot D : Nat)) ∧ (0 ≤ r → (sdTot D : Nat) ≤ l) ∧ r ≤ l) ∧ Below w.heap.size w w' := by
  obtain ⟨v1, v2, rfl, h1, h2⟩ := h
  have H1 := hid h1
  have H2 := hid h2
  have HT : Hid (sdTot D = D.f1.length + D.f2.length) := rfl
  clear h1 h2
  have PB := hid (boxL_new w [.int .i64 D.f0, v1, v2] 42)
  have BW : Hid (Below w.heap.size w (w.alloc (.cells #[.int .i64 D.f0, v1, v2] 42))) := (Below.refl _ _).alloc (Nat.le_refl _) _
  have p1 := (PB.out.cell 1 (by simp)).1
  change World.cell? _ _ = some v1 at p1
  have p2 := (PB.out.cell 2 (by simp)).1
  change World.cell? _ _ = some v2 at p2
  go_enter Try.func19, Try.ntmps19
  go_wp2_with fail
  refine (szSpanS_any _ D.f1 _ (H1.out.below BW.out) l (by omega) (by omega)).mono ?_
  rintro e w' ⟨l1, rfl, hl1, hw⟩; obtain rfl := hw.symm
  by_cases hc1 : l1 < 0
  · have hd1 : decide (l1 < 0) = true := by rw [decide_eq_true_eq]; exact hc1
    have HE : Hid (l1 = -1) := by show _ = _; omega
    go_wp2
    go_ret
    exact ⟨_, rfl, ⟨.inl rfl, fun h => absurd h (by decide), by omega⟩, BW.out⟩
  have hd1 : decide (l1 < 0) = false := by rw [decide_eq_false_iff_not]; exact hc1
  go_wp2_with fail
  refine (szIntS_any _ D.f2 _ (H2.out.below BW.out) l1 (by omega) (by omega)).mono ?_
  rintro e w' ⟨l2, rfl, hl2, hw⟩; obtain rfl := hw.symm
  by_cases hc2 : l2 < 0
  · have hd2 : decide (l2 < 0) = true := by rw [decide_eq_true_eq]; exact hc2
    have HE : Hid (l2 = -1) := by show _ = _; omega
    go_wp2
    go_ret
    exact ⟨_, rfl, ⟨.inl rfl, fun h => absurd h (by decide), by omega⟩, BW.out⟩
  have hd2 : decide (l2 < 0) = false := by rw [decide_eq_false_iff_not]; exact hc2
  go_wp2
  go_ret
  have ht := HT.out
  refine ⟨_, rfl, ⟨.inr ?_, fun _ => ?_, ?_⟩, BW.out⟩ <;> omega
end Go.Proofs.Ythmkeinhjlmgmah

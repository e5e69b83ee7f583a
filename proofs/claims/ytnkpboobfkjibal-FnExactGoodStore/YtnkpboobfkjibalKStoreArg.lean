/-
  An argument that is a Store: what it reads as. Plain facts on what is handed in.
  laws.szBlockS: what is left of a bound behind a row's length and all that lies in it. Nothing old is written.
  laws.szStore: what is left of a bound behind all its lengths.
-/
import Derived.Test.YtnkpboobfkjibalKBlocksRows
import Derived.Test.YtnkpboobfkjibalKIntArg
import Derived.Test.YtnkpboobfkjibalKBlocksV
import Derived.Lib.SmallJoins
import Derived.Test.YtnkpboobfkjibalKBlockArg
namespace Go.Proofs.Ytnkpboobfkjibal
open Go.ChangeShapes Go.WideShapes Go.Deep Go.RowKit

def StArg (w : World) (v : Value) (D : StD) : Prop := ∃ v0 v1, v = .agg #[v0, v1] ∧ BlsArgV w v0 D.f0 ∧ KArgV w v1 D.f1
theorem StArg.reads {w : World} {v : Value} {D : StD} (h : StArg w v D) (hl : stTot D ≤ 1048576) : StReads w v D := by
  unfold stTot at hl
  obtain ⟨v0, v1, rfl, h0, h1⟩ := h
  exact ⟨v0, v1, rfl, h0.reads (by omega), h1.reads (by omega)⟩
theorem StArg.below {w w' : World} {v : Value} {D : StD} (h : StArg w v D) (hb : Below w.heap.size w w') : StArg w' v D := by
  obtain ⟨v0, v1, rfl, h0, h1⟩ := h
  exact ⟨v0, v1, rfl, h0.below hb, h1.below hb⟩
set_option maxRecDepth 100000 in
theorem store_of {H : Type} {enc : TypeId × Value → H} {W : World} {base : Nat} {spare : Nat → Bool} {held : Bool} {r : Reach} {b0 : Nat} {v : Value} {d : DataW H} {p : List MemPlace}
    (hv : Value.okWide Try.prog W r b0 25 v) (h : DataW.Trod enc Try.prog W base spare held 25 v d p) : ∃ D : StD, StArg W v D := by
  obtain ⟨cs, rfl, hsz⟩ := okWide_struct Try.underlying25 hv
  rw [show Try.prog.cellsOf 25 = 2 by kernel_rfl] at hsz
  obtain ⟨l⟩ := cs
  match l, hsz with
  | [g0, g1], _ =>
    obtain ⟨fuel, hf⟩ := h
    obtain ⟨xs, n, _, _, _, hlen, hff⟩ := DataW.trod_struct Try.underlying25 hf
    match xs, hlen with
    | [y0, y1], _ =>
      have t0 := hff 0 _ rfl
      change DataW.trod enc Try.prog W base spare held n 22 (List.take (Try.prog.cellsOf 22) (List.drop 0 [g0, g1])) = some y0 at t0
      rw [show Try.prog.cellsOf 22 = 1 by kernel_rfl] at t0
      change DataW.trod enc Try.prog W base spare held n 22 [g0] = some y0 at t0
      obtain ⟨z0, w0⟩ := blsargV_of t0
      have t1 := hff 1 _ rfl
      change DataW.trod enc Try.prog W base spare held n 23 (List.take (Try.prog.cellsOf 23) (List.drop 1 [g0, g1])) = some y1 at t1
      rw [show Try.prog.cellsOf 23 = 1 by kernel_rfl] at t1
      change DataW.trod enc Try.prog W base spare held n 23 [g1] = some y1 at t1
      obtain ⟨z1, w1⟩ := kargV_of t1
      exact ⟨⟨z0, z1⟩, _, _, by rw [], w0, w1⟩
end Go.Proofs.Ytnkpboobfkjibal
namespace Go.Proofs.Ytnkpboobfkjibal
open Go.RowKit

set_option maxRecDepth 100000 in
set_option maxHeartbeats 4000000 in
theorem szBlockS_any (v : Value) (xs : List BlD) (w : World) (h : BlsArgV w v xs) (l : Int) (h0 : 0 ≤ l) (h1 : l ≤ 1048576) :
    Calls Try.prog 9 #[v, .int .i64 l] w fun e w' => ∃ r : Int, e = .returned (.int .i64 r) ∧ ((r = -1 ∨ r = l - (blsTot xs : Nat)) ∧ (0 ≤ r → (blsTot xs : Nat) ≤ l) ∧ -1 ≤ r ∧ r ≤ l) ∧ Below w.heap.size w w' := by
  obtain ⟨a, cap, rfl, ⟨hc, hm⟩, hx⟩ := h
  unfold maxLen at hm
  have hw : IntKind.i64.wrap (l - (xs.length : Int)) = l - xs.length := by rw [IntKind.wrap_i64]; omega
  have HX := hid hx
  clear hx
  by_cases hl : l - (xs.length : Int) < 0
  · have hd : decide (l - (xs.length : Int) < 0) = true := by simpa using hl
    go_enter Try.func9, Try.ntmps9
    go_wp2
    go_ret
    exact ⟨-1, rfl, ⟨.inl rfl, by omega, by omega, by omega⟩, Below.refl _ _⟩
  have hd : decide (l - (xs.length : Int) < 0) = false := by simpa using hl
  obtain ⟨l0, hl0⟩ : ∃ l0 : Int, l0 = l - xs.length := ⟨_, rfl⟩
  have HL0 := hid hl0
  have hlb : 0 ≤ l0 ∧ l0 ≤ 1048576 := by omega
  rw [← hl0] at hw hd
  go_enter Try.func9, Try.ntmps9
  rw [hl0] at hd
  go_wp2
  rw [← hl0]
  clear hl0 hw hd
  go_loopw [1, 5] (fun m i wr => ∃ j : Nat, ∃ t : Int, j ≤ xs.length ∧ i = .int .i64 j ∧ m = .int .i64 t ∧ (0 ≤ t ∧ t = l0 - (preC blTot xs j : Nat)) ∧ Below w.heap.size w wr) (fun _ i _ => xs.length - (intOf i).toNat)
  case atStart => exact ⟨0, l0, Nat.zero_le _, rfl, rfl, ⟨by omega, by rw [preC_zero]; omega⟩, Below.refl _ _⟩
  case round =>
    obtain ⟨j, t, hj, rfl, rfl, ht, hbel⟩ := hrel
    by_cases hlt : j < xs.length
    · obtain ⟨b, off, rfl, hcs⟩ : ∃ b off, a = some ⟨b, off, none⟩ ∧ ∀ i, i < xs.length → ∃ vs, CellsL w b (off + i * 4) vs ∧ vs.length = 4 ∧ BlArg w (.agg vs.toArray) (xs.getD i blZ) := by
        rcases HX.out with h | h
        · subst h; simp at hlt
        · exact h
      obtain ⟨vs, hc1, hvl, hA⟩ := hcs j hlt
      match vs, hvl, hc1, hA with
      | [y0, y1, y2, y3], _, hc1, hA =>
      have hc2 := hc1.below hbel (hc1.lt (by simp))
      have HA := hid (hA.below hbel)
      have hst := preC_succ blTot xs j hlt blZ
      have HST := hid hst
      have hsz := hbel.size
      have HB := hid hbel
      obtain ⟨ht0, ht1⟩ := ht
      have HT := hid ht1
      have ht2 : t ≤ 1048576 := by omega
      clear hcs hc1 hA hst hbel ht1
      obtain ⟨d, hd0⟩ : ∃ d, d = xs.getD j blZ := ⟨_, rfl⟩
      rw [← hd0] at HA HST
      clear hd0
      obtain ⟨c0, c1, c2, c3⟩ := hc2.four
      clear hc2
      go_wp2_with fail
      refine (szBlock_any _ d _ HA.out t (by omega) (by omega)).mono ?_
      rintro e w2 ⟨r, rfl, hr, b2⟩
      replace HB : Hid (Below w.heap.size w w2) := HB.out.trans (b2.mono HB.out.size)
      clear b2 c0 c1 c2 c3
      by_cases hn : r < 0
      · have hd2 : decide (r < 0) = true := by simpa using hn
        go_wp2
        go_ret
        exact ⟨-1, rfl, ⟨.inl rfl, by omega, by omega, by omega⟩, HB.out⟩
      · have hd2 : decide (r < 0) = false := by simpa using hn
        have HRR := hid hr
        clear hr
        go_wp2
        go_roundw
        case rel => exact ⟨j + 1, r, by omega, by go_num, rfl, ⟨by omega, by have q1 := HRR.out; have q2 := HST.out; have q3 := HT.out; omega⟩, HB.out⟩
        case measure => simp [intOf]; omega
    · obtain rfl : j = xs.length := by omega
      have HT := hid ht
      have hbb : t ≤ 1048576 := by omega
      clear ht
      go_wp2
      go_ret
      have ht := HT.out
      have h9 := HL0.out
      unfold blsTot
      exact ⟨_, rfl, ⟨.inr (by omega), by omega, by omega, by omega⟩, hbel⟩
end Go.Proofs.Ytnkpboobfkjibal
namespace Go.Proofs.Ytnkpboobfkjibal
open Go.RowKit

set_option maxRecDepth 100000 in
set_option maxHeartbeats 8000000 in
theorem szStore_any (v : Value) (D : StD) (w : World) (h : StArg w v D) (l : Int) (hl0 : 0 ≤ l) (hl1 : l ≤ 1048576) :
    Calls Try.prog 4 #[v, .int .i64 l] w fun e w' => ∃ r : Int, e = .returned (.int .i64 r) ∧ ((r = -1 ∨ r = l - (stTot D : Nat)) ∧ (0 ≤ r → (stTot D : Nat) ≤ l) ∧ r ≤ l) ∧ Below w.heap.size w w' := by
  obtain ⟨v0, v1, rfl, h0, h1⟩ := h
  have H0 := hid h0
  have H1 := hid h1
  have HT : Hid (stTot D = blsTot D.f0 + D.f1.length) := rfl
  clear h0 h1
  have PB := hid (boxL_new w [v0, v1] 25)
  have BW : Hid (Below w.heap.size w (w.alloc (.cells #[v0, v1] 25))) := (Below.refl _ _).alloc (Nat.le_refl _) _
  have p0 := (PB.out.cell 0 (by simp)).1
  change World.cell? _ _ = some v0 at p0
  have p1 := (PB.out.cell 1 (by simp)).1
  change World.cell? _ _ = some v1 at p1
  go_enter Try.func4, Try.ntmps4
  go_wp2_with fail
  refine (szBlockS_any _ D.f0 _ (H0.out.below BW.out) l (by omega) (by omega)).mono ?_
  rintro e w1 ⟨l1, rfl, hl1, b⟩
  replace PB := hid (PB.out.below b PB.out.lt)
  replace BW : Hid (Below w.heap.size w w1) := BW.out.trans (b.mono BW.out.size)
  clear b p0 p1
  have p0 := (PB.out.cell 0 (by simp)).1
  change World.cell? _ _ = some v0 at p0
  have p1 := (PB.out.cell 1 (by simp)).1
  change World.cell? _ _ = some v1 at p1
  by_cases hc1 : l1 < 0
  · have hd1 : decide (l1 < 0) = true := by rw [decide_eq_true_eq]; exact hc1
    have HE : Hid (l1 = -1) := by show _ = _; omega
    go_wp2
    go_ret
    exact ⟨_, rfl, ⟨.inl rfl, fun h => absurd h (by decide), by omega⟩, BW.out⟩
  have hd1 : decide (l1 < 0) = false := by rw [decide_eq_false_iff_not]; exact hc1
  go_wp2_with fail
  refine (szIntS_any _ D.f1 _ (H1.out.below BW.out) l1 (by omega) (by omega)).mono ?_
  rintro e w' ⟨l2, rfl, hl2, hw⟩; obtain rfl := hw.symm
  by_cases hc2 : l2 < 0
  · have hd2 : decide (l2 < 0) = true := by rw [decide_eq_true_eq]; exact hc2
    have HE : Hid (l2 = -1) := by show _ = _; omega
    go_wp2
    go_ret
    exact ⟨_, rfl, ⟨.inl rfl, fun h => absurd h (by decide), by omega⟩, BW.out⟩
  have hd2 : decide (l2 < 0) = false := by rw [decide_eq_false_iff_not]; exact hc2
  go_wp2
  go_ret
  have ht := HT.out
  refine ⟨_, rfl, ⟨.inr ?_, fun _ => ?_, ?_⟩, BW.out⟩ <;> omega
end Go.Proofs.Ytnkpboobfkjibal

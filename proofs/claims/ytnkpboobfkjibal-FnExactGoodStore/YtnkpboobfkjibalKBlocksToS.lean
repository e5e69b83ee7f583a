/-
  laws.toBlockS: copied into memory of its own. Nothing old is written.
-/
import Derived.Test.YtnkpboobfkjibalKBlocksRows
import Derived.Test.YtnkpboobfkjibalKBlockTo
import Derived.Test.YtnkpboobfkjibalRpMade
namespace Go.Proofs.Ytnkpboobfkjibal
open Go.RowKit

set_option maxRecDepth 100000 in
set_option maxHeartbeats 8000000 in
theorem toBlockS_any (va : Value) (xs : List BlD) (w : World) (ha : BlsReads w va xs) (hx : blsTot xs ≤ 1048576) :
    Calls Try.prog 15 #[va] w fun e w' => ∃ v, e = .returned v ∧ BlsOwn w.heap.size w'.heap.size w' v xs ∧ Below w.heap.size w w' := by
  have hlx : xs.length ≤ 1048576 := Nat.le_trans (blsTot_len xs) hx
  have HTOT := hid hx
  clear hx
  obtain ⟨a, ca, rfl, hl, hxa⟩ := ha
  obtain ⟨i0, hi, hz0, hz1, hz2⟩ := info_parts info_bl
  have HC := hid hxa
  clear hxa
  go_enter Try.func15, Try.ntmps15
  go_wp2_with (at_make; refine wpList_make_full _ rfl _ _ 28 rfl w.heap.size 38 i0 (.agg #[.int .i64 0, .int .i64 0, .string ⟨#[]⟩, .slice none 0 0]) 4 Try.underlying28 hi hz0 hz1 .i64 .i64 _ _ xs.length rfl rfl rfl rfl (by rw [hz2]; omega) (by unfold maxLen; omega) (Nat.le_refl _) ?_; intro w1 hown1 hgrow1)
  have B1 : Hid (Below w.heap.size w w1) := (Below.refl _ _).grown hgrow1 (Nat.le_refl _) (by intro k hk; cases hk)
  have O1 : Hid (∃ g cap, xs.length ≤ cap ∧ w.heap.size ≤ g ∧ g < w1.heap.size ∧ (xs.length = xs.length)) := ⟨w.heap.size, xs.length, Nat.le_refl _, Nat.le_refl _, (ownsRow_lt hown1), rfl⟩
  have hgl : w.heap.size < w1.heap.size := ownsRow_lt hown1
  have R1 : Hid (RowAt rpBl (Iv w.heap.size w1.heap.size) w1 w.heap.size xs.length (fun _ _ => False) (rpart rpBl xs 0)) := by
    show RowAt _ _ _ _ _ _ _
    rw [rpart_zero]
    exact rowAt_of_made rpBl _ w1 _ _ _ _ _ rfl hown1 ⟨Nat.le_refl _, hgl⟩ (fun w' => ⟨rfl, .slice none 0 0, (0, 0), rfl, ⟨fun i hi => by rcases i with _ | i <;> first | omega | exact ⟨Nat.le_refl _, fun g _ h => absurd h (by simp [blIv])⟩, fun i j hi hj hne => by omega⟩, spown_nil _ _ _ _ _⟩) (by omega)
  clear hown1 hgrow1 O1
  go_loopw [4] (fun i wr => ∃ (k : Nat) (T : Nat → Nat → Prop), k ≤ xs.length ∧ i = .int .i64 k ∧ RowAt rpBl (Iv w.heap.size wr.heap.size) wr w.heap.size xs.length T (rpart rpBl xs k) ∧ Below w.heap.size w wr) (fun i _ => xs.length - (intOf i).toNat)
  case atStart => exact ⟨0, _, Nat.zero_le _, rfl, R1.out, B1.out⟩
  case round =>
    obtain ⟨k, T1, hk, rfl, hrow, hbel⟩ := hrel
    by_cases hlt : k < xs.length
    · obtain ⟨b, off, rfl, hc⟩ : ∃ b off, a = some ⟨b, off, none⟩ ∧ ∀ i, i < xs.length → ∃ vs, CellsL w b (off + i * 4) vs ∧ rpBl.R w vs (xs.getD i blZ) := by
        rcases HC.out with h | h
        · subst h; simp at hlt
        · exact h
      obtain ⟨_, h0, hR0⟩ := hc k hlt
      obtain ⟨p3, rfl, R0⟩ := rpBl_R hR0
      have h1 := h0.below hbel (h0.lt (by simp))
      have RA := hid (R0.below hbel)
      have ht := blsTot_el xs k hlt
      have hst := rpart_step rpBl xs k hlt blZ
      have hl2 := length_rpart rpBl xs k hk
      have HR := hid (hrow.rest k (by omega))
      obtain ⟨cs, hc2, hf2, hO2⟩ := hrow.el k (by omega)
      have hcl : cs.length = 4 := rpBl.olen hO2
      obtain ⟨y, hy⟩ : ∃ y, y = (rpart rpBl xs k).getD k rpBl.z := ⟨_, rfl⟩
      match cs, hcl, hc2 with
      | [y0, y1, y2, y3], _, hc2 =>
      have CC : Hid (CellsL wr w.heap.size (k * 4) [y0, y1, y2, y3]) := hc2
      have FF : Hid (FreeL wr w.heap.size (k * 4) 4) := hf2
      have HW := hid hrow
      have HB := hid hbel
      have hsz := hbel.size
      have HST := hid hst
      have HL2 := hid hl2
      have hlo : w.heap.size < wr.heap.size := hrow.inS.2
      obtain ⟨d, hd0⟩ : ∃ d, d = xs.getD k blZ := ⟨_, rfl⟩
      rw [← hd0] at h1 RA ht
      have HD := hid hd0
      obtain ⟨a0, a1, a2, a3⟩ := h1.four
      clear hc h0 hR0 R0 h1 hst hl2 hrow hbel hc2 hf2 hO2 hy y hd0
      go_wp2_with fail
      refine (toBlock_any _ d _ RA.out (by have := HTOT.out; omega)).mono ?_
      rintro e w2 ⟨u, rfl, o, b2⟩
      have hb2 := b2.size
      obtain ⟨u3, n3, k3, rfl⟩ := o.form
      have OO := hid o
      replace CC := hid (CC.out.below b2 (by omega))
      replace FF := hid (FF.out.of_block (b2.block _ (by omega)))
      have HSUB := hid HR.out.sub
      replace HR := hid ((HR.out.below b2).mono (S' := Iv w.heap.size w2.heap.size) fun g hg => ⟨hg.1, by have := hg.2; omega⟩)
      replace HB : Hid (Below w.heap.size w w2) := HB.out.trans (b2.mono HB.out.size)
      clear o b2 RA HW a0 a1 a2 a3
      obtain ⟨c0, c1, c2, c3⟩ := CC.out.four
      obtain ⟨f0, f1, f2, f3⟩ := FF.out.four
      replace CC : Hid (CellsL (w2.setCell ⟨w.heap.size, k * 4, none⟩ (.int .i64 d.f0)) w.heap.size (k * 4) [.int .i64 d.f0, y1, y2, y3]) := CC.out.set 0 (by simp) (.int .i64 d.f0)
      replace FF : Hid (FreeL (w2.setCell ⟨w.heap.size, k * 4, none⟩ (.int .i64 d.f0)) w.heap.size (k * 4) 4) := fun i hi => by have := FF.out i hi; simpa using this
      replace HR : Hid (RowRest rpBl (Iv w.heap.size w2.heap.size) (w2.setCell ⟨w.heap.size, k * 4, none⟩ (.int .i64 d.f0)) w.heap.size xs.length T1 (rpart rpBl xs k) k) := HR.out.set (k * 4) (by show k * 4 ≤ _; omega) (by show _ < k * 4 + 4; omega) _
      replace HB : Hid (Below w.heap.size w (w2.setCell ⟨w.heap.size, k * 4, none⟩ (.int .i64 d.f0))) := HB.out.setCell (Nat.le_refl _) _
      replace OO : Hid (BlOwn (Iv wr.heap.size w2.heap.size) (w2.setCell ⟨w.heap.size, k * 4, none⟩ (.int .i64 d.f0)) (.agg #[.int .i64 d.f0, .int .i64 d.f1, .string d.f2, .slice u3 n3 k3]) d) := OO.out.at fun g hg _ => Below.heap_setCell _ _ _ _ (by show g ≠ w.heap.size; have := hg.1; omega)
      replace CC : Hid (CellsL ((w2.setCell ⟨w.heap.size, k * 4, none⟩ (.int .i64 d.f0)).setCell ⟨w.heap.size, k * 4 + 1, none⟩ (.int .i64 d.f1)) w.heap.size (k * 4) [.int .i64 d.f0, .int .i64 d.f1, y2, y3]) := CC.out.set 1 (by simp) (.int .i64 d.f1)
      replace FF : Hid (FreeL ((w2.setCell ⟨w.heap.size, k * 4, none⟩ (.int .i64 d.f0)).setCell ⟨w.heap.size, k * 4 + 1, none⟩ (.int .i64 d.f1)) w.heap.size (k * 4) 4) := fun i hi => by have := FF.out i hi; simpa using this
      replace HR : Hid (RowRest rpBl (Iv w.heap.size w2.heap.size) ((w2.setCell ⟨w.heap.size, k * 4, none⟩ (.int .i64 d.f0)).setCell ⟨w.heap.size, k * 4 + 1, none⟩ (.int .i64 d.f1)) w.heap.size xs.length T1 (rpart rpBl xs k) k) := HR.out.set (k * 4 + 1) (by show k * 4 ≤ _; omega) (by show _ < k * 4 + 4; omega) _
      replace HB : Hid (Below w.heap.size w ((w2.setCell ⟨w.heap.size, k * 4, none⟩ (.int .i64 d.f0)).setCell ⟨w.heap.size, k * 4 + 1, none⟩ (.int .i64 d.f1))) := HB.out.setCell (Nat.le_refl _) _
      replace OO : Hid (BlOwn (Iv wr.heap.size w2.heap.size) ((w2.setCell ⟨w.heap.size, k * 4, none⟩ (.int .i64 d.f0)).setCell ⟨w.heap.size, k * 4 + 1, none⟩ (.int .i64 d.f1)) (.agg #[.int .i64 d.f0, .int .i64 d.f1, .string d.f2, .slice u3 n3 k3]) d) := OO.out.at fun g hg _ => Below.heap_setCell _ _ _ _ (by show g ≠ w.heap.size; have := hg.1; omega)
      replace CC : Hid (CellsL (((w2.setCell ⟨w.heap.size, k * 4, none⟩ (.int .i64 d.f0)).setCell ⟨w.heap.size, k * 4 + 1, none⟩ (.int .i64 d.f1)).setCell ⟨w.heap.size, k * 4 + 2, none⟩ (.string d.f2)) w.heap.size (k * 4) [.int .i64 d.f0, .int .i64 d.f1, .string d.f2, y3]) := CC.out.set 2 (by simp) (.string d.f2)
      replace FF : Hid (FreeL (((w2.setCell ⟨w.heap.size, k * 4, none⟩ (.int .i64 d.f0)).setCell ⟨w.heap.size, k * 4 + 1, none⟩ (.int .i64 d.f1)).setCell ⟨w.heap.size, k * 4 + 2, none⟩ (.string d.f2)) w.heap.size (k * 4) 4) := fun i hi => by have := FF.out i hi; simpa using this
      replace HR : Hid (RowRest rpBl (Iv w.heap.size w2.heap.size) (((w2.setCell ⟨w.heap.size, k * 4, none⟩ (.int .i64 d.f0)).setCell ⟨w.heap.size, k * 4 + 1, none⟩ (.int .i64 d.f1)).setCell ⟨w.heap.size, k * 4 + 2, none⟩ (.string d.f2)) w.heap.size xs.length T1 (rpart rpBl xs k) k) := HR.out.set (k * 4 + 2) (by show k * 4 ≤ _; omega) (by show _ < k * 4 + 4; omega) _
      replace HB : Hid (Below w.heap.size w (((w2.setCell ⟨w.heap.size, k * 4, none⟩ (.int .i64 d.f0)).setCell ⟨w.heap.size, k * 4 + 1, none⟩ (.int .i64 d.f1)).setCell ⟨w.heap.size, k * 4 + 2, none⟩ (.string d.f2))) := HB.out.setCell (Nat.le_refl _) _
      replace OO : Hid (BlOwn (Iv wr.heap.size w2.heap.size) (((w2.setCell ⟨w.heap.size, k * 4, none⟩ (.int .i64 d.f0)).setCell ⟨w.heap.size, k * 4 + 1, none⟩ (.int .i64 d.f1)).setCell ⟨w.heap.size, k * 4 + 2, none⟩ (.string d.f2)) (.agg #[.int .i64 d.f0, .int .i64 d.f1, .string d.f2, .slice u3 n3 k3]) d) := OO.out.at fun g hg _ => Below.heap_setCell _ _ _ _ (by show g ≠ w.heap.size; have := hg.1; omega)
      replace CC : Hid (CellsL ((((w2.setCell ⟨w.heap.size, k * 4, none⟩ (.int .i64 d.f0)).setCell ⟨w.heap.size, k * 4 + 1, none⟩ (.int .i64 d.f1)).setCell ⟨w.heap.size, k * 4 + 2, none⟩ (.string d.f2)).setCell ⟨w.heap.size, k * 4 + 3, none⟩ (.slice u3 n3 k3)) w.heap.size (k * 4) [.int .i64 d.f0, .int .i64 d.f1, .string d.f2, .slice u3 n3 k3]) := CC.out.set 3 (by simp) (.slice u3 n3 k3)
      replace FF : Hid (FreeL ((((w2.setCell ⟨w.heap.size, k * 4, none⟩ (.int .i64 d.f0)).setCell ⟨w.heap.size, k * 4 + 1, none⟩ (.int .i64 d.f1)).setCell ⟨w.heap.size, k * 4 + 2, none⟩ (.string d.f2)).setCell ⟨w.heap.size, k * 4 + 3, none⟩ (.slice u3 n3 k3)) w.heap.size (k * 4) 4) := fun i hi => by have := FF.out i hi; simpa using this
      replace HR : Hid (RowRest rpBl (Iv w.heap.size w2.heap.size) ((((w2.setCell ⟨w.heap.size, k * 4, none⟩ (.int .i64 d.f0)).setCell ⟨w.heap.size, k * 4 + 1, none⟩ (.int .i64 d.f1)).setCell ⟨w.heap.size, k * 4 + 2, none⟩ (.string d.f2)).setCell ⟨w.heap.size, k * 4 + 3, none⟩ (.slice u3 n3 k3)) w.heap.size xs.length T1 (rpart rpBl xs k) k) := HR.out.set (k * 4 + 3) (by show k * 4 ≤ _; omega) (by show _ < k * 4 + 4; omega) _
      replace HB : Hid (Below w.heap.size w ((((w2.setCell ⟨w.heap.size, k * 4, none⟩ (.int .i64 d.f0)).setCell ⟨w.heap.size, k * 4 + 1, none⟩ (.int .i64 d.f1)).setCell ⟨w.heap.size, k * 4 + 2, none⟩ (.string d.f2)).setCell ⟨w.heap.size, k * 4 + 3, none⟩ (.slice u3 n3 k3))) := HB.out.setCell (Nat.le_refl _) _
      replace OO : Hid (BlOwn (Iv wr.heap.size w2.heap.size) ((((w2.setCell ⟨w.heap.size, k * 4, none⟩ (.int .i64 d.f0)).setCell ⟨w.heap.size, k * 4 + 1, none⟩ (.int .i64 d.f1)).setCell ⟨w.heap.size, k * 4 + 2, none⟩ (.string d.f2)).setCell ⟨w.heap.size, k * 4 + 3, none⟩ (.slice u3 n3 k3)) (.agg #[.int .i64 d.f0, .int .i64 d.f1, .string d.f2, .slice u3 n3 k3]) d) := OO.out.at fun g hg _ => Below.heap_setCell _ _ _ _ (by show g ≠ w.heap.size; have := hg.1; omega)
      go_wp2
      go_roundw
      case rel =>
        have hl2 := HL2.out
        have hz : (((((w2.setCell ⟨w.heap.size, k * 4, none⟩ (.int .i64 d.f0)).setCell ⟨w.heap.size, k * 4 + 1, none⟩ (.int .i64 d.f1)).setCell ⟨w.heap.size, k * 4 + 2, none⟩ (.string d.f2)).setCell ⟨w.heap.size, k * 4 + 3, none⟩ (.slice u3 n3 k3))).heap.size = w2.heap.size := by simp only [World.size_setCell]
        have hrow := HR.out.join (T' := Iv wr.heap.size w2.heap.size) (x := d) CC.out FF.out ⟨rfl, OO.out⟩ (fun j h => ⟨⟨by have := h.1; omega, h.2⟩, by have := h.1; omega⟩) (fun q j hq hne ht h => by have := (HSUB.out q hq hne j ht).1.2; have := h.1; omega)
        refine ⟨k + 1, fun q => if q = k then Iv wr.heap.size w2.heap.size else T1 q, by omega, by go_num, ?_, HB.out⟩
        rw [← HST.out, ← HD.out, hz]
        exact hrow
      case measure => simp [intOf]; omega
    · obtain rfl : k = xs.length := by omega
      rw [rpart_all] at hrow
      go_wp2
      go_ret
      exact ⟨_, rfl, hrow.close rfl, hbel⟩
end Go.Proofs.Ytnkpboobfkjibal

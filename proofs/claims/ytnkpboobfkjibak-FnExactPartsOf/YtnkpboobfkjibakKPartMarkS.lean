/-
  laws.markPartS: all fields in a row's cells are numbered. Nothing else is written.
-/
import Derived.Test.YtnkpboobfkjibakKPartRows
import Derived.Test.YtnkpboobfkjibakRpMark
import Derived.Test.YtnkpboobfkjibakMkTxt
namespace Go.Proofs.Ytnkpboobfkjibak
open Go.RowKit

def ptMk (k : Int) (_ : PtD) : PtD := ⟨k, k + 1, k + 1 + 1, mkTxt (k + 1 + 1 + 1).toNat⟩
def ptC (_ : PtD) : Nat := 4
theorem ptpre (xs : List PtD) (i : Nat) (h : i ≤ xs.length) : preC ptC xs i = 4 * i := preC_const _ 4 (fun _ => rfl) xs i h
set_option maxRecDepth 100000 in
set_option maxHeartbeats 4000000 in
theorem markPartS_any (S : Nat → Prop) (lo : Nat) (v : Value) (xs : List PtD) (k m : Int) (w : World) (ho : RowO rpPt S w v xs) (hS : ∀ g, S g → lo ≤ g ∧ g < w.heap.size) (_hlo : lo ≤ w.heap.size) (hx : xs.length ≤ 1048576) (h0 : 0 < k) (h1 : k ≤ 100000000) (hm : m = k + (4 * xs.length : Nat)) :
    Calls Try.prog 17 #[v, .int .i64 k] w fun e w' => e = .returned (.int .i64 m) ∧ RowO rpPt S w' v (markL ptMk ptC k xs) ∧ Below lo w w' ∧ OnlyS S w w' := by
  subst hm
  rcases ho with ⟨a, cap, rfl, rfl⟩ | ⟨g, cap, T, rfl, ho⟩
  · go_enter Try.func17, Try.ntmps17
    go_wp2
    go_rounds 1
    all_goals (go_ret; exact ⟨by simp, rowO_nil _ _ _ _ _, Below.refl _ _, OnlyS.refl _ _⟩)
  have HO := hid ho
  have HS := hid hS
  clear ho hS
  go_enter Try.func17, Try.ntmps17
  go_wp2
  go_loopw [1, 5] (fun m i wr => ∃ (j : Nat) (T : Nat → Nat → Prop), j ≤ xs.length ∧ i = .int .i64 j ∧ m = .int .i64 (k + (4 * j : Nat)) ∧ RowAt rpPt S wr g cap T (markP ptMk ptC k xs j) ∧ Below lo w wr ∧ OnlyS S w wr) (fun _ i _ => xs.length - (intOf i).toNat)
  case atStart => exact ⟨0, T, Nat.zero_le _, rfl, by simp, by rw [markP_zero]; exact HO.out, Below.refl _ _, OnlyS.refl _ _⟩
  case round =>
    obtain ⟨j, T1, hj, rfl, rfl, hrow, hbel, hon⟩ := hrel
    by_cases hlt : j < xs.length
    · have hl2 := length_markP ptMk ptC k xs j hj
      have hst := markP_step ptMk ptC k xs j hlt ptZ
      rw [ptpre xs j hj] at hst
      have HR := hid (hrow.rest j (by omega))
      have hgS := HS.out g hrow.inS
      have hws := hbel.size
      obtain ⟨_, hc, hf, rfl⟩ : ∃ vs, CellsL wr g (j * 4) vs ∧ FreeL wr g (j * 4) 4 ∧ vs = ptEnc ((markP ptMk ptC k xs j).getD j ptZ) := hrow.el j (by omega)
      have HG : Hid (S g) := hrow.inS
      have HB := hid hbel
      have HN := hid hon
      have HST := hid hst
      have HL := hid hl2
      clear hrow hbel hon hst hl2
      generalize (markP ptMk ptC k xs j).getD j ptZ = d at hc
      obtain ⟨p, q, r, s⟩ := d
      obtain ⟨n0, hn0⟩ : ∃ n0 : Int, n0 = k + (4 * j : Nat) := ⟨_, rfl⟩
      rw [← hn0]
      have hnb : 0 < n0 ∧ n0 ≤ 200000000 := by omega
      have HN0 := hid hn0
      clear hn0
      have C0 : Hid (CellsL wr g (j * 4) [.int .i64 p, .int .i64 q, .int .i64 r, .string s]) := hc
      obtain ⟨c0, c1, c2, c3⟩ := hc.four
      have FR := hid hf
      obtain ⟨f0, f1, f2, f3⟩ := hf.four
      clear hc hf
      have Z0 : Hid (wr.heap.size = wr.heap.size) := rfl
      have HB0 : Hid (w.heap.size ≤ wr.heap.size) := HB.out.size
      have C1 : Hid (CellsL (wr.setCell ⟨g, j * 4, none⟩ (.int .i64 n0)) g (j * 4) [.int .i64 n0, .int .i64 q, .int .i64 r, .string s]) := C0.out.set 0 (by simp) (.int .i64 n0)
      replace HR : Hid (RowRest rpPt S (wr.setCell ⟨g, j * 4, none⟩ (.int .i64 n0)) g cap T1 (markP ptMk ptC k xs j) j) := HR.out.set (j * 4) (by show j * 4 ≤ _; omega) (by show _ < j * 4 + 4; omega) _
      replace FR : Hid (FreeL (wr.setCell ⟨g, j * 4, none⟩ (.int .i64 n0)) g (j * 4) 4) := fun i hi => by have := FR.out i hi; simpa using this
      replace HB : Hid (Below lo w (wr.setCell ⟨g, j * 4, none⟩ (.int .i64 n0))) := HB.out.setCell (by show lo ≤ g; omega) _
      replace HN : Hid (OnlyS S w (wr.setCell ⟨g, j * 4, none⟩ (.int .i64 n0))) := HN.out.trans (OnlyS.setCell _ _ HG.out _) HB0.out
      clear C0
      clear HB0
      have HB0 : Hid (w.heap.size ≤ (wr.setCell ⟨g, j * 4, none⟩ (.int .i64 n0)).heap.size) := HB.out.size
      have C2 : Hid (CellsL ((wr.setCell ⟨g, j * 4, none⟩ (.int .i64 n0)).setCell ⟨g, j * 4 + 1, none⟩ (.int .i64 (n0 + 1))) g (j * 4) [.int .i64 n0, .int .i64 (n0 + 1), .int .i64 r, .string s]) := C1.out.set 1 (by simp) (.int .i64 (n0 + 1))
      replace HR : Hid (RowRest rpPt S ((wr.setCell ⟨g, j * 4, none⟩ (.int .i64 n0)).setCell ⟨g, j * 4 + 1, none⟩ (.int .i64 (n0 + 1))) g cap T1 (markP ptMk ptC k xs j) j) := HR.out.set (j * 4 + 1) (by show j * 4 ≤ _; omega) (by show _ < j * 4 + 4; omega) _
      replace FR : Hid (FreeL ((wr.setCell ⟨g, j * 4, none⟩ (.int .i64 n0)).setCell ⟨g, j * 4 + 1, none⟩ (.int .i64 (n0 + 1))) g (j * 4) 4) := fun i hi => by have := FR.out i hi; simpa using this
      replace HB : Hid (Below lo w ((wr.setCell ⟨g, j * 4, none⟩ (.int .i64 n0)).setCell ⟨g, j * 4 + 1, none⟩ (.int .i64 (n0 + 1)))) := HB.out.setCell (by show lo ≤ g; omega) _
      replace HN : Hid (OnlyS S w ((wr.setCell ⟨g, j * 4, none⟩ (.int .i64 n0)).setCell ⟨g, j * 4 + 1, none⟩ (.int .i64 (n0 + 1)))) := HN.out.trans (OnlyS.setCell _ _ HG.out _) HB0.out
      clear C1
      clear HB0
      have HB0 : Hid (w.heap.size ≤ ((wr.setCell ⟨g, j * 4, none⟩ (.int .i64 n0)).setCell ⟨g, j * 4 + 1, none⟩ (.int .i64 (n0 + 1))).heap.size) := HB.out.size
      have C3 : Hid (CellsL (((wr.setCell ⟨g, j * 4, none⟩ (.int .i64 n0)).setCell ⟨g, j * 4 + 1, none⟩ (.int .i64 (n0 + 1))).setCell ⟨g, j * 4 + 2, none⟩ (.int .i64 (n0 + 1 + 1))) g (j * 4) [.int .i64 n0, .int .i64 (n0 + 1), .int .i64 (n0 + 1 + 1), .string s]) := C2.out.set 2 (by simp) (.int .i64 (n0 + 1 + 1))
      replace HR : Hid (RowRest rpPt S (((wr.setCell ⟨g, j * 4, none⟩ (.int .i64 n0)).setCell ⟨g, j * 4 + 1, none⟩ (.int .i64 (n0 + 1))).setCell ⟨g, j * 4 + 2, none⟩ (.int .i64 (n0 + 1 + 1))) g cap T1 (markP ptMk ptC k xs j) j) := HR.out.set (j * 4 + 2) (by show j * 4 ≤ _; omega) (by show _ < j * 4 + 4; omega) _
      replace FR : Hid (FreeL (((wr.setCell ⟨g, j * 4, none⟩ (.int .i64 n0)).setCell ⟨g, j * 4 + 1, none⟩ (.int .i64 (n0 + 1))).setCell ⟨g, j * 4 + 2, none⟩ (.int .i64 (n0 + 1 + 1))) g (j * 4) 4) := fun i hi => by have := FR.out i hi; simpa using this
      replace HB : Hid (Below lo w (((wr.setCell ⟨g, j * 4, none⟩ (.int .i64 n0)).setCell ⟨g, j * 4 + 1, none⟩ (.int .i64 (n0 + 1))).setCell ⟨g, j * 4 + 2, none⟩ (.int .i64 (n0 + 1 + 1)))) := HB.out.setCell (by show lo ≤ g; omega) _
      replace HN : Hid (OnlyS S w (((wr.setCell ⟨g, j * 4, none⟩ (.int .i64 n0)).setCell ⟨g, j * 4 + 1, none⟩ (.int .i64 (n0 + 1))).setCell ⟨g, j * 4 + 2, none⟩ (.int .i64 (n0 + 1 + 1)))) := HN.out.trans (OnlyS.setCell _ _ HG.out _) HB0.out
      clear C2
      clear HB0
      have HB0 : Hid (w.heap.size ≤ (((wr.setCell ⟨g, j * 4, none⟩ (.int .i64 n0)).setCell ⟨g, j * 4 + 1, none⟩ (.int .i64 (n0 + 1))).setCell ⟨g, j * 4 + 2, none⟩ (.int .i64 (n0 + 1 + 1))).heap.size) := HB.out.size
      clear HB0
      go_wp2_with fail
      clear c0 c1 c2 c3 f0 f1 f2 f3
      refine (markText_int (n0 + 1 + 1 + 1) _ (by omega) (by omega)).mono ?_
      rintro e w3 ⟨rfl, b⟩
      replace C3 := hid (C3.out.below b (C3.out.lt (by simp)))
      replace HR := hid (HR.out.below b)
      have hlg : g < ((((wr.setCell ⟨g, j * 4, none⟩ (.int .i64 n0)).setCell ⟨g, j * 4 + 1, none⟩ (.int .i64 (n0 + 1))).setCell ⟨g, j * 4 + 2, none⟩ (.int .i64 (n0 + 1 + 1)))).heap.size := by rw [World.size_setCell, World.size_setCell, World.size_setCell]; omega
      replace FR := hid (FR.out.of_block (b.block g hlg))
      replace HN : Hid (OnlyS S w w3) := HN.out.trans (OnlyS.of_below b) HB.out.size
      replace HB : Hid (Below lo w w3) := HB.out.trans (b.mono (by omega))
      clear b
      obtain ⟨c0, c1, c2, c3⟩ := C3.out.four
      obtain ⟨f0, f1, f2, f3⟩ := FR.out.four
      have HB0 : Hid (w.heap.size ≤ w3.heap.size) := HB.out.size
      have C4 : Hid (CellsL (w3.setCell ⟨g, j * 4 + 3, none⟩ (.string (mkTxt (n0 + 1 + 1 + 1).toNat))) g (j * 4) [.int .i64 n0, .int .i64 (n0 + 1), .int .i64 (n0 + 1 + 1), .string (mkTxt (n0 + 1 + 1 + 1).toNat)]) := C3.out.set 3 (by simp) (.string (mkTxt (n0 + 1 + 1 + 1).toNat))
      replace HR : Hid (RowRest rpPt S (w3.setCell ⟨g, j * 4 + 3, none⟩ (.string (mkTxt (n0 + 1 + 1 + 1).toNat))) g cap T1 (markP ptMk ptC k xs j) j) := HR.out.set (j * 4 + 3) (by show j * 4 ≤ _; omega) (by show _ < j * 4 + 4; omega) _
      replace FR : Hid (FreeL (w3.setCell ⟨g, j * 4 + 3, none⟩ (.string (mkTxt (n0 + 1 + 1 + 1).toNat))) g (j * 4) 4) := fun i hi => by have := FR.out i hi; simpa using this
      replace HB : Hid (Below lo w (w3.setCell ⟨g, j * 4 + 3, none⟩ (.string (mkTxt (n0 + 1 + 1 + 1).toNat)))) := HB.out.setCell (by show lo ≤ g; omega) _
      replace HN : Hid (OnlyS S w (w3.setCell ⟨g, j * 4 + 3, none⟩ (.string (mkTxt (n0 + 1 + 1 + 1).toNat)))) := HN.out.trans (OnlyS.setCell _ _ HG.out _) HB0.out
      clear C3
      clear HB0
      go_wp2
      go_roundw
      case rel =>
        have hl2 := HL.out
        have hrow := HR.out.join (T' := fun _ => False) (x := ptMk n0 (xs.getD j ptZ)) C4.out FR.out rfl (fun _ h => h.elim) (fun _ _ _ _ _ h => h.elim)
        refine ⟨j + 1, fun q => if q = j then (fun _ => False) else T1 q, by omega, by go_num, by have := HN0.out; go_num, ?_, HB.out, HN.out⟩
        rw [← HST.out, ← HN0.out]
        exact hrow
      case measure => simp [intOf]; omega
    · obtain rfl : j = xs.length := by omega
      rw [markP_all] at hrow
      go_wp2
      go_ret
      exact ⟨rfl, hrow.close (by rw [length_markL]), hbel, hon⟩
end Go.Proofs.Ytnkpboobfkjibak

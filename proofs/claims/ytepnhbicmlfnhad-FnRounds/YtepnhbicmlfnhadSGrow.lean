/-
  spec.l10Grow: each window one more, in memory of its own. Nothing old is written.
-/
import Derived.Test.YtepnhbicmlfnhadShApp
namespace Go.Proofs.Ytepnhbicmlfnhad
open Go.RowKit

set_option maxRecDepth 100000 in
set_option maxHeartbeats 8000000 in
theorem sgrow_any (v : Value) (D : ShD) (w : World) (hr : ShReads w v D) (hg : GoodS D) :
    Calls Try.prog 31 #[v] w fun e w' => ∃ u0, e = .returned u0 ∧ ShOwn (Iv w.heap.size w'.heap.size) w' u0 (growS D) ∧ Below w.heap.size w w' := by
  obtain ⟨v0, rfl, r0⟩ := hr
  have HG := hid hg
  have hl1 := hg.l1
  have hl5 := hg.l5
  obtain ⟨g, off, cap, rfl, hc⟩ := r0.cells 0 hl1
  obtain ⟨z, hz⟩ : ∃ z, z = D.f1 := ⟨_, rfl⟩
  have HZ := hid hz
  rw [← hz]
  have P := box_two w (.slice (some ⟨g, off, none⟩) D.f0.length cap) (.int .i64 z) (.slice none 0 0) (.int .i64 0) 25
  obtain ⟨W, hW⟩ : ∃ W, W = (w.alloc (.cells #[.slice (some ⟨g, off, none⟩) D.f0.length cap, .int .i64 z] 25)).alloc (.cells #[.slice none 0 0, .int .i64 0] 25) := ⟨_, rfl⟩
  obtain ⟨q0, q1⟩ := P.1.two
  rw [← hW] at P
  have HC : Hid (∀ i, i < D.f0.length → KCells W g (off + i) (fl D.f0 i)) := fun i hi => (hc i hi).below P.2.2.1 (hc i hi).lt
  have HGW : Hid (g < w.heap.size) := (hc 0 hl1).lt
  have PA := hid P.1
  have PR := hid P.2.1
  have B := hid P.2.2.1
  have hWs := P.2.2.2
  have HW := hid hW
  clear P hc r0 hg hW hz
  go_enter Try.func31, Try.ntmps31
  go_wp2
  obtain ⟨PO, BO, hWt⟩ := box_next (w := W) (.slice none 0 0) (.int .i64 z) 25
  rw [hWs] at PO
  rw [← HW.out] at q0 q1 ⊢
  clear q0 q1 HW PA
  obtain ⟨V, hV⟩ : ∃ V, V = W.alloc (.cells #[.slice none 0 0, .int .i64 z] 25) := ⟨_, rfl⟩
  rw [← hV] at PO BO hWt ⊢
  replace PR := hid (PR.out.below BO PR.out.lt)
  replace B := hid (B.out.trans (BO.mono B.out.size))
  replace HC : Hid (∀ i, i < D.f0.length → KCells V g (off + i) (fl D.f0 i)) := fun i hi => (HC.out i hi).below BO (HC.out i hi).lt
  have hgw : g < w.heap.size := HGW.out
  have HPO := hid PO
  have hVs : V.heap.size = w.heap.size + 3 := by omega
  clear PO BO hV hWt hWs
  go_loopw [12] (fun i wr => ∃ (k : Nat) (la : Option Addr) (lc : Nat), k ≤ D.f0.length ∧ i = .int .i64 k ∧ BoxL wr (w.heap.size + 2) [.slice la k lc, .int .i64 z] ∧ wr.ownsRow (w.heap.size + 3) 3 1 (.slice la k lc) k (kflat ((D.f0.map oneMore).take k)) ∧ Below (w.heap.size + 2) V wr) (fun i _ => D.f0.length - (intOf i).toNat)
  case atStart => exact ⟨0, none, 0, Nat.zero_le _, rfl, HPO.out, World.ownsRow_nil _ _ _ _, Below.refl _ _⟩
  case round =>
    obtain ⟨k, la, lc, hk, rfl, hbox, hown, hbel⟩ := hrel
    have HB := hid hbox
    have HO := hid hown
    have HL := hid hbel
    have hsz := hbel.size
    clear hbox hown hbel
    by_cases hlt : k < D.f0.length
    · obtain ⟨x, hx⟩ : ∃ x, x = fl D.f0 k := ⟨_, rfl⟩
      have cx : wr.cell? ⟨g, off + k, none⟩ = some (.int .i64 x) := by rw [hx]; exact (HC.out k hlt).below HL.out (by omega)
      have hb := HG.out.win k hlt
      rw [← hx] at hb
      obtain ⟨y, hy⟩ : ∃ y, y = oneMore x := ⟨_, rfl⟩
      have hw1 : IntKind.i64.wrap (x + 1) = y := by rw [hy, IntKind.wrap_i64]; unfold oneMore; omega
      have HM : Hid ((D.f0.map oneMore).take (k + 1) = (D.f0.map oneMore).take k ++ [y]) := by show _ = _; rw [map_snoc _ _ _ hlt, ← hx, hy]
      have m0 : (0 : Int) ≤ (k : Int) := by omega
      have m1 : (k : Int) < (D.f0.length : Int) := by omega
      obtain ⟨⟨c0, f0⟩, c1, f1⟩ := HB.out.form2
      clear hx hb hy
      go_wp2_with (at_builtin; refine wpList_append_reads _ rfl _ _ rfl (w.heap.size + 3) _ _ _ rfl (HO.out.alloc _) _ [y] rfl (kreads_int _ _) (by simp; omega) (by simp; omega) ?_)
      intro v6 w6 hown6 hgr6 _
      obtain ⟨la6, lc6, rfl, P6, P7, O7, B7, _⟩ := app_box HB.out HO.out v6 hown6 hgr6 (by omega) (by omega)
      rw [← HM.out] at O7
      have HP7 := hid P7
      have HO7 := hid O7
      have HB7 : Hid (Below (w.heap.size + 2) V (w6.setCell ⟨w.heap.size + 2, 0, none⟩ (.slice la6 (k + 1) lc6))) := HL.out.trans B7
      obtain ⟨⟨d0, e0⟩, d1, e1⟩ := P6.form2
      clear hown6 hgr6 P6 P7 O7 B7 c0 c1 f0 f1 HB HO HL
      go_wp2
      go_roundw
      case rel => exact ⟨k + 1, la6, lc6, by omega, by go_num, HP7.out, HO7.out, HB7.out⟩
      case measure => simp [intOf]; omega
    · obtain rfl : k = D.f0.length := by omega
      have ht : (D.f0.map oneMore).take D.f0.length = D.f0.map oneMore := List.take_of_length_le (by simp)
      have O1 := HO.out
      rw [ht] at O1
      have K1 := KOwn.of_owns O1 (by simp; omega)
      have hzz := HZ.out
      have S1 : ShOwn (Iv (w.heap.size + 3) wr.heap.size) wr (.agg #[.slice la D.f0.length lc, .int .i64 z]) (growS D) := by
        rw [hzz]
        exact ShOwn.mk1 (D := growS D) K1 (by omega) (fun g h1 h2 => ⟨h1, h2⟩)
      have R1 := PR.out.below HL.out (by omega)
      have LF := sh_leaf R1 (B.out.trans (HL.out.mono (by omega))) (by omega) S1 (by omega) (Nat.le_refl _) (by omega)
      have HT := hid LF.1
      have HBB := hid LF.2.1
      obtain ⟨t0, t1⟩ := LF.2.2
      obtain ⟨⟨c0, f0⟩, c1, f1⟩ := HB.out.form2
      obtain ⟨⟨y0, x0⟩, y1, x1⟩ := R1.form2
      clear LF R1 S1 K1 O1 ht hzz HO HB HL
      go_wp2
      exact bodyPost_ret (v := .agg #[.slice la D.f0.length lc, .int .i64 z]) (by simp [results, Try.results31, go_sem, t0, t1]) rfl ⟨_, rfl, HT.out, HBB.out⟩
end Go.Proofs.Ytepnhbicmlfnhad
